/- The program's settings in the words of their values; the walk of SettingValues. -/
import Derived.Test.YtmpknmcgljpfkaaMh
import Derived.Test.YtmpknmcgljpfkaaL9s
import Derived.Deep.Cut
namespace Go.Proofs.Ytmpknmcgljpfkaa
open Go.RowKit Go.Maps
set_option linter.unusedVariables false
set_option maxRecDepth 100000
set_option maxHeartbeats 4000000

/-- Settings with the values V, made since w0. -/
structure Set1 (w0 w : World) (g b : Nat) (v : Value) (V : Int → Nat) : Prop where
  set : SetC w g b v
  vals : MapAt w b 7 (valsM V)
  ok : OkV V
  fr : Fr (fun _ => False) w0 w
  new : w0.heap.size ≤ b ∧ w0.heap.size ≤ g
theorem Set1.later {w0 w w' : World} {g b : Nat} {v : Value} {V : Int → Nat} (h : Set1 w0 w g b v V) (hf : Fr (fun _ => False) w w') : Set1 w0 w' g b v V :=
  ⟨h.set.fr hf id, h.vals.fr hf id, h.ok, h.fr.trans hf, h.new⟩
theorem fr_new {S : Nat → Prop} {w0 w w' : World} (h : Fr (fun _ => False) w0 w) (hf : Fr S w w') (hs : ∀ k, S k → w0.heap.size ≤ k) : Fr (fun _ => False) w0 w' :=
  ((h.mono (T := fun k => w0.heap.size ≤ k) (fun _ _ e => e.elim)).trans (hf.mono (fun k _ e => hs k e))).mono (fun k hk e => by omega)
theorem New1 (w0 w : World) (h0 : Fr (fun _ => False) w0 w) : Calls Try.prog 12 #[] w fun e w' => ∃ g b, e = .returned (.pointer (some ⟨g, 0, none⟩)) ∧ Set1 w0 w' g b (.slice none 0 0) firstV ∧ Fr (fun _ => False) w w' ∧ w.heap.size ≤ g ∧ w.heap.size ≤ b := by
  refine (sNew_in w).mono ?_
  rintro e w' ⟨g, b, rfl, h1, h2, h3, h4, h5⟩
  have := h0.size
  exact ⟨g, b, rfl, ⟨h1, h2, okV_first, h0.trans h3, by omega, by omega⟩, h3, by omega, h4⟩
theorem Get1 {w0 w : World} {g b : Nat} {v : Value} {V : Int → Nat} (h : Set1 w0 w g b v V) (d : Int) (hd : IsI d) :
    Calls Try.prog 21 #[.pointer (some ⟨g, 0, none⟩), .int .i64 d] w fun e w' => e = .returned (.int .u32 (getV V d : Nat)) ∧ w = w' := sGet_in g b v V d w h.set h.vals hd
/-- What Apply leaves, in these words. -/
def Appl1 (w0 w : World) (g b : Nat) (v : Value) (V V' : Int → Nat) (cd : Int) (e : Ending) (w' : World) : Prop :=
  e = .returned (.tuple #[.int .i64 (if cd = 0 then (V' 4 : Int) - (V 4 : Int) else 0), .agg #[.bool (cd != 0), .int .i64 0, .int .i64 cd]]) ∧ Set1 w0 w' g b v V' ∧ Fr (fun k => k = b) w w'
theorem Apply1 {w0 w : World} {g b : Nat} {v : Value} {V V' : Int → Nat} {cd : Int} (h : Set1 w0 w g b v V) (q : Option Addr) (c n : Nat) (Y : List (Int × Nat)) (hY : SetsAt w q c Y) (hn : Y.length = n) (ho : applyO V Y = (V', cd)) :
    Calls Try.prog 14 #[.pointer (some ⟨g, 0, none⟩), .slice q n c] w fun e w' => Appl1 w0 w g b v V V' cd e w' := by
  refine (sApply_in g b v V q c n Y w h.set h.vals h.ok hY hn).mono ?_
  rintro e w' ⟨rfl, h1, h2, h3⟩
  have hok := apply_ok Y V h.ok (fun s hs => by
    obtain ⟨r, hr⟩ := List.getElem?_of_mem hs
    obtain ⟨_, _, _, _, _, _, _, h7⟩ := hY.cells r s hr
    exact h7)
  rw [ho] at h2 hok ⊢
  exact ⟨rfl, ⟨h1, h2, hok, fr_new h.fr h3 (fun k e => by subst e; exact h.new.1), h.new⟩, h3⟩
theorem okV_small {V : Int → Nat} (h : OkV V) : V 4 ≤ 2147483647 ∧ 16384 ≤ V 5 ∧ V 5 ≤ 16777215 := by
  have h4 := h.2 4 rfl
  have h5 := h.2 5 rfl
  refine ⟨?_, ?_, ?_⟩
  · by_cases hn : V 4 ≤ 2147483647
    · exact hn
    · simp [codeO, fitsB, badC, hn] at h4
  · by_cases hn : 16384 ≤ V 5
    · exact hn
    · simp [codeO, fitsB, badC, hn] at h5
  · by_cases hn : V 5 ≤ 16777215
    · exact hn
    · simp [codeO, fitsB, badC, hn] at h5
theorem get_check {V : Int → Nat} (h : OkV V) (d : Int) : getV V d = 0 ∨ checkO d (getV V d) = 0 := by
  unfold getV checkO
  cases hk : kn d
  · exact .inl rfl
  · exact .inr (h.2 d hk)
theorem sub_fit {a b : Nat} (ha : a < 4294967296) (hb : b < 4294967296) : -9223372036854775808 ≤ (a : Int) - (b : Int) ∧ (a : Int) - (b : Int) ≤ 9223372036854775807 := by omega

theorem values_walk (q : Option Addr) (c : Nat) (L : List (Option Addr × Nat × List (Int × Nat))) (w : World) (hL : SetssAt w q c L) :
    Calls Try.prog 5 #[.slice q L.length c] w fun e w' => e = .returned (.bool true) ∧ Below w.heap.size w w' := by
  have K1 := New1 w w (Fr.refl _ _)
  have KA : Hid (∀ w, Calls Try.prog 11 #[] w fun e w' => e = .returned (.bool true) ∧ Fr (fun _ => False) w w') := fun w => sawake_in w
  have KC : Hid (∀ d n w, IsI d → Calls Try.prog 9 #[.agg #[.int .i64 d, .int .u32 ((n : Nat) : Int)]] w fun e w' => e = .returned (.int .i64 (checkO d n)) ∧ Fr (fun _ => False) w w') := fun d n w hd => sCheck_in d n w hd
  obtain ⟨n, hn⟩ : ∃ n, L.length = n := ⟨_, rfl⟩
  have HL : Hid (SetssAt w q c L) := hL
  have HN : Hid (L.length = n) := hn
  have hn2 : (n : Int) ≤ 9223372036854775807 := by have := hL.few; have : reachBytes < 2 ^ 47 := reach_lt; omega
  rw [hn]
  clear hn hL
  go_enter Try.func5, Try.ntmps5
  go_wp2_with (go_at_call 12; refine K1.mono ?_; clear K1; rintro e w1 ⟨g, b, rfl, h1, -, -, -⟩; have S1 : Hid (Set1 w w1 g b (.slice none 0 0) firstV) := h1; clear h1)
  go_loopw [4] (fun x4 wr => ∃ (i : Nat) (V : Int → Nat), x4 = .int .i64 (i : Int) ∧ i ≤ n ∧ Hid (Set1 w wr g b (.slice none 0 0) V)) (fun x4 _ => n - (intOf x4).toNat)
  case atStart => exact ⟨0, firstV, rfl, by omega, S1.out⟩
  case round =>
    clear S1
    obtain ⟨i, V, rfl, hin, HS⟩ := hrel
    by_cases hlt : i < n
    · obtain ⟨⟨p, cc, Y⟩, hs⟩ : ∃ s, L[i]? = some s := ⟨L[i]'(by rw [HN.out]; exact hlt), List.getElem?_eq_getElem _⟩
      obtain ⟨gq, oq, rfl, hgq, d0, d1⟩ := (HL.out.later HS.out.fr).cells i _ hs
      have HY : Hid (SetsAt wr p cc Y) := d1
      have hlt2 : (i : Int) < (n : Int) := by omega
      clear hs d1 hgq
      dsimp only at d0
      obtain ⟨m, hm⟩ : ∃ m, Y.length = m := ⟨_, rfl⟩
      rw [hm] at d0
      obtain ⟨⟨V', cd⟩, ho⟩ : ∃ o, applyO V Y = o := ⟨_, rfl⟩
      have K2 := Get1 HS.out 4 (by unfold IsI; omega)
      have K3 := Apply1 HS.out p cc m Y HY.out hm ho
      rw [show getV V 4 = V 4 from rfl] at K2
      obtain ⟨x4, hx4⟩ : ∃ x4, V 4 = x4 := ⟨_, rfl⟩
      unfold Appl1 at K3
      rw [hx4] at K2 K3
      have hx4b : (x4 : Int) ≤ 4294967295 := by have := HS.out.ok.1 4; rw [hx4] at this; omega
      clear hx4 hm ho HY
      obtain ⟨y4, hy4⟩ : ∃ y4, V' 4 = y4 := ⟨_, rfl⟩
      rw [hy4] at K3
      have HY4 : Hid (getV V' 4 = y4) := hy4
      clear hy4
      go_upto_region 8 with (go_at_call 21; refine K2.mono ?_; clear K2; rintro e w2 ⟨rfl, rfl⟩)
      by_cases hz : cd = 0
      case' pos =>
        subst hz
        rw [if_pos rfl, show ((0 : Int) != 0) = false from rfl] at K3
        go_upto_region 9 with (go_at_call 14; refine K3.mono ?_; clear K3; rintro e w3 ⟨rfl, h3, -⟩)
        obtain ⟨w4, hw4⟩ : ∃ w4, w4 = w3.alloc (.cells #[.bool false, .int .i64 0, .int .i64 0] 37) := ⟨_, rfl⟩
        have S4 : Hid (Set1 w w4 g b (.slice none 0 0) V') := by rw [hw4]; exact h3.later ((Fr.refl _ _).alloc _)
        have hx : w4.heap[w3.heap.size]? = some (.cells #[.bool false, .int .i64 0, .int .i64 0] 37 (0, 0)) := by rw [hw4]; exact heap_alloc_new w3 _
        obtain ⟨gf, hgf⟩ : ∃ gf, gf = w3.heap.size := ⟨_, rfl⟩
        rw [← hgf] at hx
        have c0 : w4.cell? ⟨gf, 0, none⟩ = some (.bool false) := cell_of_heap hx rfl
        have hy4b : (y4 : Int) ≤ 4294967295 := by have := h3.ok.1 4; have e := HY4.out; rw [show getV V' 4 = V' 4 from rfl] at e; rw [e] at this; omega
        rw [← hw4, ← hgf]
        clear hw4 hgf h3 hx
        have K4 := Get1 S4.out 4 (by unfold IsI; omega)
        rw [HY4.out] at K4
        go_upto_region 11 with (go_at_call 21; refine K4.mono ?_; clear K4; rintro e w5 ⟨rfl, rfl⟩)
        clear c0
      case' neg =>
        have hb1 : (cd != 0) = true := by simp [hz]
        have hb2 : (cd == 0) = false := by simp [hz]
        rw [if_neg hz, hb1] at K3
        clear hb1
        go_upto_region 9 with (go_at_call 14; refine K3.mono ?_; clear K3; rintro e w3 ⟨rfl, h3, -⟩)
        obtain ⟨w4, hw4⟩ : ∃ w4, w4 = w3.alloc (.cells #[.bool true, .int .i64 0, .int .i64 cd] 37) := ⟨_, rfl⟩
        have S4 : Hid (Set1 w w4 g b (.slice none 0 0) V') := by rw [hw4]; exact h3.later ((Fr.refl _ _).alloc _)
        have hx : w4.heap[w3.heap.size]? = some (.cells #[.bool true, .int .i64 0, .int .i64 cd] 37 (0, 0)) := by rw [hw4]; exact heap_alloc_new w3 _
        obtain ⟨gf, hgf⟩ : ∃ gf, gf = w3.heap.size := ⟨_, rfl⟩
        rw [← hgf] at hx
        have c0 : w4.cell? ⟨gf, 0, none⟩ = some (.bool true) := cell_of_heap hx rfl
        have c1 : w4.cell? ⟨gf, 1, none⟩ = some (.int .i64 0) := cell_of_heap hx rfl
        have c2 : w4.cell? ⟨gf, 2, none⟩ = some (.int .i64 cd) := cell_of_heap hx rfl
        rw [← hw4, ← hgf]
        clear hw4 hgf h3 hx
        go_upto_region 11 with (fail)
        clear c0 c1 c2 hb2 hz
      all_goals clear HS d0
      all_goals go_wp2_with (fail)
      all_goals go_loopw [8] (fun x8 wz => ∃ k : Nat, x8 = .int .i64 (k : Int) ∧ k ≤ 10 ∧ Hid (Set1 w wz g b (.slice none 0 0) V')) (fun x8 _ => 10 - (intOf x8).toNat)
      all_goals first | (case atStart => exact ⟨0, rfl, by omega, S4.out⟩) | skip
      all_goals
        rename World => wz
        obtain ⟨k, rfl, hk, HZ⟩ := hrel
        clear S4
        by_cases hk10 : k < 10
        · have hkI : IsI (k : Int) := by unfold IsI; omega
          have K5 := Get1 HZ.out k hkI
          have hgc := get_check HZ.out.ok (k : Int)
          obtain ⟨x, hx⟩ : ∃ x, getV V' (k : Int) = x := ⟨_, rfl⟩
          rw [hx] at K5 hgc
          clear hx
          by_cases hx0 : x = 0
          · subst hx0
            clear hgc
            go_wp2_with (go_at_call 21; refine K5.mono ?_; rintro e w5 ⟨rfl, rfl⟩)
            go_roundw
            case rel => exact ⟨k + 1, by go_num, by omega, HZ.out⟩
            case measure => simp [intOf]; omega
          · have hc : checkO (k : Int) x = 0 := by omega
            have K6 := KC.out (k : Int) x wz hkI
            rw [hc] at K6
            clear hc hgc
            have hx1 : ((x : Int) != 0) = true := by simp; omega
            have hx2 : ((x : Int) == 0) = false := by simp; omega
            go_wp2_with (first
              | (go_at_call 21; refine K5.mono ?_; rintro e w5 ⟨rfl, rfl⟩)
              | (go_at_call 9; refine K6.mono ?_; clear K6; rintro e w5 ⟨rfl, hf5⟩))
            go_roundw
            case rel => exact ⟨k + 1, by go_num, by omega, HZ.out.later hf5⟩
            case measure => simp [intOf]; omega
        · have K7 := Get1 HZ.out 5 (by unfold IsI; omega)
          have K8 := Get1 HZ.out 4 (by unfold IsI; omega)
          have hsm := okV_small HZ.out.ok
          rw [show getV V' 5 = V' 5 from rfl] at K7
          rw [show getV V' 4 = V' 4 from rfl] at K8
          obtain ⟨x5, hx5⟩ : ∃ x5, V' 5 = x5 := ⟨_, rfl⟩
          obtain ⟨z4, hz4⟩ : ∃ z4, V' 4 = z4 := ⟨_, rfl⟩
          rw [hx5] at K7 hsm
          rw [hz4] at K8 hsm
          clear hx5 hz4
          obtain ⟨h41, h51, h52⟩ := hsm
          have h41 : ¬ (2147483647 : Int) < z4 := by omega
          have h51 : ¬ (x5 : Int) < 16384 := by omega
          have h52 : ¬ (16777215 : Int) < x5 := by omega
          go_wp2_with (fail)
          refine K7.mono ?_
          rintro e w5 ⟨rfl, rfl⟩
          go_wp2_with (fail)
          refine K7.mono ?_
          rintro e w5 ⟨rfl, rfl⟩
          go_wp2_with (fail)
          refine K8.mono ?_
          rintro e w5 ⟨rfl, rfl⟩
          go_wp2_with (fail)
          go_roundw
          case rel => exact ⟨i + 1, V', by go_num, by omega, HZ.out⟩
          case measure => simp [intOf]; omega
    · have hi : i = n := by omega
      subst hi
      go_wp2_with (go_at_call 11; refine (KA.out _).mono ?_; rintro e w2 ⟨rfl, hf2⟩)
      go_ret
      exact ⟨rfl, (HS.out.fr.trans hf2).below (fun _ _ => id)⟩
end Go.Proofs.Ytmpknmcgljpfkaa
