/- The walk of WindowRoom. -/
import Derived.Test.YteniphncpanecaaNf
import Derived.Test.YteniphncpanecaaLn
namespace Go.Proofs.Yteniphncpanecaa
open Go.RowKit
set_option linter.unusedVariables false
set_option maxRecDepth 100000
set_option maxHeartbeats 4000000

/-- A credit of the program's, in memory that was not there before. -/
structure OneC (w0 w : World) (g : Nat) (m x h : Int) : Prop where
  prog : CrAt w g m x h
  inv : InvC m x h
  bg : w0.heap.size ≤ g
  fr : Fr (fun k => w0.heap.size ≤ k) w0 w
theorem OneC.later {w0 w w' : World} {g : Nat} {m x h : Int} (k : OneC w0 w g m x h) (f : Fr (fun _ => False) w w') : OneC w0 w' g m x h :=
  ⟨k.prog.fr f id, k.inv, k.bg, k.fr.trans (f.mono (fun _ _ e => e.elim))⟩
theorem OneC.step {w0 w w1 : World} {g : Nat} {m x h y t : Int} (k : OneC w0 w g m x h) (hp : CrAt w1 g m y t) (f1 : Fr (fun k => k = g) w w1) (hi : InvC m y t) : OneC w0 w1 g m y t :=
  ⟨hp, hi, k.bg, k.fr.trans (f1.mono (fun j _ e => by show _ ≤ j; rw [e]; exact k.bg))⟩
theorem used_all {h : Int} (h0 : 0 ≤ h) : usedE h h = 0 ∧ usedH h h = 0 := by
  unfold usedE usedH
  rw [if_neg (by omega), if_neg (by omega)]
  exact ⟨rfl, by omega⟩
theorem wroom_walk (u : Nat) (hu : u ≤ 65535) (q : Option Addr) (c n : Nat) (L : List (Int × Int)) (w : World) (hI : Ops11 w q c L) (hl : L.length = n) : Calls Try.prog 5 #[.int .u16 (u : Int), .slice q n c] w fun e w' => e = .returned (.bool true) ∧ Below w.heap.size w w' := by
  have hz : sizB (u : Int) = true := by unfold sizB; apply decide_eq_true; omega
  obtain ⟨z, hzu⟩ : ∃ z : Int, z = (u : Int) := ⟨_, rfl⟩
  have hz6 : 0 ≤ z ∧ z ≤ 65535 := by omega
  rw [← hzu] at hz ⊢
  clear hzu hu
  have KN := cNew_yes z w hz
  have HZ : Hid (InvC z z 0) := invC_new hz
  have HI : Hid (Ops11 w q c L) := hI
  have HL : Hid (L.length = n) := hl
  have hnb : (n : Int) ≤ 9000000000000000000 := by have := hI.few; rw [hl] at this; have h2 : reachBytes < 2 ^ 47 := reach_lt; omega
  have hnc : n ≤ c := by have := hI.cap; rw [hl] at this; exact this
  obtain ⟨hz1, hz2⟩ := hz6
  clear hI hl hz
  go_enter Try.func5, Try.ntmps5
  go_upto_region 5 with (go_at_call 19; refine KN.mono ?_; clear KN; rintro e w1 ⟨g, hg, rfl, h1, f1⟩)
  have HS0 : Hid (OneC w w1 g z z 0) := ⟨h1, HZ.out, hg, f1.mono (fun _ _ e => e.elim)⟩
  clear hg h1 f1
  go_wp2_with (fail)
  go_loopw [8] (fun x8 wr => ∃ (i : Nat) (x h : Int), x8 = .int .i64 (i : Int) ∧ i ≤ n ∧ Hid (OneC w wr g z x h)) (fun x8 _ => n - (intOf x8).toNat)
  case atStart => exact ⟨0, z, 0, rfl, by omega, HS0.out⟩
  case round =>
    clear HS0
    obtain ⟨i, x, h, rfl, hin, HS⟩ := hrel
    by_cases hlt : i < n
    · have hlt2 : (i : Int) < (n : Int) := by omega
      obtain ⟨⟨a, d⟩, hd⟩ : ∃ d, L[i]? = some d := ⟨L[i]'(by rw [HL.out]; exact hlt), List.getElem?_eq_getElem _⟩
      obtain ⟨gq, oq, rfl, hgq, d0, d1, hdI⟩ := HI.out.cells i (a, d) hd
      have c0 : wr.cell? ⟨gq, oq + i * 2, none⟩ = some (.int .i64 a) := (HS.out.fr.cell (p := ⟨gq, oq + i * 2, none⟩) hgq (by show ¬ _ ≤ gq; omega)).trans d0
      have c1 : wr.cell? ⟨gq, oq + i * 2 + 1, none⟩ = some (.int .i64 d) := (HS.out.fr.cell (p := ⟨gq, oq + i * 2 + 1, none⟩) hgq (by show ¬ _ ≤ gq; omega)).trans d1
      clear hd hgq d0 d1 hdI
      go_upto_region 9 with (fail)
      obtain ⟨wa, hwa⟩ : ∃ wa, wa = wr.alloc (Obj.cells #[.int .i64 a, .int .i64 d] 31) := ⟨_, rfl⟩
      obtain ⟨go, hgo⟩ : ∃ go, go = wr.heap.size := ⟨_, rfl⟩
      have Fa : Fr (fun _ => False) wr wa := by rw [hwa]; exact (Fr.refl _ _).alloc _
      have ba : wa.heap[go]? = some (.cells #[.int .i64 a, .int .i64 d] 31 (0, 0)) := by rw [hwa, hgo]; exact heap_alloc_new _ _
      rw [← hwa, ← hgo]
      clear hwa c0 c1 hgo
      have HA : Hid (OneC w wa g z x h) := HS.out.later Fa
      have k0 : wa.cell? ⟨go, 0, none⟩ = some (.int .i64 a) := cell_of_heap ba rfl
      have k1 : wa.cell? ⟨go, 1, none⟩ = some (.int .i64 d) := cell_of_heap ba rfl
      clear ba Fa HS
      by_cases ha : a = 0
      · subst ha
        obtain ⟨y, hy⟩ : ∃ y, takeX x d = y := ⟨_, rfl⟩
        obtain ⟨t, ht⟩ : ∃ t, gotH x h d = t := ⟨_, rfl⟩
        have K1 := cGot_in g z x h d wa HA.out.prog HA.out.inv
        have HY : Hid (InvC z y t) := by have := HA.out.inv.got d; rw [hy, ht] at this; exact this
        rw [hy, ht] at K1
        obtain ⟨y0, t0, yt, -⟩ := HY.out
        clear hy ht
        go_upto_region 15 with (go_at_call 21; refine K1.mono ?_; clear K1; rintro e w2 ⟨rfl, p2, f2⟩)
        have H3 : Hid (OneC w w2 g z y t) := HA.out.step p2 f2 HY.out
        clear p2 f2 HA HY k0 k1
        have KS := cSize_in g z y t w2 H3.out.prog
        have KH := cHeld_in g z y t w2 H3.out.prog
        go_wp2_with (first | (go_at_call 27; refine KS.mono ?_; rintro e w' ⟨rfl, rfl⟩) | (go_at_call 28; refine KH.mono ?_; rintro e w' ⟨rfl, rfl⟩))
        go_roundw
        case rel => exact ⟨i + 1, y, t, by go_num, by omega, H3.out⟩
        case measure => simp [intOf]; omega
      by_cases hb : a = 1
      · subst hb
        obtain ⟨y, hy⟩ : ∃ y, x = y := ⟨_, rfl⟩
        obtain ⟨t, ht⟩ : ∃ t, usedH h d = t := ⟨_, rfl⟩
        have K1 := cUsed_in g z x h d wa HA.out.prog HA.out.inv
        have HY : Hid (InvC z y t) := by have := HA.out.inv.used d; rw [ht] at this; rw [← hy]; exact this
        rw [ht] at K1
        rw [hy] at K1
        obtain ⟨y0, t0, yt, -⟩ := HY.out
        clear hy ht
        go_upto_region 15 with (go_at_call 23; refine K1.mono ?_; clear K1; rintro e w2 ⟨rfl, p2, f2⟩)
        have H3 : Hid (OneC w w2 g z y t) := HA.out.step p2 f2 HY.out
        clear p2 f2 HA HY k0 k1
        have KS := cSize_in g z y t w2 H3.out.prog
        have KH := cHeld_in g z y t w2 H3.out.prog
        go_wp2_with (first | (go_at_call 27; refine KS.mono ?_; rintro e w' ⟨rfl, rfl⟩) | (go_at_call 28; refine KH.mono ?_; rintro e w' ⟨rfl, rfl⟩))
        go_roundw
        case rel => exact ⟨i + 1, y, t, by go_num, by omega, H3.out⟩
        case measure => simp [intOf]; omega
      · skip
        obtain ⟨y, hy⟩ : ∃ y, x + giveV z x h = y := ⟨_, rfl⟩
        obtain ⟨t, ht⟩ : ∃ t, h = t := ⟨_, rfl⟩
        have K1 := cGive_in g z x h wa HA.out.prog HA.out.inv
        have HY : Hid (InvC z y t) := by have := HA.out.inv.give; rw [hy, ht] at this; exact this
        rw [hy, ht] at K1
        obtain ⟨y0, t0, yt, -⟩ := HY.out
        clear hy ht
        go_upto_region 15 with (go_at_call 25; refine K1.mono ?_; clear K1; rintro e w2 ⟨rfl, p2, f2⟩)
        have H3 : Hid (OneC w w2 g z y t) := HA.out.step p2 f2 HY.out
        clear p2 f2 HA HY k0 k1
        have KS := cSize_in g z y t w2 H3.out.prog
        have KH := cHeld_in g z y t w2 H3.out.prog
        go_wp2_with (first | (go_at_call 27; refine KS.mono ?_; rintro e w' ⟨rfl, rfl⟩) | (go_at_call 28; refine KH.mono ?_; rintro e w' ⟨rfl, rfl⟩))
        go_roundw
        case rel => exact ⟨i + 1, y, t, by go_num, by omega, H3.out⟩
        case measure => simp [intOf]; omega
    · have hlt2 : ¬ (i : Int) < (n : Int) := by omega
      have K1 := cHeld_in g z x h wr HS.out.prog
      have K2 := cUsed_in g z x h h wr HS.out.prog HS.out.inv
      rw [(used_all HS.out.inv.h0).1, (used_all HS.out.inv.h0).2] at K2
      go_upto_region 19 with (first | (go_at_call 28; first | (refine K1.mono ?_; clear K1; rintro e w' ⟨rfl, rfl⟩) | (refine K3.mono ?_; clear K3; rintro e w' ⟨rfl, rfl⟩)) | (go_at_call 23; refine K2.mono ?_; clear K2; rintro e w2 ⟨rfl, p2, f2⟩; have K3 := cHeld_in g z x 0 w2 p2))
      have H2 : Hid (OneC w w2 g z x 0) := HS.out.step p2 f2 (by have := HS.out.inv; exact ⟨this.x0, by omega, by have := this.sum; have := HS.out.inv.h0; omega, this.top⟩)
      clear p2 f2
      obtain ⟨v, hv⟩ : ∃ v, giveV z x 0 = v := ⟨_, rfl⟩
      have KG := cGive_in g z x 0 w2 H2.out.prog H2.out.inv
      rw [hv] at KG
      have HI2 := H2.out.inv.give
      rw [hv] at HI2
      obtain ⟨y, hy⟩ : ∃ y, x + v = y := ⟨_, rfl⟩
      rw [hy] at KG HI2
      have hend : ¬ 2 * (z - y) < z → y = z := by
        intro hh
        unfold giveV at hv
        split at hv <;> omega
      obtain ⟨y0, -, yt, -⟩ := HI2
      have b1 : -9223372036854775808 ≤ z - y := by omega
      have b2 : z - y ≤ 9223372036854775807 := by omega
      have b3 : -9223372036854775808 ≤ 2 * (z - y) := by omega
      have b4 : 2 * (z - y) ≤ 9223372036854775807 := by omega
      have HY : Hid (InvC z y 0) := by have := H2.out.inv.give; rw [hv, hy] at this; exact this
      clear hv hy
      by_cases he : 2 * (z - y) < z
      · clear hend
        go_upto_region 20 with (go_at_call 25; refine KG.mono ?_; clear KG; rintro e w3 ⟨rfl, p3, f3⟩)
        have H3 : Hid (OneC w w3 g z y 0) := H2.out.step p3 f3 HY.out
        have KS := cSize_in g z y 0 w3 p3
        clear p3 f3
        go_wp2_with (go_at_call 27; refine KS.mono ?_; rintro e w' ⟨rfl, rfl⟩)
        go_ret
        exact ⟨by simp, H3.out.fr.below (fun k hk e => by omega)⟩
      · have hyz := hend he
        clear hend
        go_upto_region 20 with (go_at_call 25; refine KG.mono ?_; clear KG; rintro e w3 ⟨rfl, p3, f3⟩)
        have H3 : Hid (OneC w w3 g z y 0) := H2.out.step p3 f3 HY.out
        have KS := cSize_in g z y 0 w3 p3
        clear p3 f3
        go_wp2_with (go_at_call 27; refine KS.mono ?_; rintro e w' ⟨rfl, rfl⟩)
        go_ret
        exact ⟨by simp, H3.out.fr.below (fun k hk e => by omega)⟩
end Go.Proofs.Yteniphncpanecaa
