/- The numbers of those of which a question holds; Fit. -/
import Derived.Test.YtedkjlhhgalcfaaHb
namespace Go.Proofs.Ytedkjlhhgalcfaa
open Go.RowKit
set_option linter.unusedVariables false
set_option maxRecDepth 100000
set_option maxHeartbeats 4000000

/-- Numbers that were gathered, in memory of their own. -/
structure GotS (w w' : World) (a : Option Addr) (m c : Nat) (X : List Int) : Prop where
  own : OwnAt w' 3 (.slice a m c) (iv X)
  new : ∀ k, (Value.slice a m c).ownBlock = some k → w.heap.size ≤ k
  fr : Fr (fun _ => False) w w'
theorem GotS.nil (w : World) : GotS w w none 0 0 [] := ⟨OwnAt.nil _ _, fun k hk => by simp [Value.ownBlock] at hk, Fr.refl _ _⟩
theorem GotS.later {w w1 w2 : World} {a : Option Addr} {m c : Nat} {X : List Int} (h : GotS w w1 a m c X) (f : Fr (fun _ => False) w1 w2) : GotS w w2 a m c X := ⟨h.own.fr f (fun _ _ => id), h.new, h.fr.trans f⟩
theorem GotS.next {w w1 w2 : World} {a a' : Option Addr} {m c m' c' : Nat} {X Y : List Int} (h : GotS w w1 a m c X) (o : OwnAt w2 3 (.slice a' m' c') (iv Y)) (f : Fr (fun k => (Value.slice a m c).ownBlock = some k) w1 w2) (hv : (Value.slice a' m' c').ownBlock = (Value.slice a m c).ownBlock ∨ ∃ k, (Value.slice a' m' c').ownBlock = some k ∧ w1.heap.size ≤ k) : GotS w w2 a' m' c' Y := by
  refine ⟨o, fun k hk => ?_, ?_⟩
  · rcases hv with e | ⟨k', e, hk'⟩
    · rw [e] at hk; exact h.new k hk
    · rw [e] at hk
      cases hk
      exact Nat.le_trans h.fr.size hk'
  · have f1 : Fr (fun k => w.heap.size ≤ k) w w1 := h.fr.mono (fun _ _ e => e.elim)
    exact (f1.trans (f.mono (fun k _ e => h.new k e))).mono (fun k hk e => by have : w.heap.size ≤ k := e; omega)
/-- What a call that gathers answers. -/
def GotI (w : World) (X : List Int) (e : Ending) (w' : World) : Prop := ∃ a m c, e = .returned (.slice a m c) ∧ GotS w w' a m c X
theorem pknum_plain (fn : Nat) (p : Bk → Bool) (q : Option Addr) (c n : Nat) (L : List Bk) (w : World) (h : BacksAt w q c L) (hl : L.length = n) (hen : ∀ args w, Sem.run Try.prog (callFunc fn args) w = .ok (.enter fn args) w)
    (KF : ∀ x w', Fr (fun _ => False) w w' → Calls Try.prog fn #[.agg #[.bool x.1, .int .i64 x.2.1, .int .i64 x.2.2]] w' fun e w2 => e = .returned (.bool (p x)) ∧ Fr (fun _ => False) w' w2) :
    Calls Try.prog 16 #[.slice q n c, .func (.func fn) #[] #[]] w (GotI w (nums p L n)) := by
  have HK : Hid (∀ x w', Fr (fun _ => False) w w' → Calls Try.prog fn #[.agg #[.bool x.1, .int .i64 x.2.1, .int .i64 x.2.2]] w' fun e w2 => e = .returned (.bool (p x)) ∧ Fr (fun _ => False) w' w2) := KF
  have HB : Hid (BacksAt w q c L) := h
  have HL : Hid (L.length = n) := hl
  have hnb : (n : Int) ≤ 6000000000000 := by have := h.few; rw [hl] at this; have h2 : reachBytes < 2 ^ 47 := reach_lt; omega
  have hnc : n ≤ c := by have := h.cap; rw [hl] at this; exact this
  clear KF h hl
  go_enter Try.func16, Try.ntmps16
  go_wp2_with (fail)
  go_loopw [5, 10] (fun x5 x10 wr => ∃ (i dm dc : Nat) (da : Option Addr), x5 = .slice da dm dc ∧ x10 = .int .i64 (i : Int) ∧ i ≤ n ∧ Hid (GotS w wr da dm dc (nums p L i))) (fun _ x10 _ => n - (intOf x10).toNat)
  case atStart => exact ⟨0, 0, 0, none, rfl, rfl, by omega, GotS.nil w⟩
  case round =>
    obtain ⟨i, dm, dc, da, rfl, rfl, hin, HS⟩ := hrel
    by_cases hlt : i < n
    · have hlt2 : (i : Int) < (n : Int) := by omega
      obtain ⟨x, hd⟩ : ∃ d, L[i]? = some d := ⟨L[i]'(by rw [HL.out]; exact hlt), List.getElem?_eq_getElem _⟩
      obtain ⟨gq, oq, rfl, hgq, d0, d1, d2, -, -⟩ := HB.out.cells i x hd
      have c0 : wr.cell? ⟨gq, oq + i * 3, none⟩ = some (.bool x.1) := (HS.out.fr.cell (p := ⟨gq, oq + i * 3, none⟩) hgq id).trans d0
      have c1 : wr.cell? ⟨gq, oq + i * 3 + 1, none⟩ = some (.int .i64 x.2.1) := (HS.out.fr.cell (p := ⟨gq, oq + i * 3 + 1, none⟩) hgq id).trans d1
      have c2 : wr.cell? ⟨gq, oq + i * 3 + 2, none⟩ = some (.int .i64 x.2.2) := (HS.out.fr.cell (p := ⟨gq, oq + i * 3 + 2, none⟩) hgq id).trans d2
      have HD : Hid (L[i]? = some x) := hd
      clear hd hgq d0 d1 d2
      go_upto_region 5 with (fail)
      obtain ⟨wa, hwa⟩ : ∃ wa, wa = wr.alloc (Obj.cells #[.bool x.1, .int .i64 x.2.1, .int .i64 x.2.2] 35) := ⟨_, rfl⟩
      obtain ⟨go, hgo⟩ : ∃ go, go = wr.heap.size := ⟨_, rfl⟩
      have HSa : Hid (GotS w wa da dm dc (nums p L i)) := by rw [hwa]; exact HS.out.later ((Fr.refl _ _).alloc _)
      have ba : wa.heap[go]? = some (.cells #[.bool x.1, .int .i64 x.2.1, .int .i64 x.2.2] 35 (0, 0)) := by rw [hwa, hgo]; exact heap_alloc_new _ _
      clear c0 c1 c2
      have c0 : wa.cell? ⟨go, 0, none⟩ = some (.bool x.1) := cell_of_heap ba rfl
      have c1 : wa.cell? ⟨go, 1, none⟩ = some (.int .i64 x.2.1) := cell_of_heap ba rfl
      have c2 : wa.cell? ⟨go, 2, none⟩ = some (.int .i64 x.2.2) := cell_of_heap ba rfl
      rw [← hwa, ← hgo]
      clear hwa hgo ba HS
      have K := HK.out x wa HSa.out.fr
      obtain ⟨V, hV⟩ : ∃ V, p x = V := ⟨_, rfl⟩
      rw [hV] at K
      have HV : Hid (p x = V) := hV
      clear hV
      cases V
      · go_wp2_with (go_at_fn fn; refine K.mono ?_; clear K; rintro e w2 ⟨rfl, f2⟩)
        go_roundw
        case rel => exact ⟨i + 1, dm, dc, da, rfl, by go_num, by omega, by rw [nums_no HD.out HV.out]; exact HSa.out.later f2⟩
        case measure => simp [intOf]; omega
      · go_upto_region 6 with (go_at_fn fn; refine K.mono ?_; clear K; rintro e w2 ⟨rfl, f2⟩)
        have HS2 : Hid (GotS w w2 da dm dc (nums p L i)) := HSa.out.later f2
        obtain ⟨a', n', c', w3, hrun, hn3, ho3, hf3, hk3⟩ := run_addW (i : Int) HS2.out.own (by have := nums_len p L i; omega)
        have HS3 : Hid (GotS w w3 a' n' c' (nums p L (i + 1))) := by rw [nums_yes HD.out HV.out]; exact HS2.out.next ho3 hf3 hk3
        clear f2 c0 c1 c2 HSa hn3 ho3 hf3 hk3
        go_wp2_with (refine wpList_append_run9 rfl (.tmp 18) (.tmp 20) 24 rfl (.slice da dm dc) (.slice (some ⟨w2.heap.size, 0, none⟩) 1 1) (.slice a' n' c') rfl rfl hrun ?_)
        go_roundw
        case rel => exact ⟨i + 1, n', c', a', rfl, by go_num, by omega, HS3.out⟩
        case measure => simp [intOf]; omega
    · have hlt2 : ¬ (i : Int) < (n : Int) := by omega
      have HE : Hid (GotS w wr da dm dc (nums p L n)) := by
        have e : i = n := by omega
        rw [← e]
        exact HS.out
      clear HS
      go_wp2_with (fail)
      go_ret
      exact ⟨da, dm, dc, rfl, HE.out⟩
theorem pknum_box (fn : Nat) (pb : Nat) (p : Bk → Bool) (q : Option Addr) (c n : Nat) (L : List Bk) (w : World) (h : BacksAt w q c L) (hl : L.length = n) (hen : ∀ args w, Sem.run Try.prog (callFunc fn args) w = .ok (.enter fn args) w)
    (KF : ∀ x w', Fr (fun _ => False) w w' → Calls Try.prog fn #[.agg #[.bool x.1, .int .i64 x.2.1, .int .i64 x.2.2], .pointer (some ⟨pb, 0, none⟩)] w' fun e w2 => e = .returned (.bool (p x)) ∧ Fr (fun _ => False) w' w2) :
    Calls Try.prog 16 #[.slice q n c, .func (.func fn) #[] #[.pointer (some ⟨pb, 0, none⟩)]] w (GotI w (nums p L n)) := by
  have HK : Hid (∀ x w', Fr (fun _ => False) w w' → Calls Try.prog fn #[.agg #[.bool x.1, .int .i64 x.2.1, .int .i64 x.2.2], .pointer (some ⟨pb, 0, none⟩)] w' fun e w2 => e = .returned (.bool (p x)) ∧ Fr (fun _ => False) w' w2) := KF
  have HB : Hid (BacksAt w q c L) := h
  have HL : Hid (L.length = n) := hl
  have hnb : (n : Int) ≤ 6000000000000 := by have := h.few; rw [hl] at this; have h2 : reachBytes < 2 ^ 47 := reach_lt; omega
  have hnc : n ≤ c := by have := h.cap; rw [hl] at this; exact this
  clear KF h hl
  go_enter Try.func16, Try.ntmps16
  go_wp2_with (fail)
  go_loopw [5, 10] (fun x5 x10 wr => ∃ (i dm dc : Nat) (da : Option Addr), x5 = .slice da dm dc ∧ x10 = .int .i64 (i : Int) ∧ i ≤ n ∧ Hid (GotS w wr da dm dc (nums p L i))) (fun _ x10 _ => n - (intOf x10).toNat)
  case atStart => exact ⟨0, 0, 0, none, rfl, rfl, by omega, GotS.nil w⟩
  case round =>
    obtain ⟨i, dm, dc, da, rfl, rfl, hin, HS⟩ := hrel
    by_cases hlt : i < n
    · have hlt2 : (i : Int) < (n : Int) := by omega
      obtain ⟨x, hd⟩ : ∃ d, L[i]? = some d := ⟨L[i]'(by rw [HL.out]; exact hlt), List.getElem?_eq_getElem _⟩
      obtain ⟨gq, oq, rfl, hgq, d0, d1, d2, -, -⟩ := HB.out.cells i x hd
      have c0 : wr.cell? ⟨gq, oq + i * 3, none⟩ = some (.bool x.1) := (HS.out.fr.cell (p := ⟨gq, oq + i * 3, none⟩) hgq id).trans d0
      have c1 : wr.cell? ⟨gq, oq + i * 3 + 1, none⟩ = some (.int .i64 x.2.1) := (HS.out.fr.cell (p := ⟨gq, oq + i * 3 + 1, none⟩) hgq id).trans d1
      have c2 : wr.cell? ⟨gq, oq + i * 3 + 2, none⟩ = some (.int .i64 x.2.2) := (HS.out.fr.cell (p := ⟨gq, oq + i * 3 + 2, none⟩) hgq id).trans d2
      have HD : Hid (L[i]? = some x) := hd
      clear hd hgq d0 d1 d2
      go_upto_region 5 with (fail)
      obtain ⟨wa, hwa⟩ : ∃ wa, wa = wr.alloc (Obj.cells #[.bool x.1, .int .i64 x.2.1, .int .i64 x.2.2] 35) := ⟨_, rfl⟩
      obtain ⟨go, hgo⟩ : ∃ go, go = wr.heap.size := ⟨_, rfl⟩
      have HSa : Hid (GotS w wa da dm dc (nums p L i)) := by rw [hwa]; exact HS.out.later ((Fr.refl _ _).alloc _)
      have ba : wa.heap[go]? = some (.cells #[.bool x.1, .int .i64 x.2.1, .int .i64 x.2.2] 35 (0, 0)) := by rw [hwa, hgo]; exact heap_alloc_new _ _
      clear c0 c1 c2
      have c0 : wa.cell? ⟨go, 0, none⟩ = some (.bool x.1) := cell_of_heap ba rfl
      have c1 : wa.cell? ⟨go, 1, none⟩ = some (.int .i64 x.2.1) := cell_of_heap ba rfl
      have c2 : wa.cell? ⟨go, 2, none⟩ = some (.int .i64 x.2.2) := cell_of_heap ba rfl
      rw [← hwa, ← hgo]
      clear hwa hgo ba HS
      have K := HK.out x wa HSa.out.fr
      obtain ⟨V, hV⟩ : ∃ V, p x = V := ⟨_, rfl⟩
      rw [hV] at K
      have HV : Hid (p x = V) := hV
      clear hV
      cases V
      · go_wp2_with (go_at_fn fn; refine K.mono ?_; clear K; rintro e w2 ⟨rfl, f2⟩)
        go_roundw
        case rel => exact ⟨i + 1, dm, dc, da, rfl, by go_num, by omega, by rw [nums_no HD.out HV.out]; exact HSa.out.later f2⟩
        case measure => simp [intOf]; omega
      · go_upto_region 6 with (go_at_fn fn; refine K.mono ?_; clear K; rintro e w2 ⟨rfl, f2⟩)
        have HS2 : Hid (GotS w w2 da dm dc (nums p L i)) := HSa.out.later f2
        obtain ⟨a', n', c', w3, hrun, hn3, ho3, hf3, hk3⟩ := run_addW (i : Int) HS2.out.own (by have := nums_len p L i; omega)
        have HS3 : Hid (GotS w w3 a' n' c' (nums p L (i + 1))) := by rw [nums_yes HD.out HV.out]; exact HS2.out.next ho3 hf3 hk3
        clear f2 c0 c1 c2 HSa hn3 ho3 hf3 hk3
        go_wp2_with (refine wpList_append_run9 rfl (.tmp 18) (.tmp 20) 24 rfl (.slice da dm dc) (.slice (some ⟨w2.heap.size, 0, none⟩) 1 1) (.slice a' n' c') rfl rfl hrun ?_)
        go_roundw
        case rel => exact ⟨i + 1, n', c', a', rfl, by go_num, by omega, HS3.out⟩
        case measure => simp [intOf]; omega
    · have hlt2 : ¬ (i : Int) < (n : Int) := by omega
      have HE : Hid (GotS w wr da dm dc (nums p L n)) := by
        have e : i = n := by omega
        rw [← e]
        exact HS.out
      clear HS
      go_wp2_with (fail)
      go_ret
      exact ⟨da, dm, dc, rfl, HE.out⟩
theorem enters_fits (args : Array Value) (w : World) : Sem.run Try.prog (callFunc 17 args) w = .ok (.enter 17 args) w := enters_of (f := 17) Try.func17 (by kernel_rfl) rfl args w
theorem enters_ties1 (args : Array Value) (w : World) : Sem.run Try.prog (callFunc 18 args) w = .ok (.enter 18 args) w := enters_of (f := 18) Try.func18 (by kernel_rfl) rfl args w
theorem pkFit_in (q : Option Addr) (c n : Nat) (L : List Bk) (w : World) (h : BacksAt w q c L) (hl : L.length = n) : Calls Try.prog 9 #[.slice q n c] w (GotI w (fitL L)) := by
  have K := pknum_plain 17 fitB q c n L w h hl enters_fits (fun x w' _ => pkfits_in x w')
  unfold fitL
  rw [hl]
  clear h hl
  go_enter Try.func9, Try.ntmps9
  go_wp2_with (go_at_call 16; refine K.mono ?_; clear K; rintro e w1 ⟨a, m, c, rfl, h1⟩)
  go_ret
  exact ⟨a, m, c, rfl, h1⟩
end Go.Proofs.Ytedkjlhhgalcfaa
