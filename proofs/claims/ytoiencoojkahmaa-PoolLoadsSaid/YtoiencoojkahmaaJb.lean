/- A pool in memory: the program's. -/
import Derived.Test.YtoiencoojkahmaaJa
import Derived.Test.YtoiencoojkahmaaEd
import Derived.Test.YtoiencoojkahmaaGi
namespace Go.Proofs.Ytoiencoojkahmaa
open Go.RowKit Go.Maps
set_option linter.unusedVariables false
set_option maxRecDepth 100000
set_option maxHeartbeats 4000000

/-- A backend's fields behind its model: the program's, the document's. -/
def pfl (x : Bk) : Nat → Value
  | 0 => .int .i64 x.st
  | 1 => .int .i64 x.may
  | 2 => .int .i64 x.load
  | _ => .int .i64 x.wait
def rfl5 (x : Bk) : Nat → Value
  | 0 => .int .i64 x.st
  | 1 => .int .i64 x.load
  | 2 => .int .i64 x.may
  | _ => .int .i64 x.wait
/-- The first n backends, as cells. -/
def Rw (fl : Bk → Nat → Value) (n : Nat) (ms : Nat → Nat) (X : Nat → Bk) (cs : Array Value) : Prop := ∀ i, i < n → cs[i * 5]? = some (.pointer (some ⟨ms i, 0, none⟩)) ∧ ∀ k, k < 4 → cs[i * 5 + 1 + k]? = some (fl (X i) k)
theorem Rw.set {fl : Bk → Nat → Value} {n : Nat} {ms : Nat → Nat} {X : Nat → Bk} {cs : Array Value} (h : Rw fl n ms X cs) {j : Nat} (hj : j < n) (k : Nat) (hk : k < 4) (x : Bk) {v : Value} (hv : fl x k = v) (ho : ∀ l, l < 4 → l ≠ k → fl x l = fl (X j) l) : Rw fl n ms (updB X j x) (cs.setIfInBounds (j * 5 + 1 + k) v) := by
  intro i hi
  obtain ⟨h1, h2⟩ := h i hi
  refine ⟨?_, fun l hl => ?_⟩
  · rw [Array.getElem?_setIfInBounds, if_neg (by omega)]
    exact h1
  · have h3 := h2 l hl
    rw [Array.getElem?_setIfInBounds]
    by_cases e : j * 5 + 1 + k = i * 5 + 1 + l
    · obtain rfl : i = j := by omega
      obtain rfl : l = k := by omega
      have hlt := (Array.getElem?_eq_some_iff.1 h3).1
      rw [if_pos rfl, if_pos hlt, updB_at, hv]
    · rw [if_neg e, h3]
      by_cases e2 : i = j
      · subst e2
        rw [updB_at, ho l hl (by omega)]
      · rw [updB_ne _ _ e2]
theorem Rw.same {fl : Bk → Nat → Value} {n : Nat} {ms : Nat → Nat} {X Y : Nat → Bk} {cs : Array Value} (h : Rw fl n ms X cs) (e : ∀ i, i < n → ∀ k, k < 4 → fl (X i) k = fl (Y i) k) : Rw fl n ms Y cs := fun i hi => ⟨(h i hi).1, fun k hk => ((h i hi).2 k hk).trans (by rw [e i hi k hk])⟩
/-- A pool's parts. -/
structure PAt (base : Nat) (w : World) (g b gw mb : Nat) (sl : List Value) (ms : Nat → Nat) (n : Nat) (F R H rt mo : Int) (s : Pl) : Prop where
  blk : w.heap[g]? = some (.cells #[.slice (some ⟨b, 0, none⟩) n n, .pointer (some ⟨gw, 0, none⟩), .int .i64 rt, .int .i64 mo] 51 (0, 0))
  row : ∃ cs, w.heap[b]? = some (.cells cs 61 (0, 0)) ∧ Rw pfl n ms s.X cs
  mod : ∀ i, i < n → HM w (ms i) F R H (s.X i).hs
  whl : WAt base w gw mb sl s.N s.T
  nd : ∀ i j, i < n → j < n → ms i = ms j → i = j
  bg : base ≤ g
  bb : base ≤ b
  bm : ∀ i, i < n → base ≤ ms i
/-- The blocks that calls write. -/
def PX (b gw mb : Nat) (sl : List Value) (ms : Nat → Nat) (n k : Nat) : Prop := k = b ∨ (∃ i, i < n ∧ k = ms i) ∨ WX gw mb sl k
theorem wx_tag {base : Nat} {w : World} {g mb N : Nat} {sl : List Value} {L : List (Int × Int)} (ha : WAt base w g mb sl N L) {k : Nat} {cs : Array Value} {t : TypeId} {f : Nat × Nat} (hk : w.heap[k]? = some (.cells cs t f)) (h1 : t ≠ 88) (h2 : t ≠ 3) : ¬ WX g mb sl k := by
  rintro (rfl | rfl | ⟨r, hr, e⟩)
  · exact tag_neI hk ha.1.c.blk h1 rfl
  · exact ha.1.m.ne hk rfl
  · obtain ⟨cur, hc⟩ := own_tagI (ha.1.s r hr) k e
    exact tag_neI hk hc h2 rfl
section
variable {base : Nat} {w w' : World} {g b gw mb : Nat} {sl : List Value} {ms : Nat → Nat} {n : Nat} {F R H rt mo : Int} {s : Pl}
theorem PAt.fr {X : Nat → Prop} (h : PAt base w g b gw mb sl ms n F R H rt mo s) (f : Fr X w w') (h0 : ¬ X g) (hx : ∀ k, PX b gw mb sl ms n k → ¬ X k) : PAt base w' g b gw mb sl ms n F R H rt mo s := by
  obtain ⟨cs, hc, hr⟩ := h.row
  exact ⟨(f.block g (lt_of_heap h.blk) h0).trans h.blk, ⟨cs, (f.block b (lt_of_heap hc) (hx b (.inl rfl))).trans hc, hr⟩, fun i hi => (h.mod i hi).fr f (hx _ (.inr (.inl ⟨i, hi, rfl⟩))), h.whl.fr f (fun k hk => hx k (.inr (.inr hk))), h.nd, h.bg, h.bb, h.bm⟩
theorem PAt.later (h : PAt base w g b gw mb sl ms n F R H rt mo s) (f : Fr (fun _ => False) w w') : PAt base w' g b gw mb sl ms n F R H rt mo s := h.fr f id (fun _ _ => id)
theorem PAt.base_le (h : PAt base w g b gw mb sl ms n F R H rt mo s) : ∀ k, PX b gw mb sl ms n k → base ≤ k := by
  rintro k (rfl | ⟨i, hi, rfl⟩ | hk)
  · exact h.bb
  · exact h.bm i hi
  · exact h.whl.1.base_le k hk
theorem PAt.lt (h : PAt base w g b gw mb sl ms n F R H rt mo s) : ∀ k, PX b gw mb sl ms n k → k < w.heap.size := by
  obtain ⟨cs, hc, hr⟩ := h.row
  rintro k (rfl | ⟨i, hi, rfl⟩ | hk)
  · exact lt_of_heap hc
  · exact lt_of_heap (h.mod i hi)
  · exact h.whl.1.lt k hk
/-- A block of another tag. -/
theorem PAt.tag (h : PAt base w g b gw mb sl ms n F R H rt mo s) {k : Nat} {cs : Array Value} {t : TypeId} {f : Nat × Nat} (hk : w.heap[k]? = some (.cells cs t f)) (h1 : t ≠ 88) (h2 : t ≠ 3) (h3 : t ≠ 61) (h4 : t ≠ 84) : ¬ PX b gw mb sl ms n k := by
  obtain ⟨cs, hc, hr⟩ := h.row
  rintro (rfl | ⟨i, hi, rfl⟩ | hw)
  · exact tag_neI hk hc h3 rfl
  · exact tag_neI hk (h.mod i hi) h4 rfl
  · exact wx_tag h.whl hk h1 h2 hw
theorem PAt.b_ne (h : PAt base w g b gw mb sl ms n F R H rt mo s) : b ≠ g ∧ (∀ i, i < n → ms i ≠ b) ∧ ¬ WX gw mb sl b := by
  obtain ⟨cs, hc, hr⟩ := h.row
  exact ⟨tag_neI hc h.blk (by decide), fun i hi => tag_neI (h.mod i hi) hc (by decide), wx_tag h.whl hc (by decide) (by decide)⟩
/-- A field of one backend is stored. -/
theorem PAt.put (h : PAt base w g b gw mb sl ms n F R H rt mo s) {j : Nat} (hj : j < n) (k : Nat) (hk : k < 4) (x : Bk) {v : Value} (hv : pfl x k = v) (ho : ∀ l, l < 4 → l ≠ k → pfl x l = pfl (s.X j) l) (hh : x.hs = (s.X j).hs) :
    PAt base (w.setCell ⟨b, j * 5 + 1 + k, none⟩ v) g b gw mb sl ms n F R H rt mo ⟨updB s.X j x, s.N, s.T⟩ := by
  obtain ⟨n1, n2, n3⟩ := h.b_ne
  obtain ⟨cs, hc, hr⟩ := h.row
  have f : Fr (fun k => k = b) w (w.setCell ⟨b, j * 5 + 1 + k, none⟩ v) := (Fr.refl _ _).setB _ _
  refine ⟨(f.block g (lt_of_heap h.blk) (fun e => n1 e.symm)).trans h.blk, ⟨_, heap_set _ hc, hr.set hj k hk x hv ho⟩, fun i hi => ?_, h.whl.fr f (fun q hq e => n3 (e ▸ hq)), h.nd, h.bg, h.bb, h.bm⟩
  have := (h.mod i hi).fr f (n2 i hi)
  show HM _ (ms i) F R H (updB s.X j x i).hs
  unfold updB
  split
  · rename_i e
    have e2 : (s.X j).hs = (s.X i).hs := by rw [e]
    rw [hh, e2]
    exact this
  · exact this
theorem PAt.to (h : PAt base w g b gw mb sl ms n F R H rt mo s) {t : Pl} (e : s = t) : PAt base w g b gw mb sl ms n F R H rt mo t := e ▸ h
/-- A backend's cells. -/
theorem PAt.cells (h : PAt base w g b gw mb sl ms n F R H rt mo s) {j : Nat} (hj : j < n) : w.cell? ⟨b, j * 5, none⟩ = some (.pointer (some ⟨ms j, 0, none⟩)) ∧ w.cell? ⟨b, j * 5 + 1, none⟩ = some (.int .i64 (s.X j).st) ∧ w.cell? ⟨b, j * 5 + 2, none⟩ = some (.int .i64 (s.X j).may) ∧ w.cell? ⟨b, j * 5 + 3, none⟩ = some (.int .i64 (s.X j).load) ∧ w.cell? ⟨b, j * 5 + 4, none⟩ = some (.int .i64 (s.X j).wait) ∧ ∀ k, w.frozen? ⟨b, k, none⟩ = false := by
  obtain ⟨cs, hc, hr⟩ := h.row
  obtain ⟨h1, h2⟩ := hr j hj
  exact ⟨cell_of_heap hc h1, cell_of_heap hc (h2 0 (by omega)), cell_of_heap hc (h2 1 (by omega)), cell_of_heap hc (h2 2 (by omega)), cell_of_heap hc (h2 3 (by omega)), fun k => frozen_of_heap hc⟩
theorem PAt.head (h : PAt base w g b gw mb sl ms n F R H rt mo s) : w.cell? ⟨g, 0, none⟩ = some (.slice (some ⟨b, 0, none⟩) n n) ∧ w.cell? ⟨g, 1, none⟩ = some (.pointer (some ⟨gw, 0, none⟩)) ∧ w.cell? ⟨g, 2, none⟩ = some (.int .i64 rt) ∧ w.cell? ⟨g, 3, none⟩ = some (.int .i64 mo) :=
  ⟨cell_of_heap h.blk rfl, cell_of_heap h.blk rfl, cell_of_heap h.blk rfl, cell_of_heap h.blk rfl⟩
end
theorem plmade_in (g gw : Nat) (w : World) (c1 : w.cell? ⟨g, 1, none⟩ = some (.pointer (some ⟨gw, 0, none⟩))) : Calls Try.prog 42 #[.pointer (some ⟨g, 0, none⟩)] w fun e w' => e = .returned (.bool true) ∧ w = w' := by
  go_enter Try.func42, Try.ntmps42
  go_wp2_with (fail)
  go_ret
  exact ⟨rfl, rfl⟩
theorem plmade_zero (g : Nat) (w : World) (c1 : w.cell? ⟨g, 1, none⟩ = some (.pointer none)) : Calls Try.prog 42 #[.pointer (some ⟨g, 0, none⟩)] w fun e w' => e = .returned (.bool false) ∧ w = w' := by
  go_enter Try.func42, Try.ntmps42
  go_wp2_with (fail)
  go_ret
  exact ⟨rfl, rfl⟩
theorem plmade_nil (w : World) : Calls Try.prog 42 #[.pointer none] w fun e w' => e = .returned (.bool false) ∧ w = w' := by
  go_enter Try.func42, Try.ntmps42
  go_wp2_with (fail)
  go_ret
  exact ⟨rfl, rfl⟩
theorem plfind_none (p : Option Addr) (d : Int) (w : World) (K : Calls Try.prog 42 #[.pointer p] w fun e w' => e = .returned (.bool false) ∧ w = w') : Calls Try.prog 45 #[.pointer p, .int .i64 d] w fun e w' => e = .returned (.tuple #[.pointer none, .int .i64 7]) ∧ w = w' := by
  go_enter Try.func45, Try.ntmps45
  go_wp2_with (go_at_call 42; refine K.mono ?_; clear K; rintro e w' ⟨rfl, rfl⟩)
  go_ret2
  exact ⟨rfl, rfl⟩
theorem plfind_ok {base : Nat} {w : World} {g b gw mb : Nat} {sl : List Value} {ms : Nat → Nat} {n : Nat} {F R H rt mo : Int} {s : Pl} (h : PAt base w g b gw mb sl ms n F R H rt mo s) (hn : n ≤ 16) {j : Nat} (hj : j < n) : Calls Try.prog 45 #[.pointer (some ⟨g, 0, none⟩), .int .i64 (j : Int)] w fun e w' => e = .returned (.tuple #[.pointer (some ⟨b, j * 5, none⟩), .int .i64 0]) ∧ w = w' := by
  obtain ⟨c0, c1, -, -⟩ := h.head
  have K := plmade_in g gw w c1
  have hj2 : (j : Int) < (n : Int) := by omega
  have hj3 : ¬ (j : Int) < 0 := by omega
  have hj4 : decide ((j : Int) < 0) = false := decide_eq_false hj3
  have hj5 : decide ((n : Int) ≤ (j : Int)) = false := decide_eq_false (by omega)
  have hj6 : ¬ (n : Int) ≤ (j : Int) := by omega
  clear h
  go_enter Try.func45, Try.ntmps45
  go_wp2_with (go_at_call 42; refine K.mono ?_; clear K; rintro e w' ⟨rfl, rfl⟩)
  go_ret2
  exact ⟨rfl, rfl⟩
theorem plfind_arg {base : Nat} {w : World} {g b gw mb : Nat} {sl : List Value} {ms : Nat → Nat} {n : Nat} {F R H rt mo : Int} {s : Pl} (h : PAt base w g b gw mb sl ms n F R H rt mo s) (hn : n ≤ 16) {d : Int} (hd : d < 0 ∨ (n : Int) ≤ d) : Calls Try.prog 45 #[.pointer (some ⟨g, 0, none⟩), .int .i64 d] w fun e w' => e = .returned (.tuple #[.pointer none, .int .i64 1]) ∧ w = w' := by
  obtain ⟨c0, c1, -, -⟩ := h.head
  have K := plmade_in g gw w c1
  clear h
  by_cases h0 : d < 0
  · clear hd
    have hj4 : decide (d < 0) = true := decide_eq_true h0
    go_enter Try.func45, Try.ntmps45
    go_wp2_with (go_at_call 42; refine K.mono ?_; clear K; rintro e w' ⟨rfl, rfl⟩)
    go_ret2
    exact ⟨rfl, rfl⟩
  · have h1 : (n : Int) ≤ d := by omega
    clear hd
    have hj4 : decide (d < 0) = false := decide_eq_false h0
    have hj5 : decide ((n : Int) ≤ d) = true := decide_eq_true h1
    go_enter Try.func45, Try.ntmps45
    go_wp2_with (go_at_call 42; refine K.mono ?_; clear K; rintro e w' ⟨rfl, rfl⟩)
    go_ret2
    exact ⟨rfl, rfl⟩
theorem pllonger_in (g : Nat) (x mo : Int) (w : World) (c3 : w.cell? ⟨g, 3, none⟩ = some (.int .i64 mo)) (h1 : 1 ≤ x) (h2 : x ≤ mo) (h3 : mo ≤ 1073741824) : Calls Try.prog 46 #[.pointer (some ⟨g, 0, none⟩), .int .i64 x] w fun e w' => e = .returned (.int .i64 (if mo < 2 * x then mo else 2 * x)) ∧ w = w' := by
  by_cases hl : mo < 2 * x
  · have e1 : mo - x < x := by omega
    rw [if_pos hl]
    clear hl
    go_enter Try.func46, Try.ntmps46
    go_wp2_with (fail)
    go_ret
    exact ⟨rfl, rfl⟩
  · have e1 : ¬ mo - x < x := by omega
    rw [if_neg hl]
    have e2 : 2 * x = x + x := by omega
    rw [e2]
    clear hl e2
    go_enter Try.func46, Try.ntmps46
    go_wp2_with (fail)
    go_ret
    exact ⟨rfl, rfl⟩
end Go.Proofs.Ytoiencoojkahmaa
