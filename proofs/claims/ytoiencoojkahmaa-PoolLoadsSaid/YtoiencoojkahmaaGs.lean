/- The document's wheel in memory: rows of timers. -/
import Derived.Test.YtoiencoojkahmaaAv
import Derived.Test.YtoiencoojkahmaaGb
import Derived.Deep.AppendSrc
namespace Go.Proofs.Ytoiencoojkahmaa
open Go.RowKit
set_option linter.unusedVariables false
set_option maxRecDepth 100000
set_option maxHeartbeats 4000000

/-- Timers, as cells. -/
def rowT : List (Int × Int) → List Value
  | [] => []
  | s :: l => .int .i64 s.1 :: .int .i64 s.2 :: rowT l
theorem rowT_length (l : List (Int × Int)) : (rowT l).length = l.length * 2 := by
  induction l with
  | nil => rfl
  | cons a l ih => simp only [rowT, List.length_cons, ih]; omega
theorem rowT_one (l : List (Int × Int)) : ∀ u ∈ rowT l, u.oneCell' = true := by
  induction l with
  | nil => intro u hu; cases hu
  | cons a l ih =>
    intro u hu
    simp only [rowT, List.mem_cons] at hu
    rcases hu with rfl | rfl | hu
    · rfl
    · rfl
    · exact ih u hu
theorem rowT_append (a b : List (Int × Int)) : rowT (a ++ b) = rowT a ++ rowT b := by
  induction a with
  | nil => rfl
  | cons x a ih => simp [rowT, ih]
theorem rowT_at : ∀ {l : List (Int × Int)} {r : Nat} {y : Int × Int}, l[r]? = some y → (rowT l)[r * 2]? = some (.int .i64 y.1) ∧ (rowT l)[r * 2 + 1]? = some (.int .i64 y.2)
  | [], r, y, h => by simp at h
  | a :: l, 0, y, h => by
    simp at h
    subst h
    exact ⟨rfl, rfl⟩
  | a :: l, r + 1, y, h => by
    have h' : l[r]? = some y := by simpa using h
    obtain ⟨h1, h2⟩ := rowT_at h'
    have e : (r + 1) * 2 = r * 2 + 2 := by omega
    rw [e]
    exact ⟨by simpa [rowT] using h1, by simpa [rowT] using h2⟩
theorem rowT_take : ∀ (l : List (Int × Int)) (n : Nat), (rowT l).take (n * 2) = rowT (l.take n)
  | [], n => by simp [rowT]
  | a :: l, 0 => by simp [rowT]
  | a :: l, n + 1 => by
    have e : (n + 1) * 2 = n * 2 + 2 := by omega
    rw [e]
    simp [rowT, rowT_take l n]
theorem rowT_drop : ∀ (l : List (Int × Int)) (n : Nat), (rowT l).drop (n * 2) = rowT (l.drop n)
  | [], n => by simp [rowT]
  | a :: l, 0 => by simp
  | a :: l, n + 1 => by
    have e : (n + 1) * 2 = n * 2 + 2 := by omega
    rw [e]
    simp [rowT, rowT_drop l n]
theorem rowT_set : ∀ (l : List (Int × Int)) (r : Nat) (y : Int × Int) (v : Int), l[r]? = some y → (rowT l).set (r * 2 + 1) (.int .i64 v) = rowT (l.set r (y.1, v))
  | [], r, y, v, h => by simp at h
  | a :: l, 0, y, v, h => by
    simp at h
    subst h
    simp [rowT]
  | a :: l, r + 1, y, v, h => by
    have h' : l[r]? = some y := by simpa using h
    have e : (r + 1) * 2 + 1 = (r * 2 + 1) + 2 := by omega
    rw [e]
    simp [rowT, rowT_set l r y v h']
theorem info_tim : ∃ i, Try.prog.info? 95 = some i ∧ i.zero = some (.agg #[.int .i64 0, .int .i64 0]) ∧ i.size = 2 ∧ i.bytes = 16 := ⟨(Try.prog.info? 95).get (by kernel_rfl), by kernel_rfl, by kernel_rfl, by kernel_rfl, by kernel_rfl⟩
/-- A slice that holds timers in memory of its own. -/
def TowAt (w : World) (v : Value) (L : List (Int × Int)) : Prop := w.ownsRow 0 95 2 v L.length (rowT L)
theorem TowAt.nil (w : World) : TowAt w (.slice none 0 0) [] := ⟨by simp [rowT], .inl ⟨rfl, rfl⟩⟩
theorem TowAt.form {w : World} {v : Value} {L : List (Int × Int)} (h : TowAt w v L) : ∃ a c, v = .slice a L.length c ∧ L.length ≤ c := by
  rcases h.2 with ⟨rfl, h0⟩ | ⟨g, cap, cur, rfl, h1, h2, h3, h4⟩
  · rw [h0]; exact ⟨none, 0, rfl, Nat.le_refl _⟩
  · exact ⟨_, _, rfl, h3⟩
theorem TowAt.lt {w : World} {v : Value} {L : List (Int × Int)} (h : TowAt w v L) (k : Nat) (hk : v.ownBlock = some k) : k < w.heap.size ∧ ∃ cur, w.heap[k]? = some (.cells cur 95 (0, 0)) := by
  rcases h.2 with ⟨rfl, h0⟩ | ⟨g, cap, cur, rfl, h1, h2, h3⟩
  · simp [Value.ownBlock] at hk
  · simp [Value.ownBlock] at hk
    subst hk
    exact ⟨lt_of_heap h2, _, h2⟩
theorem TowAt.fr {S : Nat → Prop} {w w' : World} {v : Value} {L : List (Int × Int)} (h : TowAt w v L) (hf : Fr S w w') (hs : ∀ k, v.ownBlock = some k → ¬ S k) : TowAt w' v L := by
  obtain ⟨h0, h⟩ := h
  refine ⟨h0, ?_⟩
  rcases h with h | ⟨g, cap, cur, rfl, h1, h2, h3⟩
  · exact .inl h
  · exact .inr ⟨g, cap, cur, rfl, h1, by rw [hf.block g (lt_of_heap h2) (hs g rfl)]; exact h2, h3⟩
theorem TowAt.cells {w : World} {v : Value} {L : List (Int × Int)} (h : TowAt w v L) (r : Nat) (y : Int × Int) (hr : L[r]? = some y) : ∃ g cap, v = .slice (some ⟨g, 0, none⟩) L.length cap ∧ w.cell? ⟨g, r * 2, none⟩ = some (.int .i64 y.1) ∧ w.cell? ⟨g, r * 2 + 1, none⟩ = some (.int .i64 y.2) ∧ ∀ j, w.frozen? ⟨g, j, none⟩ = false := by
  rcases h.2 with ⟨rfl, h0⟩ | ⟨g, cap, cur, rfl, h1, h2, h3, h4, h5, h6⟩
  · have : L = [] := List.eq_nil_of_length_eq_zero h0
    subst this
    simp at hr
  · obtain ⟨c1, c2⟩ := rowT_at hr
    have key : ∀ j u, (rowT L)[j]? = some u → w.cell? ⟨g, j, none⟩ = some u := fun j u hj => by
      have hjl := (List.getElem?_eq_some_iff.1 hj).1
      rw [rowT_length] at hjl
      refine cell_of_heap h2 ?_
      rw [← h6, List.getElem?_take, if_pos hjl] at hj
      rw [← Array.getElem?_toList]
      exact hj
    exact ⟨g, cap, rfl, key _ _ c1, key _ _ c2, fun j => frozen_of_heap h2⟩
/-- When one of them is due is stored. -/
theorem TowAt.set {w : World} {g cap n : Nat} {L : List (Int × Int)} (h : TowAt w (.slice (some ⟨g, 0, none⟩) n cap) L) (r : Nat) (y : Int × Int) (v : Int) (hr : L[r]? = some y) : TowAt (w.setCell ⟨g, r * 2 + 1, none⟩ (.int .i64 v)) (.slice (some ⟨g, 0, none⟩) n cap) (L.set r (y.1, v)) := by
  obtain ⟨h0, ⟨e, -⟩ | ⟨g', cap', cur, e, h1, h2, h3, h4, h5, h6⟩⟩ := h
  · cases e
  · cases e
    have hrl := (List.getElem?_eq_some_iff.1 hr).1
    refine ⟨by rw [rowT_length], .inr ⟨g, cap, cur.setIfInBounds (r * 2 + 1) (.int .i64 v), by simp, h1, ?_, by simpa using h3, h4, by simpa using h5, ?_⟩⟩
    · have hl := lt_of_heap h2
      simp [World.setCell]
      rw [Array.getElem?_eq_getElem hl] at h2
      simp at h2
      simp [Array.modify, Array.modifyM, hl, h2]
    · rw [Array.toList_setIfInBounds, List.length_set, List.take_set, h6]
      exact rowT_set L r y v hr
/-- Of a row: what append reads. -/
theorem TowAt.src {w : World} {a : Option Addr} {n c : Nat} {L : List (Int × Int)} (h : TowAt w (.slice a n c) L) (i : Nat) (M : List (Int × Int)) (hM : M = (L.drop i).take M.length) (hne : 0 < M.length) : ∃ g, a = some ⟨g, 0, none⟩ ∧ ∀ (j : Nat) u, (rowT M)[j]? = some u → w.cell? ((⟨g, i * 2, none⟩ : Addr).add j) = some u := by
  obtain ⟨h0, ⟨e, hz⟩ | ⟨g, cap, cur, e, h1, h2, h3, h4, h5, h6⟩⟩ := h
  · have : L = [] := List.eq_nil_of_length_eq_zero hz
    subst this
    simp at hM
    subst hM
    simp at hne
  · cases e
    refine ⟨g, rfl, fun j u hj => ?_⟩
    rw [add_none]
    refine cell_of_heap h2 ?_
    have hjl := (List.getElem?_eq_some_iff.1 hj).1
    rw [rowT_length] at hjl
    rw [hM, ← rowT_take, ← rowT_drop, List.getElem?_take, if_pos hjl, List.getElem?_drop, ← h6, List.getElem?_take] at hj
    split at hj
    · rw [← Array.getElem?_toList]; exact hj
    · cases hj
theorem tow_append {w : World} {v : Value} {L M : List (Int × Int)} (h : TowAt w v L) (q : Option Addr) (m c : Nat) (hm : m = M.length) (hs : 0 < M.length → ∃ ad, q = some ad ∧ ∀ (j : Nat) u, (rowT M)[j]? = some u → w.cell? (ad.add j) = some u) (hfew : L.length + M.length ≤ 4096) :
    ∃ a' c' w', (Builtin.append_ #[91, 91] 91 #[v, .slice q m c]).run Try.prog w = .ok (.slice a' (L ++ M).length c') w' ∧ TowAt w' (.slice a' (L ++ M).length c') (L ++ M) ∧ Fr (fun k => v.ownBlock = some k) w w' ∧ ((Value.slice a' (L ++ M).length c').ownBlock = v.ownBlock ∨ (Value.slice a' (L ++ M).length c').ownBlock = some w.heap.size) := by
  obtain ⟨i, hi, hz0, hz1, hz2⟩ := info_tim
  by_cases hl0 : M = []
  · subst hl0
    subst hm
    have hsr : Src Try.prog i.size 91 (.slice q 0 c) 0 [] w := by
      cases q with
      | none => exact Src.ofNil _ Try.underlying91 c
      | some a => exact Src.ofSlice _ Try.underlying91 a 0 c [] (by simp) (fun j u hj => by simp at hj) (fun u hu => by cases hu)
    obtain ⟨a, cc, rfl, hc⟩ := h.form
    rw [List.append_nil]
    exact ⟨a, cc, w, run_append_nothing _ 91 91 91 95 i Try.underlying91 hi _ _ _ hc _ hsr, h, Fr.refl _ _, .inl rfl⟩
  · have hpos : 0 < M.length := List.length_pos_iff.2 hl0
    subst hm
    obtain ⟨ad, rfl, hnews⟩ := hs hpos
    have hby : ((L.length + M.length) + (L.length + M.length) / 4 + 192) * 16 ≤ 281474976710656 := by omega
    obtain ⟨v', w', hr, ho, hg, hiff⟩ := run_append_own_wide (P := Try.prog) w 0 91 91 95 i (.agg #[.int .i64 0, .int .i64 0]) 2 16 Try.underlying91 hi hz0 hz1 hz2 rfl (by decide) v L.length (rowT L) h ad M.length c (rowT M) (by rw [rowT_length]) hnews (rowT_one M) (by simp only [maxLen]; omega) hby (Nat.zero_le _)
    have hw := append_where (P := Try.prog) w 91 91 95 i (.agg #[.int .i64 0, .int .i64 0]) Try.underlying91 hi hz0 v L.length (rowT L) (by rw [hz1]; exact h) ad M.length c (rowT M) (by rw [rowT_length, hz1]) hnews (rowT_one M) hpos (by omega) (by rw [hz2]; exact hby) v' w' hr
    have hR : TowAt w' v' (L ++ M) := by
      unfold TowAt
      rw [rowT_append, List.length_append]
      exact ho
    obtain ⟨a', c', rfl, -⟩ := hR.form
    exact ⟨a', c', w', hr, hR, Fr.of_grown hg, hw⟩

theorem tcut_from (P : Program) (t e : TypeId) (ht : P.underlying t = some (.slice e)) (hsz : (P.info? e).map (·.size) = some 2) (a : Addr) (len cap k : Nat) (hl : k ≤ len) (hk : k < 9223372036854775807) :
    ∃ dp, (∀ w, (Instr.slice t (.slice (some a) len cap) (some (.int .i64 (k : Int))) none none).run P w = .ok (.slice dp (len - k) (cap - k)) w) ∧ (k < cap → dp = some (a.add (k * 2))) := by
  refine ⟨if cap = k then some a else some (a.add (k * 2)), fun w => ?_, fun h => by rw [if_neg (by omega)]⟩
  have hb := run_sliceBound (P := P) (w := w) .i64 (k : Int) len .sliceB (by omega) (by omega)
  cases hi : P.info? e with
  | none => simp [hi] at hsz
  | some i =>
  have h1 : i.size = 2 := by simpa [hi] using hsz
  simp [Instr.slice, run_underlying ht, Instr.sliceBounds, hb, sizeOf, typeInfo, hi, h1]
theorem tcut_to (P : Program) (t e : TypeId) (ht : P.underlying t = some (.slice e)) (hsz : (P.info? e).map (·.size) = some 2) (a : Addr) (len cap k : Nat) (hl : k ≤ cap) (hk : k < 9223372036854775807) (hc : 0 < cap) (h0 : a.add 0 = a) :
    ∀ w, (Instr.slice t (.slice (some a) len cap) none (some (.int .i64 (k : Int))) none).run P w = .ok (.slice (some a) k cap) w := by
  intro w
  have hb := run_sliceBound (P := P) (w := w) .i64 (k : Int) cap .sliceAcap (by omega) (by omega)
  cases hi : P.info? e with
  | none => simp [hi] at hsz
  | some i =>
  have hc1 : ¬ cap = 0 := by omega
  simp [Instr.slice, run_underlying ht, Instr.sliceBounds, hb, sizeOf, typeInfo, hi, hc1, h0]
end Go.Proofs.Ytoiencoojkahmaa
