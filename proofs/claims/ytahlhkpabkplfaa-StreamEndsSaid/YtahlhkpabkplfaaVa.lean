/- The document's streams in memory. -/
import Derived.Test.YtahlhkpabkplfaaAv
import Derived.Test.YtahlhkpabkplfaaYd
import Derived.Test.YtahlhkpabkplfaaYb
import Derived.Deep.AppendSrc
namespace Go.Proofs.Ytahlhkpabkplfaa
open Go.RowKit
set_option linter.unusedVariables false
set_option maxRecDepth 100000
set_option maxHeartbeats 4000000

/-- Known streams, as cells. -/
def rowL : List (Int × Int) → List Value
  | [] => []
  | s :: l => .int .i64 s.1 :: .int .i64 s.2 :: rowL l
theorem rowL_length (l : List (Int × Int)) : (rowL l).length = l.length * 2 := by
  induction l with
  | nil => rfl
  | cons a l ih => simp only [rowL, List.length_cons, ih]; omega
theorem rowL_one (l : List (Int × Int)) : ∀ u ∈ rowL l, u.oneCell' = true := by
  induction l with
  | nil => intro u hu; cases hu
  | cons a l ih =>
    intro u hu
    simp only [rowL, List.mem_cons] at hu
    rcases hu with rfl | rfl | hu
    · rfl
    · rfl
    · exact ih u hu
theorem rowL_append (a b : List (Int × Int)) : rowL (a ++ b) = rowL a ++ rowL b := by
  induction a with
  | nil => rfl
  | cons x a ih => simp [rowL, ih]
theorem rowL_at : ∀ {l : List (Int × Int)} {r : Nat} {y : Int × Int}, l[r]? = some y → (rowL l)[r * 2]? = some (.int .i64 y.1) ∧ (rowL l)[r * 2 + 1]? = some (.int .i64 y.2)
  | [], r, y, h => by simp at h
  | a :: l, 0, y, h => by
    simp at h
    subst h
    exact ⟨rfl, rfl⟩
  | a :: l, r + 1, y, h => by
    have h' : l[r]? = some y := by simpa using h
    obtain ⟨h1, h2⟩ := rowL_at h'
    have e : (r + 1) * 2 = r * 2 + 2 := by omega
    rw [e]
    exact ⟨by simpa [rowL] using h1, by simpa [rowL] using h2⟩
theorem rowL_take : ∀ (l : List (Int × Int)) (n : Nat), (rowL l).take (n * 2) = rowL (l.take n)
  | [], n => by simp [rowL]
  | a :: l, 0 => by simp [rowL]
  | a :: l, n + 1 => by
    have e : (n + 1) * 2 = n * 2 + 2 := by omega
    rw [e]
    simp [rowL, rowL_take l n]
theorem rowL_drop : ∀ (l : List (Int × Int)) (n : Nat), (rowL l).drop (n * 2) = rowL (l.drop n)
  | [], n => by simp [rowL]
  | a :: l, 0 => by simp
  | a :: l, n + 1 => by
    have e : (n + 1) * 2 = n * 2 + 2 := by omega
    rw [e]
    simp [rowL, rowL_drop l n]
theorem rowL_set : ∀ (l : List (Int × Int)) (r : Nat) (y : Int × Int) (v : Int), l[r]? = some y → (rowL l).set (r * 2 + 1) (.int .i64 v) = rowL (l.set r (y.1, v))
  | [], r, y, v, h => by simp at h
  | a :: l, 0, y, v, h => by
    simp at h
    subst h
    simp [rowL]
  | a :: l, r + 1, y, v, h => by
    have h' : l[r]? = some y := by simpa using h
    have e : (r + 1) * 2 + 1 = (r * 2 + 1) + 2 := by omega
    rw [e]
    simp [rowL, rowL_set l r y v h']
theorem info_one : ∃ i, Try.prog.info? 89 = some i ∧ i.zero = some (.agg #[.int .i64 0, .int .i64 0]) ∧ i.size = 2 ∧ i.bytes = 16 := ⟨(Try.prog.info? 89).get (by kernel_rfl), by kernel_rfl, by kernel_rfl, by kernel_rfl, by kernel_rfl⟩
/-- A slice that holds known streams in memory of its own. -/
def RowAt (w : World) (v : Value) (L : List (Int × Int)) : Prop := w.ownsRow 0 89 2 v L.length (rowL L)
theorem RowAt.nil (w : World) : RowAt w (.slice none 0 0) [] := ⟨by simp [rowL], .inl ⟨rfl, rfl⟩⟩
theorem RowAt.form {w : World} {v : Value} {L : List (Int × Int)} (h : RowAt w v L) : ∃ a c, v = .slice a L.length c ∧ L.length ≤ c := by
  rcases h.2 with ⟨rfl, h0⟩ | ⟨g, cap, cur, rfl, h1, h2, h3, h4⟩
  · rw [h0]; exact ⟨none, 0, rfl, Nat.le_refl _⟩
  · exact ⟨_, _, rfl, h3⟩
theorem RowAt.lt {w : World} {v : Value} {L : List (Int × Int)} (h : RowAt w v L) (k : Nat) (hk : v.ownBlock = some k) : k < w.heap.size ∧ ∃ cur, w.heap[k]? = some (.cells cur 89 (0, 0)) := by
  rcases h.2 with ⟨rfl, h0⟩ | ⟨g, cap, cur, rfl, h1, h2, h3⟩
  · simp [Value.ownBlock] at hk
  · simp [Value.ownBlock] at hk
    subst hk
    exact ⟨lt_of_heap h2, _, h2⟩
theorem RowAt.fr {S : Nat → Prop} {w w' : World} {v : Value} {L : List (Int × Int)} (h : RowAt w v L) (hf : Fr S w w') (hs : ∀ k, v.ownBlock = some k → ¬ S k) : RowAt w' v L := by
  obtain ⟨h0, h⟩ := h
  refine ⟨h0, ?_⟩
  rcases h with h | ⟨g, cap, cur, rfl, h1, h2, h3⟩
  · exact .inl h
  · exact .inr ⟨g, cap, cur, rfl, h1, by rw [hf.block g (lt_of_heap h2) (hs g rfl)]; exact h2, h3⟩
theorem RowAt.cells {w : World} {v : Value} {L : List (Int × Int)} (h : RowAt w v L) (r : Nat) (y : Int × Int) (hr : L[r]? = some y) : ∃ g cap, v = .slice (some ⟨g, 0, none⟩) L.length cap ∧ w.cell? ⟨g, r * 2, none⟩ = some (.int .i64 y.1) ∧ w.cell? ⟨g, r * 2 + 1, none⟩ = some (.int .i64 y.2) ∧ ∀ j, w.frozen? ⟨g, j, none⟩ = false := by
  rcases h.2 with ⟨rfl, h0⟩ | ⟨g, cap, cur, rfl, h1, h2, h3, h4, h5, h6⟩
  · have : L = [] := List.eq_nil_of_length_eq_zero h0
    subst this
    simp at hr
  · obtain ⟨c1, c2⟩ := rowL_at hr
    have key : ∀ j u, (rowL L)[j]? = some u → w.cell? ⟨g, j, none⟩ = some u := fun j u hj => by
      have hjl := (List.getElem?_eq_some_iff.1 hj).1
      rw [rowL_length] at hjl
      refine cell_of_heap h2 ?_
      rw [← h6, List.getElem?_take, if_pos hjl] at hj
      rw [← Array.getElem?_toList]
      exact hj
    exact ⟨g, cap, rfl, key _ _ c1, key _ _ c2, fun j => frozen_of_heap h2⟩
/-- The state of one of them is stored. -/
theorem RowAt.set {w : World} {g cap n : Nat} {L : List (Int × Int)} (h : RowAt w (.slice (some ⟨g, 0, none⟩) n cap) L) (r : Nat) (y : Int × Int) (v : Int) (hr : L[r]? = some y) : RowAt (w.setCell ⟨g, r * 2 + 1, none⟩ (.int .i64 v)) (.slice (some ⟨g, 0, none⟩) n cap) (L.set r (y.1, v)) := by
  obtain ⟨h0, ⟨e, -⟩ | ⟨g', cap', cur, e, h1, h2, h3, h4, h5, h6⟩⟩ := h
  · cases e
  · cases e
    have hrl := (List.getElem?_eq_some_iff.1 hr).1
    refine ⟨by rw [rowL_length], .inr ⟨g, cap, cur.setIfInBounds (r * 2 + 1) (.int .i64 v), by simp, h1, ?_, by simpa using h3, h4, by simpa using h5, ?_⟩⟩
    · have hl := lt_of_heap h2
      simp [World.setCell]
      rw [Array.getElem?_eq_getElem hl] at h2
      simp at h2
      simp [Array.modify, Array.modifyM, hl, h2]
    · rw [Array.toList_setIfInBounds, List.length_set, List.take_set, h6]
      exact rowL_set L r y v hr
/-- Of a row: what append reads. -/
theorem RowAt.src {w : World} {a : Option Addr} {n c : Nat} {L : List (Int × Int)} (h : RowAt w (.slice a n c) L) (i : Nat) (M : List (Int × Int)) (hM : M = (L.drop i).take M.length) (hne : 0 < M.length) : ∃ g, a = some ⟨g, 0, none⟩ ∧ ∀ (j : Nat) u, (rowL M)[j]? = some u → w.cell? ((⟨g, i * 2, none⟩ : Addr).add j) = some u := by
  obtain ⟨h0, ⟨e, hz⟩ | ⟨g, cap, cur, e, h1, h2, h3, h4, h5, h6⟩⟩ := h
  · have : L = [] := List.eq_nil_of_length_eq_zero hz
    subst this
    simp at hM
    subst hM
    simp at hne
  · cases e
    refine ⟨g, rfl, fun j u hj => ?_⟩
    rw [add_none]
    refine cell_of_heap h2 ?_
    have hjl := (List.getElem?_eq_some_iff.1 hj).1
    rw [rowL_length] at hjl
    rw [hM, ← rowL_take, ← rowL_drop, List.getElem?_take, if_pos hjl, List.getElem?_drop, ← h6, List.getElem?_take] at hj
    split at hj
    · rw [← Array.getElem?_toList]; exact hj
    · cases hj
theorem row_append {w : World} {v : Value} {L M : List (Int × Int)} (h : RowAt w v L) (q : Option Addr) (m c : Nat) (hm : m = M.length) (hs : 0 < M.length → ∃ ad, q = some ad ∧ ∀ (j : Nat) u, (rowL M)[j]? = some u → w.cell? (ad.add j) = some u) (hfew : L.length + M.length ≤ 4096) :
    ∃ a' c' w', (Builtin.append_ #[70, 70] 70 #[v, .slice q m c]).run Try.prog w = .ok (.slice a' (L ++ M).length c') w' ∧ RowAt w' (.slice a' (L ++ M).length c') (L ++ M) ∧ Fr (fun k => v.ownBlock = some k) w w' ∧ ((Value.slice a' (L ++ M).length c').ownBlock = v.ownBlock ∨ (Value.slice a' (L ++ M).length c').ownBlock = some w.heap.size) := by
  obtain ⟨i, hi, hz0, hz1, hz2⟩ := info_one
  by_cases hl0 : M = []
  · subst hl0
    subst hm
    have hsr : Src Try.prog i.size 70 (.slice q 0 c) 0 [] w := by
      cases q with
      | none => exact Src.ofNil _ Try.underlying70 c
      | some a => exact Src.ofSlice _ Try.underlying70 a 0 c [] (by simp) (fun j u hj => by simp at hj) (fun u hu => by cases hu)
    obtain ⟨a, cc, rfl, hc⟩ := h.form
    rw [List.append_nil]
    exact ⟨a, cc, w, run_append_nothing _ 70 70 70 89 i Try.underlying70 hi _ _ _ hc _ hsr, h, Fr.refl _ _, .inl rfl⟩
  · have hpos : 0 < M.length := List.length_pos_iff.2 hl0
    subst hm
    obtain ⟨ad, rfl, hnews⟩ := hs hpos
    have hby : ((L.length + M.length) + (L.length + M.length) / 4 + 192) * 16 ≤ 281474976710656 := by omega
    obtain ⟨v', w', hr, ho, hg, hiff⟩ := run_append_own_wide (P := Try.prog) w 0 70 70 89 i (.agg #[.int .i64 0, .int .i64 0]) 2 16 Try.underlying70 hi hz0 hz1 hz2 rfl (by decide) v L.length (rowL L) h ad M.length c (rowL M) (by rw [rowL_length]) hnews (rowL_one M) (by simp only [maxLen]; omega) hby (Nat.zero_le _)
    have hw := append_where (P := Try.prog) w 70 70 89 i (.agg #[.int .i64 0, .int .i64 0]) Try.underlying70 hi hz0 v L.length (rowL L) (by rw [hz1]; exact h) ad M.length c (rowL M) (by rw [rowL_length, hz1]) hnews (rowL_one M) hpos (by omega) (by rw [hz2]; exact hby) v' w' hr
    have hR : RowAt w' v' (L ++ M) := by
      unfold RowAt
      rw [rowL_append, List.length_append]
      exact ho
    obtain ⟨a', c', rfl, -⟩ := hR.form
    exact ⟨a', c', w', hr, hR, Fr.of_grown hg, hw⟩

/-- The document's streams in memory: S. -/
structure RAt (base : Nat) (w : World) (g : Nat) (S : Stm) (vL vG : Value) : Prop where
  blk : w.heap[g]? = some (.cells #[.bool S.server, .int .i64 S.most, .int .i64 S.mine, vL, vG, .int .i64 S.theirs, .int .i64 S.ours] 72 (0, 0))
  row : RowAt w vL S.L
  gone : OwnAt w 3 vG (S.gone.map (Value.int .i64))
  inv : InvS S
  bg : base ≤ g
  bL : ∀ k, vL.ownBlock = some k → base ≤ k
  bG : ∀ k, vG.ownBlock = some k → base ≤ k
theorem own_tag {w : World} {e : TypeId} {v : Value} {xs : List Value} (h : OwnAt w e v xs) (k : Nat) (hk : v.ownBlock = some k) : ∃ cur, w.heap[k]? = some (.cells cur e (0, 0)) := by
  rcases h with ⟨rfl, -⟩ | ⟨g', off, cap, cur, rfl, hg, -⟩
  · simp [Value.ownBlock] at hk
  · simp [Value.ownBlock] at hk
    subst hk
    exact ⟨cur, hg⟩
theorem tag_ne {w : World} {k j : Nat} {cs ds : Array Value} {s t : TypeId} {f e : Nat × Nat} (h : w.heap[k]? = some (.cells cs s f)) (h2 : w.heap[j]? = some (.cells ds t e)) (hne : s ≠ t) : k ≠ j := by
  rintro rfl
  rw [h] at h2
  cases h2
  exact hne rfl
theorem RAt.apart {base : Nat} {w : World} {g : Nat} {S : Stm} {vL vG : Value} (h : RAt base w g S vL vG) : (∀ k, vL.ownBlock = some k → k ≠ g) ∧ (∀ k, vG.ownBlock = some k → k ≠ g) ∧ (∀ k, vL.ownBlock = some k → ¬ vG.ownBlock = some k) := by
  refine ⟨fun k hk => ?_, fun k hk => ?_, fun k hk hk2 => ?_⟩
  · obtain ⟨-, cur, hc⟩ := h.row.lt k hk
    exact tag_ne hc h.blk (by decide)
  · obtain ⟨cur, hc⟩ := own_tag h.gone k hk
    exact tag_ne hc h.blk (by decide)
  · obtain ⟨-, cur, hc⟩ := h.row.lt k hk
    obtain ⟨cur2, hc2⟩ := own_tag h.gone k hk2
    exact tag_ne hc hc2 (by decide) rfl
theorem RAt.fr {X : Nat → Prop} {base : Nat} {w w' : World} {g : Nat} {S : Stm} {vL vG : Value} (h : RAt base w g S vL vG) (hf : Fr X w w') (hg : ¬ X g) (hL : ∀ k, vL.ownBlock = some k → ¬ X k) (hG : ∀ k, vG.ownBlock = some k → ¬ X k) : RAt base w' g S vL vG :=
  ⟨(hf.block g (lt_of_heap h.blk) hg).trans h.blk, h.row.fr hf hL, h.gone.fr hf hG, h.inv, h.bg, h.bL, h.bG⟩
theorem RAt.later {base : Nat} {w w' : World} {g : Nat} {S : Stm} {vL vG : Value} (h : RAt base w g S vL vG) (hf : Fr (fun _ => False) w w') : RAt base w' g S vL vG := h.fr hf id (fun _ _ => id) (fun _ _ => id)
/-- The blocks that the document's streams lie in. -/
def RX (g : Nat) (vL vG : Value) (k : Nat) : Prop := k = g ∨ vL.ownBlock = some k ∨ vG.ownBlock = some k
theorem RAt.cells {base : Nat} {w : World} {g : Nat} {S : Stm} {vL vG : Value} (h : RAt base w g S vL vG) : w.cell? ⟨g, 0, none⟩ = some (.bool S.server) ∧ w.cell? ⟨g, 1, none⟩ = some (.int .i64 S.most) ∧ w.cell? ⟨g, 2, none⟩ = some (.int .i64 S.mine) ∧ w.cell? ⟨g, 3, none⟩ = some vL ∧ w.cell? ⟨g, 4, none⟩ = some vG ∧ w.cell? ⟨g, 5, none⟩ = some (.int .i64 S.theirs) ∧ w.cell? ⟨g, 6, none⟩ = some (.int .i64 S.ours) :=
  ⟨cell_of_heap h.blk rfl, cell_of_heap h.blk rfl, cell_of_heap h.blk rfl, cell_of_heap h.blk rfl, cell_of_heap h.blk rfl, cell_of_heap h.blk rfl, cell_of_heap h.blk rfl⟩
theorem vset {w : World} {g j : Nat} {cs : Array Value} {t : TypeId} {v : Value} (h : w.heap[g]? = some (.cells cs t (0, 0))) : (w.setCell ⟨g, j, none⟩ v).heap[g]? = some (.cells (cs.setIfInBounds j v) t (0, 0)) := by
  have hl := lt_of_heap h
  simp [World.setCell]
  rw [Array.getElem?_eq_getElem hl] at h
  simp at h
  simp [Array.modify, Array.modifyM, hl, h]
end Go.Proofs.Ytahlhkpabkplfaa
