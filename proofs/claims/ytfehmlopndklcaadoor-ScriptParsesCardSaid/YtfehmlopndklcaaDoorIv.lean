/- Rows of ints of one's own; append of one more. -/
import Derived.Test.YtfehmlopndklcaaDoorRows
import Derived.Test.YtfehmlopndklcaaDoorA1
import Derived.ProofKit
namespace Go.Proofs.YtfehmlopndklcaaDoor
open Go.RowKit
set_option linter.unusedVariables false
set_option maxRecDepth 100000
set_option maxHeartbeats 4000000

/-- Ints, as cells. -/
def iv (l : List Int) : List Value := l.map (Value.int .i64)
theorem iv_length (l : List Int) : (iv l).length = l.length := by simp [iv]
theorem iv_append (a b : List Int) : iv (a ++ b) = iv a ++ iv b := by simp [iv]
theorem iv_get {l : List Int} {r : Nat} {x : Int} (h : l[r]? = some x) : (iv l)[r]? = some (.int .i64 x) := by unfold iv; rw [List.getElem?_map, h]; rfl
theorem own_tagI {w : World} {e : TypeId} {v : Value} {xs : List Value} (h : OwnAt w e v xs) (k : Nat) (hk : v.ownBlock = some k) : ∃ cur, w.heap[k]? = some (.cells cur e (0, 0)) := by
  rcases h with ⟨rfl, -⟩ | ⟨g', off, cap, cur, rfl, hg, -⟩
  · simp [Value.ownBlock] at hk
  · simp [Value.ownBlock] at hk
    subst hk
    exact ⟨cur, hg⟩
theorem tag_neI {w : World} {k j : Nat} {cs ds : Array Value} {s t : TypeId} {f e : Nat × Nat} (h : w.heap[k]? = some (.cells cs s f)) (h2 : w.heap[j]? = some (.cells ds t e)) (hne : s ≠ t) : k ≠ j := by
  rintro rfl
  rw [h] at h2
  cases h2
  exact hne rfl
theorem OwnAt.ints {w : World} {a : Option Addr} {n c : Nat} {zs : List Int} (h : OwnAt w 3 (.slice a n c) (iv zs)) (r : Nat) (z : Int) (hz : zs[r]? = some z) : ∃ b o, a = some ⟨b, o, none⟩ ∧ b < w.heap.size ∧ w.cell? ⟨b, o + r, none⟩ = some (.int .i64 z) := by
  obtain ⟨g, off, cap, e, hc, -⟩ := h.cells r (.int .i64 z) (iv_get hz)
  have e1 := (Value.slice.inj e).1
  exact ⟨g, off, e1, h.lt g (by rw [e1]; rfl), hc⟩
theorem OwnAt.lenI {w : World} {a : Option Addr} {n c : Nat} {zs : List Int} (h : OwnAt w 3 (.slice a n c) (iv zs)) : n = zs.length ∧ zs.length ≤ c := by
  obtain ⟨a', cap, e, h1⟩ := h.form
  rw [iv_length] at e h1
  have := Value.slice.inj e
  exact ⟨this.2.1, by rw [this.2.2]; exact h1⟩
theorem infoI : ∃ i, Tryd.prog.info? 3 = some i ∧ i.zero = some (.int .i64 0) ∧ i.size = 1 ∧ i.bytes = 8 := ⟨(Tryd.prog.info? 3).get (by kernel_rfl), by kernel_rfl, by kernel_rfl, by kernel_rfl, by kernel_rfl⟩
/-- append(l, d) of ints, behind the block in which d lies; the row may be long. -/
theorem run_addW {w : World} {v : Value} {M : List Int} (d : Int) (hM : OwnAt w 3 v (iv M)) (hfew : M.length ≤ 6000000000000) :
    ∃ a' n' c' w', (Builtin.append_ #[50, 50] 50 #[v, .slice (some ⟨w.heap.size, 0, none⟩) 1 1]).run Tryd.prog (w.alloc (.cells #[.int .i64 d] 3)) = .ok (.slice a' n' c') w' ∧ n' = M.length + 1 ∧ OwnAt w' 3 (.slice a' n' c') (iv (M ++ [d])) ∧ Fr (fun k => v.ownBlock = some k) w w' ∧ ((Value.slice a' n' c').ownBlock = v.ownBlock ∨ ∃ k, (Value.slice a' n' c').ownBlock = some k ∧ w.heap.size ≤ k) := by
  obtain ⟨i, I1, I2, I3, I4⟩ := infoI
  have hal : Fr (fun _ => False) w (w.alloc (.cells #[.int .i64 d] 3)) := (Fr.refl _ _).alloc _
  have hs : Src Tryd.prog 1 50 (.slice (some ⟨w.heap.size, 0, none⟩) 1 1) 1 [.int .i64 d] (w.alloc (.cells #[.int .i64 d] 3)) := Src.ofSlice _ Tryd.underlying50 _ 1 1 [.int .i64 d] rfl (fun j u hj => by
    cases j with
    | zero => simp at hj; subst hj; rw [add_none]; exact cell_of_heap (heap_alloc_new w _) rfl
    | succ j => simp at hj) (by simp [Value.oneCell'])
  obtain ⟨v', w', hr, h2, h3, h4, -⟩ := run_append_at (P := Tryd.prog) (w.alloc (.cells #[.int .i64 d] 3)) 50 50 50 3 i (.int .i64 0) Tryd.underlying50 I1 I2 I3 rfl v (iv M) (hM.fr hal (fun _ _ => id)) _ 1 [.int .i64 d] hs (by rw [I4, iv_length]; omega) (by rw [iv_length]; unfold maxLen; omega)
  have e : iv M ++ [.int .i64 d] = iv (M ++ [d]) := by rw [iv_append]; rfl
  rw [e] at h2
  obtain ⟨a', c', rfl, hc⟩ := h2.form
  rw [iv_length, List.length_append, List.length_singleton] at h2 h4 hr
  refine ⟨a', _, c', w', hr, rfl, h2, (hal.mono (fun _ _ e => e.elim)).trans h3, ?_⟩
  rcases h4 with e | ⟨k, e, hk2⟩
  · exact .inl e
  · exact .inr ⟨k, e, by simp at hk2; omega⟩
end Go.Proofs.YtfehmlopndklcaaDoor
