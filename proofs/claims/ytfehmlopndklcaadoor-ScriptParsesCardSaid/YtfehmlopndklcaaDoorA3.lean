/- Plain facts: append of bytes as a step of a region that draws; a store into bytes of one's own; what a slice of one's own yields. -/
import Derived.Test.YtfehmlopndklcaaDoorA2
namespace Go.Proofs.YtfehmlopndklcaaDoor
open Go.RowKit

theorem step_append_bytes {P : Program} {w : World} {ops : Array Oper} {o : Oper} {a : Act} {K : Act → World → Prop} {Q : Exit → Act → World → Prop} {E : Prop} (hgd : o.guard = none) (s x : Operand) (t tx : TypeId)
    (ho : o.op = .call { callee := .builtin .append, args := #[s, x], argTypes := #[t, tx] })
    (e : TypeId) (i : TypeInfo) (ht : P.underlying t = some (.slice e)) (htx : P.underlying tx = some (.slice e)) (hi : P.info? e = some i) (hz : i.zero = some (.int .u8 0)) (hsize : i.size = 1) (hby : i.bytes = 1)
    (v : Value) (xs : List UInt8) (hsv : a.eval s = v) (hown : OwnAt w e v (bv xs)) (sp : Option Addr) (m c : Nat) (hxv : a.eval x = .slice sp m c) (X : List UInt8) (hX : SrcAt w sp X) (hm : X.length = m) (hbytes : xs.length + m ≤ 225179981368371)
    (h : ∀ a' n' c' w', Hid (n' = xs.length + m) → OwnAt w' e (.slice a' n' c') (bv (xs ++ X)) → Hid (Fr (fun k => v.ownBlock = some k) w w') → Hid ((Value.slice a' n' c').ownBlock = v.ownBlock ∨ ∃ k, (Value.slice a' n' c').ownBlock = some k ∧ w.heap.size ≤ k) → K (a.put o.dst (.slice a' n' c')) w') :
    if Region.wanted o (yielded ops a.tmps) = true then Oper.wp P o a w K Q else E := by
  refine step_append_at hgd s x t tx ho e i (.int .u8 0) ht hi hz hsize rfl v (bv xs) hsv hown (.slice sp m c) hxv m (bv X) (src_bytes tx e htx hX m c hm) (by rw [bv_length, hby]; omega) (by rw [bv_length]; unfold maxLen; omega) ?_
  intro a' c' w' h1 h2 h3
  rw [bv_length] at h1 h3 ⊢
  rw [← bv_append] at h1
  exact h a' _ c' w' rfl h1 h2 h3

theorem own_src {w : World} {e : TypeId} {sp : Option Addr} {n c : Nat} {xs : List UInt8} (h : OwnAt w e (.slice sp n c) (bv xs)) : SrcAt w sp xs := by
  intro j x hj
  obtain ⟨g, off, cap, e, hc, -⟩ := h.cells j (.int .u8 x.toNat) ((bv_get _ _ _).2 ⟨x, hj, rfl⟩)
  cases e
  exact ⟨_, rfl, by rw [add_none]; exact hc⟩

theorem own_len {w : World} {e : TypeId} {sp : Option Addr} {n c : Nat} {xs : List UInt8} (h : OwnAt w e (.slice sp n c) (bv xs)) : n = xs.length ∧ n ≤ c := by
  obtain ⟨a, cap, hv, hc⟩ := h.form
  cases hv
  exact ⟨bv_length xs, hc⟩

/-- nil, cut from its first place on. -/
theorem cut_nil (P : Program) (t e : TypeId) (ht : P.underlying t = some (.slice e)) (hsz : (P.info? e).map (·.size) = some 1) (k : IntKind) :
    ∀ w, (Instr.slice t (.slice none 0 0) (some (.int k (0 : Nat))) none none).run P w = .ok (.slice none (0 - 0) (0 - 0)) w := by
  intro w
  have hb := run_sliceBound (P := P) (w := w) k (0 : Int) 0 .sliceB (by omega) (by omega)
  cases hi : P.info? e with
  | none => simp [hi] at hsz
  | some i => simp [Instr.slice, run_underlying ht, Instr.sliceBounds, hb, sizeOf, typeInfo, hi]

/-- A new empty slice. -/
theorem own_empty (w : World) (e : TypeId) : OwnAt (w.alloc (.cells #[] e)) e (.slice (some ⟨w.heap.size, 0, none⟩) 0 0) (bv []) :=
  .inr ⟨w.heap.size, 0, 0, #[], rfl, heap_alloc_new w _, Nat.le_refl _, Nat.le_refl _, Nat.zero_le _, rfl⟩

theorem own_cell {w : World} {e : TypeId} {g off n c : Nat} {xs : List UInt8} (h : OwnAt w e (.slice (some ⟨g, off, none⟩) n c) (bv xs)) (k : Nat) (hk : k < xs.length) :
    ∃ y : UInt8, w.cell? ⟨g, off + k, none⟩ = some (.int .u8 y.toNat) ∧ w.frozen? ⟨g, off + k, none⟩ = false := by
  obtain ⟨g', off', cap, e, hc, hz⟩ := h.cells k (.int .u8 xs[k].toNat) ((bv_get _ _ _).2 ⟨xs[k], by simp, rfl⟩)
  simp only [Value.slice.injEq, Option.some.injEq, Addr.mk.injEq, and_true] at e
  obtain ⟨⟨rfl, rfl⟩, -⟩ := e
  exact ⟨xs[k], hc, hz⟩

theorem byte_next (y : UInt8) : ((y.toNat : Int) + 1) % 256 = ((y + 1).toNat : Int) := by
  rw [UInt8.toNat_add]
  simp

/-- One byte is stored. -/
theorem own_set {w : World} {e : TypeId} {g off n c : Nat} {xs : List UInt8} (h : OwnAt w e (.slice (some ⟨g, off, none⟩) n c) (bv xs)) (j : Nat) (hj : j < xs.length) (y : UInt8) :
    OwnAt (w.setCell ⟨g, off + j, none⟩ (.int .u8 y.toNat)) e (.slice (some ⟨g, off, none⟩) n c) (bv (xs.set j y)) := by
  rcases h with ⟨h, _⟩ | ⟨g', off', cap, cur, h, hg, h1, h2, h3, h4⟩
  · cases h
  · cases h
    rw [bv_length] at h2 h4 ⊢
    refine .inr ⟨g, off, c, cur.setIfInBounds (off + j) (.int .u8 y.toNat), by rw [bv_length, List.length_set], ?_, ?_, by rw [bv_length, List.length_set]; exact h2, h3, ?_⟩
    · rw [setCell_eq_setRow w g _ cur e _ _ hg]
      exact setRow_heap w g cur _ e _ hg
    · simpa using h1
    · rw [bv_length, List.length_set, Array.toList_setIfInBounds]
      have hset : bv (xs.set j y) = (bv xs).set j (.int .u8 y.toNat) := by simp [bv, List.map_set]
      rw [hset, ← h4]
      apply List.ext_getElem?
      intro k
      simp only [List.getElem?_take, List.getElem?_drop, List.getElem?_set, List.length_take, List.length_drop, Array.length_toList]
      by_cases hk : k < xs.length
      · rw [if_pos hk]
        by_cases hkj : j = k
        · subst hkj
          rw [if_pos rfl, if_pos rfl, if_pos (by omega), if_pos (by omega)]
        · rw [if_neg (by omega), if_neg hkj, if_pos hk]
      · rw [if_neg hk, if_neg (by omega), if_neg hk]

end Go.Proofs.YtfehmlopndklcaaDoor
