/- Plain facts: zeros appended to a slice of one's own. -/
import Derived.Test.YthcjgjmbicnklaaGf
import Derived.Lib.AppendZerosOnto
namespace Go.Proofs.Ythcjgjmbicnklaa
open Go.RowKit
set_option linter.unusedVariables false

theorem zeros_bv (n : Nat) : Builtin.zeroCells #[.int .u8 0] n = (bv (List.replicate n 0)).toArray := by
  apply Array.ext
  · simp [Builtin.zeroCells, bv]
  · intro i h1 h2
    have h3 : i < n := by simpa [Builtin.zeroCells] using h1
    simp [Builtin.zeroCells, bv, Nat.mod_one]

theorem run_append_zeros {P : Program} (w : World) (t tn ty : TypeId) (i : TypeInfo) (ht : P.underlying t = some (.slice 5)) (kn : IntKind) (htn : P.underlying tn = some (.int kn)) (hi : P.info? 5 = some i) (hz : i.zero = some (.int .u8 0)) (hsize : i.size = 1) (hby : i.bytes = 1)
    (v : Value) (xs : List UInt8) (hown : OwnAt w 5 v (bv xs)) (n : Nat) (hn : n ≤ 255) (hlen : xs.length + n ≤ 225179981368371) :
    ∃ a' c' w', (Builtin.append_ #[t, tn] ty #[v, .int .i64 (n : Int)]).run P w = .ok (.slice a' (xs.length + n) c') w' ∧ OwnAt w' 5 (.slice a' (xs.length + n) c') (bv (xs ++ List.replicate n 0)) ∧ Fr (fun k => v.ownBlock = some k) w w' ∧ ((Value.slice a' (xs.length + n) c').ownBlock = v.ownBlock ∨ ∃ k, (Value.slice a' (xs.length + n) c').ownBlock = some k ∧ w.heap.size ≤ k) := by
  have hw : IntKind.i64.wrap (n : Int) = n := by rw [IntKind.wrap_i64]; omega
  have hw0 : IntKind.i64.wrap 0 = 0 := by decide
  have hneg : ¬ ((n : Int) < 0) := by omega
  have h48i : ¬ (281474976710656 < (n : Int)) := by omega
  have hfr : ∀ o, Fr (fun k => v.ownBlock = some k) w (w.drew.alloc o) := fun o => (Fr.refl _ _).drew.alloc o
  have hcz : (Value.int .u8 0).cells = #[.int .u8 0] := rfl
  have grown : ∀ (old : Nat), old < xs.length + n →
      OwnAt (w.drew.alloc (.cells ((bv xs).toArray ++ Builtin.zeroCells (Value.int .u8 0).cells n ++ Builtin.zeroCells (Value.int .u8 0).cells (grownCap w (xs.length + n) old 5 - (xs.length + n))) 5)) 5 (.slice (some ⟨w.heap.size, 0, none⟩) (xs.length + n) (grownCap w (xs.length + n) old 5)) (bv (xs ++ List.replicate n 0)) := by
    intro old ho
    have hge := grownCap_ge w (xs.length + n) old 5
    refine .inr ⟨w.heap.size, 0, grownCap w (xs.length + n) old 5, _, by rw [bv_length]; simp, heap_alloc_new w.drew _, ?_, ?_, grownCap_le_maxLen w (xs.length + n) old 5 (by unfold maxLen; omega), ?_⟩
    · simp [size_zeroCells, hcz, bv_length]; omega
    · rw [bv_length]; simpa using hge
    · rw [List.drop_zero, hcz, zeros_bv n, Array.toList_append, Array.toList_append, ← bv_append]; exact List.take_left
  rcases hown with ⟨rfl, hx⟩ | ⟨g, off, cap, cur, rfl, hg, hoc, hnc, hcm, htake⟩
  · obtain rfl : xs = [] := by simpa [bv] using hx
    by_cases hm : n = 0
    · subst hm
      refine ⟨none, 0, w, ?_, .inl ⟨rfl, rfl⟩, Fr.refl _ _, .inl rfl⟩
      simp [Builtin.append_, run_underlying ht, run_underlying htn, sizeOf, typeInfo, hi, asInt, asIntOf, hw0]
    · have hr := Lib.run_append_nil_zeros (P := P) w t tn ty 5 i (.int .u8 0) .i64 kn ht htn hi hz n (by omega) (by omega) (by omega) (by rw [hby]; omega)
      have h1 := grown 0 (by simp; omega)
      simp only [List.length_nil, Nat.zero_add] at h1 ⊢
      exact ⟨_, _, _, hr, by simpa [bv] using h1, hfr _, .inr ⟨_, rfl, Nat.le_refl _⟩⟩
  · rw [bv_length] at hnc htake ⊢
    by_cases hroom : xs.length + n ≤ cap
    · have hst := run_storeCells_at P g (off + xs.length) 5 (bv (List.replicate n 0)) 0 cur w hg (by simp [bv_length]; omega) (bv_one _)
      simp only [Nat.add_zero] at hst
      have hr : (Builtin.append_ #[t, tn] ty #[.slice (some ⟨g, off, none⟩) xs.length cap, .int .i64 (n : Int)]).run P w = .ok (.slice (some ⟨g, off, none⟩) (xs.length + n) cap) (w.setRow g (cur.toList.take (off + xs.length) ++ bv (List.replicate n 0) ++ cur.toList.drop (off + xs.length + (bv (List.replicate n 0)).length)).toArray) := by
        by_cases hm : n = 0
        · subst hm
          simp [bv] at hst
          simp [Builtin.append_, run_underlying ht, run_underlying htn, sizeOf, typeInfo, hi, asInt, asIntOf, hw0, hsize, Addr.add_lit, hst, bv, hnc]
        · simp [Builtin.append_, run_underlying ht, run_underlying htn, sizeOf, typeInfo, zeroValue, hi, hz, asInt, asIntOf, hw, hneg, hm, hby, h48i, hroom, hsize, Addr.add_lit, hcz, zeros_bv, hst]
      refine ⟨_, _, _, hr, .inr ⟨g, off, cap, _, by rw [bv_length]; simp, setRow_heap w g cur _ 5 _ hg, ?_, by rw [bv_length]; simpa using hroom, hcm, ?_⟩, ?_, .inl rfl⟩
      · simp [bv_length]; omega
      · rw [bv_length, List.length_append, List.length_replicate]
        have e1 : cur.toList.take (off + xs.length) = cur.toList.take off ++ bv xs := by
          rw [List.take_add, htake]
        rw [e1]
        simp only [List.append_assoc]
        rw [List.drop_append_of_le_length (by simp; omega), List.drop_of_length_le (by simp; omega), List.nil_append, ← List.append_assoc, List.take_append_of_le_length (by simp [bv_length]), List.take_of_length_le (by simp [bv_length]), bv_append]
      · exact Fr.setRow (S := fun k => Value.ownBlock (.slice (some ⟨g, off, none⟩) xs.length cap) = some k) (Fr.refl _ _) g (fun _ => rfl) _
    · have hold : (Builtin.firstCells i.size xs.length (.slice (some ⟨g, off, none⟩) xs.length cap)).run P w.drew = .ok (bv xs).toArray w.drew := by
        refine run_firstCells_some w.drew _ _ _ _ _ (bv xs) (by rw [hsize, bv_length]; omega) ?_
        intro j u hj
        rw [add_none]
        refine cell_of_heap (show w.drew.heap[g]? = _ from hg) ?_
        rw [← htake, List.getElem?_take] at hj
        split at hj
        · rw [List.getElem?_drop] at hj; simpa using hj
        · cases hj
      have hr := Lib.run_append_grow_zeros (P := P) w t tn ty 5 i (.int .u8 0) .i64 kn ht htn hi hz (some ⟨g, off, none⟩) xs.length cap (bv xs) hold n (by omega) (by omega) (by omega) (by omega) (by rw [hby]; omega) (growslice_fits_wide (by omega) (by rw [hby]; omega))
      exact ⟨_, _, _, hr, grown cap (by omega), hfr _, .inr ⟨_, rfl, Nat.le_refl _⟩⟩

theorem wpList_zeros {P : Program} {w0 w : World} {ops : Array Oper} {rest : List Oper} {o : Oper} {a : Act} {Q : Exit → Act → World → Prop} (hgd : o.guard = none) (s x : Operand) (t tn : TypeId)
    (ho : o.op = .call { callee := .builtin .append, args := #[s, x], argTypes := #[t, tn] })
    (i : TypeInfo) (ht : P.underlying t = some (.slice 5)) (kn : IntKind) (htn : P.underlying tn = some (.int kn)) (hi : P.info? 5 = some i) (hz : i.zero = some (.int .u8 0)) (hsize : i.size = 1) (hby : i.bytes = 1)
    (v : Value) (xs : List UInt8) (hsv : a.eval s = v) (hown : Gath w0 w v xs) (n : Nat) (hxv : a.eval x = .int .i64 (n : Int)) (hn : n ≤ 255) (hbytes : xs.length + n ≤ 225179981368371)
    (h : ∀ a' n' c' w', Hid (n' = xs.length + n) → Gath w0 w' (.slice a' n' c') (xs ++ List.replicate n 0) → Hid (Fr (fun k => v.ownBlock = some k) w w') → wpList P ops Q rest (a.put o.dst (.slice a' n' c')) w') : wpList P ops Q (o :: rest) a w := by
  obtain ⟨a', c', w', hr, hO, hf, hk⟩ := run_append_zeros (P := P) w t tn o.type i ht kn htn hi hz hsize hby v xs hown.1 n hn hbytes
  refine Lib.wpList_append_run w hgd s x t tn ho v _ hsv hxv _ _ hr ?_
  have h1 : Fr (fun k => w0.heap.size ≤ k) w0 w' := (hown.2.2.mono (fun _ _ e => e.elim)).trans (hf.mono (fun k _ e => hown.2.1 k e))
  refine h a' _ c' w' rfl ⟨hO, fun k e => ?_, h1.mono (fun k hk e => by omega)⟩ hf
  rcases hk with h1 | ⟨k', h1, h2⟩
  · exact hown.2.1 k (h1 ▸ e)
  · rw [h1] at e
    cases e
    have := hown.2.2.size
    omega
end Go.Proofs.Ythcjgjmbicnklaa
