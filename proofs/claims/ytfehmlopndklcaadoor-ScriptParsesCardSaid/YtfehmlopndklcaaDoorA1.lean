/- Plain facts: a slice that owns what lies from its place on to the end of its room; the builtin append on it, whatever is appended. -/
import Derived.Test.YtfehmlopndklcaaDoorB1
import Derived.Deep.Upon
import Derived.Deep.DeepAppendWide
namespace Go.Proofs.YtfehmlopndklcaaDoor
open Go.RowKit

/-- The slice value v, its elements of one cell and of type e, holds xs; nobody else's cells lie in its room. -/
def OwnAt (w : World) (e : TypeId) (v : Value) (xs : List Value) : Prop :=
  (v = .slice none 0 0 ∧ xs = []) ∨ ∃ g off cap cur, v = .slice (some ⟨g, off, none⟩) xs.length cap ∧ w.heap[g]? = some (.cells cur e (0, 0)) ∧ off + cap ≤ cur.size ∧ xs.length ≤ cap ∧ cap ≤ maxLen ∧ (cur.toList.drop off).take xs.length = xs

theorem OwnAt.nil (w : World) (e : TypeId) : OwnAt w e (.slice none 0 0) [] := .inl ⟨rfl, rfl⟩
theorem OwnAt.form {w : World} {e : TypeId} {v : Value} {xs : List Value} (h : OwnAt w e v xs) : ∃ a cap, v = .slice a xs.length cap ∧ xs.length ≤ cap := by
  rcases h with ⟨rfl, rfl⟩ | ⟨g, off, cap, cur, rfl, _, _, h, _⟩
  · exact ⟨none, 0, rfl, Nat.le_refl _⟩
  · exact ⟨_, cap, rfl, h⟩
theorem OwnAt.lt {w : World} {e : TypeId} {v : Value} {xs : List Value} (h : OwnAt w e v xs) (k : Nat) (hk : v.ownBlock = some k) : k < w.heap.size := by
  rcases h with ⟨rfl, rfl⟩ | ⟨g, off, cap, cur, rfl, hg, _⟩
  · simp [Value.ownBlock] at hk
  · simp [Value.ownBlock] at hk; subst hk; exact lt_of_heap hg
theorem OwnAt.fr {S : Nat → Prop} {w w' : World} {e : TypeId} {v : Value} {xs : List Value} (h : OwnAt w e v xs) (hf : Fr S w w') (hs : ∀ k, v.ownBlock = some k → ¬ S k) : OwnAt w' e v xs := by
  rcases h with h | ⟨g, off, cap, cur, rfl, hg, r⟩
  · exact .inl h
  · exact .inr ⟨g, off, cap, cur, rfl, by rw [hf.block g (lt_of_heap hg) (hs g rfl)]; exact hg, r⟩
theorem OwnAt.cells {w : World} {e : TypeId} {v : Value} {xs : List Value} (h : OwnAt w e v xs) (j : Nat) (u : Value) (hj : xs[j]? = some u) : ∃ g off cap, v = .slice (some ⟨g, off, none⟩) xs.length cap ∧ w.cell? ⟨g, off + j, none⟩ = some u ∧ w.frozen? ⟨g, off + j, none⟩ = false := by
  rcases h with ⟨rfl, rfl⟩ | ⟨g, off, cap, cur, rfl, hg, h1, h2, h3, h4⟩
  · simp at hj
  · refine ⟨g, off, cap, rfl, cell_of_heap hg ?_, frozen_of_heap hg⟩
    rw [← h4, List.getElem?_take] at hj
    split at hj
    · rw [List.getElem?_drop] at hj; simpa using hj
    · cases hj

theorem run_append_at {P : Program} (w : World) (t tx ty e : TypeId) (i : TypeInfo) (z : Value) (ht : P.underlying t = some (.slice e)) (hi : P.info? e = some i) (hz : i.zero = some z) (hsize : i.size = 1) (hzs : z.cells.size = 1)
    (v : Value) (xs : List Value) (hown : OwnAt w e v xs) (x : Value) (m : Nat) (news : List Value) (hs : Src P 1 tx x m news w) (hbytes : ((xs.length + m) + (xs.length + m) / 4 + 192) * i.bytes ≤ 281474976710656) (h63 : xs.length + m ≤ maxLen) :
    ∃ v' w', (Builtin.append_ #[t, tx] ty #[v, x]).run P w = .ok v' w' ∧ OwnAt w' e v' (xs ++ news) ∧ Fr (fun k => v.ownBlock = some k) w w' ∧ (v'.ownBlock = v.ownBlock ∨ ∃ k, v'.ownBlock = some k ∧ w.heap.size ≤ k) ∧ (news ≠ [] → v'.ownBlock ≠ none) := by
  have hm63 : xs.length + m ≤ 9223372036854775807 := by simpa [maxLen] using h63
  have hln : news.length = m := by have := hs.newsLen; omega
  have grown : ∀ (old : Nat), old < xs.length + m →
      OwnAt (w.drew.alloc (.cells ((xs ++ news).toArray ++ Builtin.zeroCells z.cells (grownCap w (xs.length + m) old e - (xs.length + m))) e)) e (.slice (some ⟨w.heap.size, 0, none⟩) (xs.length + m) (grownCap w (xs.length + m) old e)) (xs ++ news) := by
    intro old ho
    have hge := grownCap_ge w (xs.length + m) old e
    refine .inr ⟨w.heap.size, 0, _, _, by rw [List.length_append, hln], heap_alloc_new w.drew _, ?_, ?_, grownCap_le_maxLen w _ old e h63, ?_⟩
    · simp [size_zeroCells, hzs, hln]; omega
    · rw [List.length_append, hln]; exact hge
    · rw [List.drop_zero, Array.toList_append]; exact List.take_left
  have hfr : ∀ o, Fr (fun k => v.ownBlock = some k) w (w.drew.alloc o) := fun o => (Fr.refl _ _).drew.alloc o
  rcases hown with ⟨rfl, rfl⟩ | ⟨g, off, cap, cur, rfl, hg, hoc, hnc, hcm, htake⟩
  · by_cases hm : m = 0
    · subst hm
      obtain rfl : news = [] := List.eq_nil_of_length_eq_zero hln
      have hr := run_append_nothing (P := P) w t tx ty e i ht hi none 0 0 (Nat.le_refl _) x (by rw [hsize]; exact hs)
      exact ⟨_, _, hr, .inl ⟨rfl, rfl⟩, Fr.refl _ _, .inl rfl, fun h => absurd rfl h⟩
    · have hr := run_append_grow_src (P := P) w t tx ty e i z ht hi hz none 0 0 [] (run_firstCells_none _ _ _ _ _) x m news (by rw [hsize]; exact hs) (by omega) (by simp at hm63; omega) (growslice_fits_wide (by omega) hbytes)
      exact ⟨_, _, hr, grown 0 (by simp; omega), hfr _, .inr ⟨_, rfl, Nat.le_refl _⟩, fun _ => by simp [Value.ownBlock]⟩
  · by_cases hroom : xs.length + m ≤ cap
    · have hst := run_storeCells_at P g (off + xs.length) e news 0 cur w hg (by simp; omega) hs.one
      simp only [Nat.add_zero] at hst
      have hr : (Builtin.append_ #[t, tx] ty #[.slice (some ⟨g, off, none⟩) xs.length cap, x]).run P w = .ok (.slice (some ⟨g, off, none⟩) (xs.length + m) cap) (w.setRow g (cur.toList.take (off + xs.length) ++ news ++ cur.toList.drop (off + xs.length + news.length)).toArray) := by
        rcases hs.kind with ⟨e', hk⟩ | hk <;> simp [Builtin.append_, run_underlying ht, run_underlying hk, sizeOf, typeInfo, hi, hs.len, hroom, hsize, hs.cells, Addr.add_lit, hst]
      refine ⟨_, _, hr, .inr ⟨g, off, cap, _, by rw [List.length_append, hln], setRow_heap w g cur _ e _ hg, ?_, by rw [List.length_append]; omega, hcm, ?_⟩, ?_, .inl rfl, fun _ => by simp [Value.ownBlock]⟩
      · simp; omega
      · simp only [List.length_append, hln]
        have e1 : cur.toList.take (off + xs.length) = cur.toList.take off ++ xs := by
          rw [List.take_add, htake]
        rw [e1]
        simp only [List.append_assoc]
        rw [List.drop_append_of_le_length (by simp; omega), List.drop_of_length_le (by simp; omega), List.nil_append, ← List.append_assoc, List.take_append_of_le_length (by simp; omega), List.take_of_length_le (by simp; omega)]
      · exact Fr.setRow (S := fun k => Value.ownBlock (.slice (some ⟨g, off, none⟩) xs.length cap) = some k) (Fr.refl _ _) g (fun _ => rfl) _
    · have hold : (Builtin.firstCells i.size xs.length (.slice (some ⟨g, off, none⟩) xs.length cap)).run P w.drew = .ok xs.toArray w.drew := by
        refine run_firstCells_some w.drew _ _ _ _ _ xs (by rw [hsize]; omega) ?_
        intro j u hj
        rw [add_none]
        refine cell_of_heap (show w.drew.heap[g]? = _ from hg) ?_
        rw [← htake, List.getElem?_take] at hj
        split at hj
        · rw [List.getElem?_drop] at hj; simpa using hj
        · cases hj
      have hr := run_append_grow_src (P := P) w t tx ty e i z ht hi hz (some ⟨g, off, none⟩) xs.length cap xs hold x m news (by rw [hsize]; exact hs) (by omega) (by omega) (growslice_fits_wide (by omega) hbytes)
      exact ⟨_, _, hr, grown cap (by omega), hfr _, .inr ⟨_, rfl, Nat.le_refl _⟩, fun _ => by simp [Value.ownBlock]⟩

theorem wp_append_at {P : Program} {w : World} {o : Oper} {a : Act} {K : Act → World → Prop} {Q : Exit → Act → World → Prop} (s x : Operand) (t tx : TypeId)
    (ho : o.op = .call { callee := .builtin .append, args := #[s, x], argTypes := #[t, tx] })
    (e : TypeId) (i : TypeInfo) (z : Value) (ht : P.underlying t = some (.slice e)) (hi : P.info? e = some i) (hz : i.zero = some z) (hsize : i.size = 1) (hzs : z.cells.size = 1)
    (v : Value) (xs : List Value) (hsv : a.eval s = v) (hown : OwnAt w e v xs) (xv : Value) (hxv : a.eval x = xv) (m : Nat) (news : List Value) (hs : Src P 1 tx xv m news w) (hbytes : ((xs.length + m) + (xs.length + m) / 4 + 192) * i.bytes ≤ 281474976710656) (h63 : xs.length + m ≤ maxLen)
    (h : ∀ a' c' w', OwnAt w' e (.slice a' (xs.length + m) c') (xs ++ news) → Hid (Fr (fun k => v.ownBlock = some k) w w') → Hid ((Value.slice a' (xs.length + m) c').ownBlock = v.ownBlock ∨ ∃ k, (Value.slice a' (xs.length + m) c').ownBlock = some k ∧ w.heap.size ≤ k) → K (a.put o.dst (.slice a' (xs.length + m) c')) w') : o.wp P a w K Q := by
  obtain ⟨v', w', hr, h2, h3, h4, _⟩ := run_append_at (P := P) w t tx o.type e i z ht hi hz hsize hzs v xs hown xv m news hs hbytes h63
  unfold Oper.wp execOp
  simp only [ho, resolve, invoke, builtin, Sem.run_bind, Sem.run_pure, Result.andThen_ok, List.map_toArray, List.map_cons, List.map_nil, hsv, hxv, hr]
  obtain ⟨a', c', rfl, _⟩ := h2.form
  have hl : (xs ++ news).length = xs.length + m := by rw [List.length_append]; have := hs.newsLen; omega
  rw [hl] at h2 h4 ⊢
  exact h a' c' w' h2 h3 h4

theorem wpList_append_at {P : Program} {w : World} {ops : Array Oper} {rest : List Oper} {o : Oper} {a : Act} {Q : Exit → Act → World → Prop} (hgd : o.guard = none) (s x : Operand) (t tx : TypeId)
    (ho : o.op = .call { callee := .builtin .append, args := #[s, x], argTypes := #[t, tx] })
    (e : TypeId) (i : TypeInfo) (z : Value) (ht : P.underlying t = some (.slice e)) (hi : P.info? e = some i) (hz : i.zero = some z) (hsize : i.size = 1) (hzs : z.cells.size = 1)
    (v : Value) (xs : List Value) (hsv : a.eval s = v) (hown : OwnAt w e v xs) (xv : Value) (hxv : a.eval x = xv) (m : Nat) (news : List Value) (hs : Src P 1 tx xv m news w) (hbytes : ((xs.length + m) + (xs.length + m) / 4 + 192) * i.bytes ≤ 281474976710656) (h63 : xs.length + m ≤ maxLen)
    (h : ∀ a' c' w', OwnAt w' e (.slice a' (xs.length + m) c') (xs ++ news) → Hid (Fr (fun k => v.ownBlock = some k) w w') → Hid ((Value.slice a' (xs.length + m) c').ownBlock = v.ownBlock ∨ ∃ k, (Value.slice a' (xs.length + m) c').ownBlock = some k ∧ w.heap.size ≤ k) → wpList P ops Q rest (a.put o.dst (.slice a' (xs.length + m) c')) w') : wpList P ops Q (o :: rest) a w :=
  wpList_plain hgd fun _ hK => wp_append_at s x t tx ho e i z ht hi hz hsize hzs v xs hsv hown xv hxv m news hs hbytes h63 (fun a' c' w' h1 h2 h3 => hK _ _ (h a' c' w' h1 h2 h3))

theorem step_append_at {P : Program} {w : World} {ops : Array Oper} {o : Oper} {a : Act} {K : Act → World → Prop} {Q : Exit → Act → World → Prop} {E : Prop} (hgd : o.guard = none) (s x : Operand) (t tx : TypeId)
    (ho : o.op = .call { callee := .builtin .append, args := #[s, x], argTypes := #[t, tx] })
    (e : TypeId) (i : TypeInfo) (z : Value) (ht : P.underlying t = some (.slice e)) (hi : P.info? e = some i) (hz : i.zero = some z) (hsize : i.size = 1) (hzs : z.cells.size = 1)
    (v : Value) (xs : List Value) (hsv : a.eval s = v) (hown : OwnAt w e v xs) (xv : Value) (hxv : a.eval x = xv) (m : Nat) (news : List Value) (hs : Src P 1 tx xv m news w) (hbytes : ((xs.length + m) + (xs.length + m) / 4 + 192) * i.bytes ≤ 281474976710656) (h63 : xs.length + m ≤ maxLen)
    (h : ∀ a' c' w', OwnAt w' e (.slice a' (xs.length + m) c') (xs ++ news) → Hid (Fr (fun k => v.ownBlock = some k) w w') → Hid ((Value.slice a' (xs.length + m) c').ownBlock = v.ownBlock ∨ ∃ k, (Value.slice a' (xs.length + m) c').ownBlock = some k ∧ w.heap.size ≤ k) → K (a.put o.dst (.slice a' (xs.length + m) c')) w') :
    if Region.wanted o (yielded ops a.tmps) = true then Oper.wp P o a w K Q else E := by
  have hw : Region.wanted o (yielded ops a.tmps) = true := by simp [Region.wanted, hgd]
  rw [if_pos hw]
  exact wp_append_at s x t tx ho e i z ht hi hz hsize hzs v xs hsv hown xv hxv m news hs hbytes h63 h

end Go.Proofs.YtfehmlopndklcaaDoor
