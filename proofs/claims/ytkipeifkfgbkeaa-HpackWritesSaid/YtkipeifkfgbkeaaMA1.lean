/- Plain facts: a slice that owns what lies from its place on to the end of its room; the builtin append on it, whatever is appended. -/
import Derived.Test.YtkipeifkfgbkeaaB1
import Derived.Deep.Upon
import Derived.Deep.DeepAppendWide
import Derived.Laws.BytesString
namespace Go.Proofs.Ytkipeifkfgbkeaa
open Go.RowKit

/-- The slice value v, its elements of one cell and of type e, holds xs; nobody else's cells lie in its room. -/
def OwnAt (w : World) (e : TypeId) (v : Value) (xs : List Value) : Prop :=
  (v = .slice none 0 0 ∧ xs = []) ∨ ∃ g off cap cur, v = .slice (some ⟨g, off, none⟩) xs.length cap ∧ w.heap[g]? = some (.cells cur e (0, 0)) ∧ off + cap ≤ cur.size ∧ xs.length ≤ cap ∧ cap ≤ maxLen ∧ (cur.toList.drop off).take xs.length = xs

theorem OwnAt.nil (w : World) (e : TypeId) : OwnAt w e (.slice none 0 0) [] := .inl ⟨rfl, rfl⟩
theorem OwnAt.form {w : World} {e : TypeId} {v : Value} {xs : List Value} (h : OwnAt w e v xs) : ∃ a cap, v = .slice a xs.length cap ∧ xs.length ≤ cap := by
  rcases h with ⟨rfl, rfl⟩ | ⟨g, off, cap, cur, rfl, _, _, h, _⟩
  · exact ⟨none, 0, rfl, Nat.le_refl _⟩
  · exact ⟨_, cap, rfl, h⟩
theorem OwnAt.lt {w : World} {e : TypeId} {v : Value} {xs : List Value} (h : OwnAt w e v xs) (k : Nat) (hk : v.ownBlock = some k) : k < w.heap.size := by
  rcases h with ⟨rfl, rfl⟩ | ⟨g, off, cap, cur, rfl, hg, _⟩
  · simp [Value.ownBlock] at hk
  · simp [Value.ownBlock] at hk; subst hk; exact lt_of_heap hg
theorem OwnAt.fr {S : Nat → Prop} {w w' : World} {e : TypeId} {v : Value} {xs : List Value} (h : OwnAt w e v xs) (hf : Fr S w w') (hs : ∀ k, v.ownBlock = some k → ¬ S k) : OwnAt w' e v xs := by
  rcases h with h | ⟨g, off, cap, cur, rfl, hg, r⟩
  · exact .inl h
  · exact .inr ⟨g, off, cap, cur, rfl, by rw [hf.block g (lt_of_heap hg) (hs g rfl)]; exact hg, r⟩
theorem OwnAt.cells {w : World} {e : TypeId} {v : Value} {xs : List Value} (h : OwnAt w e v xs) (j : Nat) (u : Value) (hj : xs[j]? = some u) : ∃ g off cap, v = .slice (some ⟨g, off, none⟩) xs.length cap ∧ w.cell? ⟨g, off + j, none⟩ = some u ∧ w.frozen? ⟨g, off + j, none⟩ = false := by
  rcases h with ⟨rfl, rfl⟩ | ⟨g, off, cap, cur, rfl, hg, h1, h2, h3, h4⟩
  · simp at hj
  · refine ⟨g, off, cap, rfl, cell_of_heap hg ?_, frozen_of_heap hg⟩
    rw [← h4, List.getElem?_take] at hj
    split at hj
    · rw [List.getElem?_drop] at hj; simpa using hj
    · cases hj

theorem run_append_at {P : Program} (w : World) (t tx ty e : TypeId) (i : TypeInfo) (z : Value) (ht : P.underlying t = some (.slice e)) (hi : P.info? e = some i) (hz : i.zero = some z) (hsize : i.size = 1) (hzs : z.cells.size = 1)
    (v : Value) (xs : List Value) (hown : OwnAt w e v xs) (x : Value) (m : Nat) (news : List Value) (hs : Src P 1 tx x m news w) (hbytes : ((xs.length + m) + (xs.length + m) / 4 + 192) * i.bytes ≤ 281474976710656) (h63 : xs.length + m ≤ maxLen) :
    ∃ v' w', (Builtin.append_ #[t, tx] ty #[v, x]).run P w = .ok v' w' ∧ OwnAt w' e v' (xs ++ news) ∧ Fr (fun k => v.ownBlock = some k) w w' ∧ (v'.ownBlock = v.ownBlock ∨ ∃ k, v'.ownBlock = some k ∧ w.heap.size ≤ k) ∧ (news ≠ [] → v'.ownBlock ≠ none) := by
  have hm63 : xs.length + m ≤ 9223372036854775807 := by simpa [maxLen] using h63
  have hln : news.length = m := by have := hs.newsLen; omega
  have grown : ∀ (old : Nat), old < xs.length + m →
      OwnAt (w.drew.alloc (.cells ((xs ++ news).toArray ++ Builtin.zeroCells z.cells (grownCap w (xs.length + m) old e - (xs.length + m))) e)) e (.slice (some ⟨w.heap.size, 0, none⟩) (xs.length + m) (grownCap w (xs.length + m) old e)) (xs ++ news) := by
    intro old ho
    have hge := grownCap_ge w (xs.length + m) old e
    refine .inr ⟨w.heap.size, 0, _, _, by rw [List.length_append, hln], heap_alloc_new w.drew _, ?_, ?_, grownCap_le_maxLen w _ old e h63, ?_⟩
    · simp [size_zeroCells, hzs, hln]; omega
    · rw [List.length_append, hln]; exact hge
    · rw [List.drop_zero, Array.toList_append]; exact List.take_left
  have hfr : ∀ o, Fr (fun k => v.ownBlock = some k) w (w.drew.alloc o) := fun o => (Fr.refl _ _).drew.alloc o
  rcases hown with ⟨rfl, rfl⟩ | ⟨g, off, cap, cur, rfl, hg, hoc, hnc, hcm, htake⟩
  · by_cases hm : m = 0
    · subst hm
      obtain rfl : news = [] := List.eq_nil_of_length_eq_zero hln
      have hr := run_append_nothing (P := P) w t tx ty e i ht hi none 0 0 (Nat.le_refl _) x (by rw [hsize]; exact hs)
      exact ⟨_, _, hr, .inl ⟨rfl, rfl⟩, Fr.refl _ _, .inl rfl, fun h => absurd rfl h⟩
    · have hr := run_append_grow_src (P := P) w t tx ty e i z ht hi hz none 0 0 [] (run_firstCells_none _ _ _ _ _) x m news (by rw [hsize]; exact hs) (by omega) (by simp at hm63; omega) (growslice_fits_wide (by omega) hbytes)
      exact ⟨_, _, hr, grown 0 (by simp; omega), hfr _, .inr ⟨_, rfl, Nat.le_refl _⟩, fun _ => by simp [Value.ownBlock]⟩
  · by_cases hroom : xs.length + m ≤ cap
    · have hst := run_storeCells_at P g (off + xs.length) e news 0 cur w hg (by simp; omega) hs.one
      simp only [Nat.add_zero] at hst
      have hr : (Builtin.append_ #[t, tx] ty #[.slice (some ⟨g, off, none⟩) xs.length cap, x]).run P w = .ok (.slice (some ⟨g, off, none⟩) (xs.length + m) cap) (w.setRow g (cur.toList.take (off + xs.length) ++ news ++ cur.toList.drop (off + xs.length + news.length)).toArray) := by
        rcases hs.kind with ⟨e', hk⟩ | hk <;> simp [Builtin.append_, run_underlying ht, run_underlying hk, sizeOf, typeInfo, hi, hs.len, hroom, hsize, hs.cells, Addr.add_lit, hst]
      refine ⟨_, _, hr, .inr ⟨g, off, cap, _, by rw [List.length_append, hln], setRow_heap w g cur _ e _ hg, ?_, by rw [List.length_append]; omega, hcm, ?_⟩, ?_, .inl rfl, fun _ => by simp [Value.ownBlock]⟩
      · simp; omega
      · simp only [List.length_append, hln]
        have e1 : cur.toList.take (off + xs.length) = cur.toList.take off ++ xs := by
          rw [List.take_add, htake]
        rw [e1]
        simp only [List.append_assoc]
        rw [List.drop_append_of_le_length (by simp; omega), List.drop_of_length_le (by simp; omega), List.nil_append, ← List.append_assoc, List.take_append_of_le_length (by simp; omega), List.take_of_length_le (by simp; omega)]
      · exact Fr.setRow (S := fun k => Value.ownBlock (.slice (some ⟨g, off, none⟩) xs.length cap) = some k) (Fr.refl _ _) g (fun _ => rfl) _
    · have hold : (Builtin.firstCells i.size xs.length (.slice (some ⟨g, off, none⟩) xs.length cap)).run P w.drew = .ok xs.toArray w.drew := by
        refine run_firstCells_some w.drew _ _ _ _ _ xs (by rw [hsize]; omega) ?_
        intro j u hj
        rw [add_none]
        refine cell_of_heap (show w.drew.heap[g]? = _ from hg) ?_
        rw [← htake, List.getElem?_take] at hj
        split at hj
        · rw [List.getElem?_drop] at hj; simpa using hj
        · cases hj
      have hr := run_append_grow_src (P := P) w t tx ty e i z ht hi hz (some ⟨g, off, none⟩) xs.length cap xs hold x m news (by rw [hsize]; exact hs) (by omega) (by omega) (growslice_fits_wide (by omega) hbytes)
      exact ⟨_, _, hr, grown cap (by omega), hfr _, .inr ⟨_, rfl, Nat.le_refl _⟩, fun _ => by simp [Value.ownBlock]⟩

theorem wp_append_at {P : Program} {w : World} {o : Oper} {a : Act} {K : Act → World → Prop} {Q : Exit → Act → World → Prop} (s x : Operand) (t tx : TypeId)
    (ho : o.op = .call { callee := .builtin .append, args := #[s, x], argTypes := #[t, tx] })
    (e : TypeId) (i : TypeInfo) (z : Value) (ht : P.underlying t = some (.slice e)) (hi : P.info? e = some i) (hz : i.zero = some z) (hsize : i.size = 1) (hzs : z.cells.size = 1)
    (v : Value) (xs : List Value) (hsv : a.eval s = v) (hown : OwnAt w e v xs) (xv : Value) (hxv : a.eval x = xv) (m : Nat) (news : List Value) (hs : Src P 1 tx xv m news w) (hbytes : ((xs.length + m) + (xs.length + m) / 4 + 192) * i.bytes ≤ 281474976710656) (h63 : xs.length + m ≤ maxLen)
    (h : ∀ a' c' w', OwnAt w' e (.slice a' (xs.length + m) c') (xs ++ news) → Hid (Fr (fun k => v.ownBlock = some k) w w') → Hid ((Value.slice a' (xs.length + m) c').ownBlock = v.ownBlock ∨ ∃ k, (Value.slice a' (xs.length + m) c').ownBlock = some k ∧ w.heap.size ≤ k) → K (a.put o.dst (.slice a' (xs.length + m) c')) w') : o.wp P a w K Q := by
  obtain ⟨v', w', hr, h2, h3, h4, _⟩ := run_append_at (P := P) w t tx o.type e i z ht hi hz hsize hzs v xs hown xv m news hs hbytes h63
  unfold Oper.wp execOp
  simp only [ho, resolve, invoke, builtin, Sem.run_bind, Sem.run_pure, Result.andThen_ok, List.map_toArray, List.map_cons, List.map_nil, hsv, hxv, hr]
  obtain ⟨a', c', rfl, _⟩ := h2.form
  have hl : (xs ++ news).length = xs.length + m := by rw [List.length_append]; have := hs.newsLen; omega
  rw [hl] at h2 h4 ⊢
  exact h a' c' w' h2 h3 h4

theorem wpList_append_at {P : Program} {w : World} {ops : Array Oper} {rest : List Oper} {o : Oper} {a : Act} {Q : Exit → Act → World → Prop} (hgd : o.guard = none) (s x : Operand) (t tx : TypeId)
    (ho : o.op = .call { callee := .builtin .append, args := #[s, x], argTypes := #[t, tx] })
    (e : TypeId) (i : TypeInfo) (z : Value) (ht : P.underlying t = some (.slice e)) (hi : P.info? e = some i) (hz : i.zero = some z) (hsize : i.size = 1) (hzs : z.cells.size = 1)
    (v : Value) (xs : List Value) (hsv : a.eval s = v) (hown : OwnAt w e v xs) (xv : Value) (hxv : a.eval x = xv) (m : Nat) (news : List Value) (hs : Src P 1 tx xv m news w) (hbytes : ((xs.length + m) + (xs.length + m) / 4 + 192) * i.bytes ≤ 281474976710656) (h63 : xs.length + m ≤ maxLen)
    (h : ∀ a' c' w', OwnAt w' e (.slice a' (xs.length + m) c') (xs ++ news) → Hid (Fr (fun k => v.ownBlock = some k) w w') → Hid ((Value.slice a' (xs.length + m) c').ownBlock = v.ownBlock ∨ ∃ k, (Value.slice a' (xs.length + m) c').ownBlock = some k ∧ w.heap.size ≤ k) → wpList P ops Q rest (a.put o.dst (.slice a' (xs.length + m) c')) w') : wpList P ops Q (o :: rest) a w :=
  wpList_plain hgd fun _ hK => wp_append_at s x t tx ho e i z ht hi hz hsize hzs v xs hsv hown xv hxv m news hs hbytes h63 (fun a' c' w' h1 h2 h3 => hK _ _ (h a' c' w' h1 h2 h3))

theorem step_append_at {P : Program} {w : World} {ops : Array Oper} {o : Oper} {a : Act} {K : Act → World → Prop} {Q : Exit → Act → World → Prop} {E : Prop} (hgd : o.guard = none) (s x : Operand) (t tx : TypeId)
    (ho : o.op = .call { callee := .builtin .append, args := #[s, x], argTypes := #[t, tx] })
    (e : TypeId) (i : TypeInfo) (z : Value) (ht : P.underlying t = some (.slice e)) (hi : P.info? e = some i) (hz : i.zero = some z) (hsize : i.size = 1) (hzs : z.cells.size = 1)
    (v : Value) (xs : List Value) (hsv : a.eval s = v) (hown : OwnAt w e v xs) (xv : Value) (hxv : a.eval x = xv) (m : Nat) (news : List Value) (hs : Src P 1 tx xv m news w) (hbytes : ((xs.length + m) + (xs.length + m) / 4 + 192) * i.bytes ≤ 281474976710656) (h63 : xs.length + m ≤ maxLen)
    (h : ∀ a' c' w', OwnAt w' e (.slice a' (xs.length + m) c') (xs ++ news) → Hid (Fr (fun k => v.ownBlock = some k) w w') → Hid ((Value.slice a' (xs.length + m) c').ownBlock = v.ownBlock ∨ ∃ k, (Value.slice a' (xs.length + m) c').ownBlock = some k ∧ w.heap.size ≤ k) → K (a.put o.dst (.slice a' (xs.length + m) c')) w') :
    if Region.wanted o (yielded ops a.tmps) = true then Oper.wp P o a w K Q else E := by
  have hw : Region.wanted o (yielded ops a.tmps) = true := by simp [Region.wanted, hgd]
  rw [if_pos hw]
  exact wp_append_at s x t tx ho e i z ht hi hz hsize hzs v xs hsv hown xv hxv m news hs hbytes h63 h

end Go.Proofs.Ytkipeifkfgbkeaa
/- Plain facts: append of bytes onto bytes; blocks that are apart. -/
namespace Go.Proofs.Ytkipeifkfgbkeaa
open Go.RowKit

theorem src_bytes {P : Program} {w : World} {sp : Option Addr} {X : List UInt8} (tx e' : TypeId) (hk : P.underlying tx = some (.slice e')) (h : SrcAt w sp X) (m c : Nat) (hm : X.length = m) : Src P 1 tx (.slice sp m c) m (bv X) w := by
  cases sp with
  | none =>
    have h0 : X = [] := by
      cases X with
      | nil => rfl
      | cons x r => obtain ⟨ad, e, _⟩ := h 0 x rfl; cases e
    subst h0
    subst hm
    exact Src.ofNil w hk c
  | some a =>
    refine Src.ofSlice w hk a m c (bv X) (by rw [bv_length]; omega) (fun j u hj => ?_) (bv_one X)
    obtain ⟨x, hx, rfl⟩ := (bv_get _ _ _).1 hj
    obtain ⟨ad, e, hc⟩ := h j x hx
    cases e
    exact hc

theorem wpList_append_bytes {P : Program} {w : World} {ops : Array Oper} {rest : List Oper} {o : Oper} {a : Act} {Q : Exit → Act → World → Prop} (hgd : o.guard = none) (s x : Operand) (t tx : TypeId)
    (ho : o.op = .call { callee := .builtin .append, args := #[s, x], argTypes := #[t, tx] })
    (e : TypeId) (i : TypeInfo) (ht : P.underlying t = some (.slice e)) (htx : P.underlying tx = some (.slice e)) (hi : P.info? e = some i) (hz : i.zero = some (.int .u8 0)) (hsize : i.size = 1) (hby : i.bytes = 1)
    (v : Value) (xs : List UInt8) (hsv : a.eval s = v) (hown : OwnAt w e v (bv xs)) (sp : Option Addr) (m c : Nat) (hxv : a.eval x = .slice sp m c) (X : List UInt8) (hX : SrcAt w sp X) (hm : X.length = m) (hbytes : xs.length + m ≤ 225179981368371)
    (h : ∀ a' n' c' w', Hid (n' = xs.length + m) → OwnAt w' e (.slice a' n' c') (bv (xs ++ X)) → Hid (Fr (fun k => v.ownBlock = some k) w w') → Hid ((Value.slice a' n' c').ownBlock = v.ownBlock ∨ ∃ k, (Value.slice a' n' c').ownBlock = some k ∧ w.heap.size ≤ k) → wpList P ops Q rest (a.put o.dst (.slice a' n' c')) w') : wpList P ops Q (o :: rest) a w := by
  refine wpList_append_at hgd s x t tx ho e i (.int .u8 0) ht hi hz hsize rfl v (bv xs) hsv hown (.slice sp m c) hxv m (bv X) (src_bytes tx e htx hX m c hm) (by rw [bv_length, hby]; omega) (by rw [bv_length]; unfold maxLen; omega) ?_
  intro a' c' w' h1 h2 h3
  rw [bv_length] at h1 h3 ⊢
  rw [← bv_append] at h1
  exact h a' _ c' w' rfl h1 h2 h3

/-- No block lies in both. -/
def Ap (x y : Option Nat) : Prop := ∀ g, x = some g → y ≠ some g
/-- It lies behind b. -/
def Dis (b : Nat) (x : Option Nat) : Prop := ∀ g, x = some g → b < g
theorem Ap.symm {x y : Option Nat} (h : Ap x y) : Ap y x := fun g e e' => h g e' e
theorem Ap.new {x x' y : Option Nat} {s : Nat} (h : Ap x y) (hx : x' = x ∨ ∃ k, x' = some k ∧ s ≤ k) (hy : ∀ g, y = some g → g < s) : Ap x' y := by
  rcases hx with rfl | ⟨k, rfl, hk⟩
  · exact h
  · intro g e e'; cases e; have := hy _ e'; omega
theorem Dis.new {b : Nat} {x x' : Option Nat} {s : Nat} (h : Dis b x) (hx : x' = x ∨ ∃ k, x' = some k ∧ s ≤ k) (hb : b < s) : Dis b x' := by
  rcases hx with rfl | ⟨k, rfl, hk⟩
  · exact h
  · intro g e; cases e; omega

theorem SrcAt.fr {S : Nat → Prop} {w w' : World} {sp : Option Addr} {X : List UInt8} (h : SrcAt w sp X) (hf : Fr S w w') (hs : ∀ a, sp = some a → 0 < X.length → ¬ S a.block) : SrcAt w' sp X := by
  intro j c hj
  obtain ⟨ad, e, hc⟩ := h j c hj
  have hb : (ad.add j).block = ad.block := by unfold Addr.add; split <;> rfl
  have h0 : 0 < X.length := by have := (List.getElem?_eq_some_iff.1 hj).1; omega
  exact ⟨ad, e, by rw [hf.cell (World.block_lt_of_cell? _ _ hc) (by rw [hb]; exact hs ad e h0)]; exact hc⟩

/-- The string of these bytes. -/
def sv8 (X : List UInt8) : Value := .string ⟨X.toArray⟩

theorem fold_push (X : List UInt8) : ∀ s : ByteArray, (X.map fun c => (c.toNat : Int)).foldl (fun r n => r.push (UInt8.ofNat n.toNat)) s = ⟨s.data ++ X.toArray⟩ := by
  induction X with
  | nil => intro s; simp
  | cons x r ih =>
    intro s
    simp only [List.map_cons, List.foldl_cons, ih]
    congr 1
    apply Array.ext'
    simp [ByteArray.push]

theorem string_of {P : Program} {w : World} {sp : Option Addr} {X : List UInt8} (src dst e : TypeId) (hs : P.underlying src = some (.slice e)) (hd : P.underlying dst = some .string) (he : P.underlying e = some (.int .u8)) (h : SrcAt w sp X) (m c : Nat) (hm : X.length = m) :
    (convert src dst (.slice sp m c)).run P w = .ok (sv8 X) w := by
  rw [run_convert_bytes_string w src dst e sp m c hs he hd]
  cases sp with
  | none =>
    have h0 : X = [] := by
      cases X with
      | nil => rfl
      | cons x r => obtain ⟨ad, e, _⟩ := h 0 x rfl; cases e
    subst h0
    simp [Conv.bytesToString, sv8]
    rfl
  | some a =>
    have hl := run_loadCells_list (P := P) w a (bv X) (fun j u hj => by
      obtain ⟨x, hx, rfl⟩ := (bv_get _ _ _).1 hj
      obtain ⟨ad, e, hc⟩ := h j x hx
      cases e
      exact hc)
    rw [bv_length, hm] at hl
    have e1 : bv X = (X.map fun c => (c.toNat : Int)).map (Value.int .u8) := by simp [bv]
    rw [e1] at hl
    rw [run_bytesToString w a m c _ hl, fold_push]
    simp [sv8]

end Go.Proofs.Ytkipeifkfgbkeaa
/- Plain facts: append of bytes as a step of a region that draws; a store into bytes of one's own; what a slice of one's own yields. -/
namespace Go.Proofs.Ytkipeifkfgbkeaa
open Go.RowKit

theorem step_append_bytes {P : Program} {w : World} {ops : Array Oper} {o : Oper} {a : Act} {K : Act → World → Prop} {Q : Exit → Act → World → Prop} {E : Prop} (hgd : o.guard = none) (s x : Operand) (t tx : TypeId)
    (ho : o.op = .call { callee := .builtin .append, args := #[s, x], argTypes := #[t, tx] })
    (e : TypeId) (i : TypeInfo) (ht : P.underlying t = some (.slice e)) (htx : P.underlying tx = some (.slice e)) (hi : P.info? e = some i) (hz : i.zero = some (.int .u8 0)) (hsize : i.size = 1) (hby : i.bytes = 1)
    (v : Value) (xs : List UInt8) (hsv : a.eval s = v) (hown : OwnAt w e v (bv xs)) (sp : Option Addr) (m c : Nat) (hxv : a.eval x = .slice sp m c) (X : List UInt8) (hX : SrcAt w sp X) (hm : X.length = m) (hbytes : xs.length + m ≤ 225179981368371)
    (h : ∀ a' n' c' w', Hid (n' = xs.length + m) → OwnAt w' e (.slice a' n' c') (bv (xs ++ X)) → Hid (Fr (fun k => v.ownBlock = some k) w w') → Hid ((Value.slice a' n' c').ownBlock = v.ownBlock ∨ ∃ k, (Value.slice a' n' c').ownBlock = some k ∧ w.heap.size ≤ k) → K (a.put o.dst (.slice a' n' c')) w') :
    if Region.wanted o (yielded ops a.tmps) = true then Oper.wp P o a w K Q else E := by
  refine step_append_at hgd s x t tx ho e i (.int .u8 0) ht hi hz hsize rfl v (bv xs) hsv hown (.slice sp m c) hxv m (bv X) (src_bytes tx e htx hX m c hm) (by rw [bv_length, hby]; omega) (by rw [bv_length]; unfold maxLen; omega) ?_
  intro a' c' w' h1 h2 h3
  rw [bv_length] at h1 h3 ⊢
  rw [← bv_append] at h1
  exact h a' _ c' w' rfl h1 h2 h3

theorem own_src {w : World} {e : TypeId} {sp : Option Addr} {n c : Nat} {xs : List UInt8} (h : OwnAt w e (.slice sp n c) (bv xs)) : SrcAt w sp xs := by
  intro j x hj
  obtain ⟨g, off, cap, e, hc, -⟩ := h.cells j (.int .u8 x.toNat) ((bv_get _ _ _).2 ⟨x, hj, rfl⟩)
  cases e
  exact ⟨_, rfl, by rw [add_none]; exact hc⟩

theorem own_len {w : World} {e : TypeId} {sp : Option Addr} {n c : Nat} {xs : List UInt8} (h : OwnAt w e (.slice sp n c) (bv xs)) : n = xs.length ∧ n ≤ c := by
  obtain ⟨a, cap, hv, hc⟩ := h.form
  cases hv
  exact ⟨bv_length xs, hc⟩

/-- nil, cut from its first place on. -/
theorem cut_nil (P : Program) (t e : TypeId) (ht : P.underlying t = some (.slice e)) (hsz : (P.info? e).map (·.size) = some 1) (k : IntKind) :
    ∀ w, (Instr.slice t (.slice none 0 0) (some (.int k (0 : Nat))) none none).run P w = .ok (.slice none (0 - 0) (0 - 0)) w := by
  intro w
  have hb := run_sliceBound (P := P) (w := w) k (0 : Int) 0 .sliceB (by omega) (by omega)
  cases hi : P.info? e with
  | none => simp [hi] at hsz
  | some i => simp [Instr.slice, run_underlying ht, Instr.sliceBounds, hb, sizeOf, typeInfo, hi]

/-- A new empty slice. -/
theorem own_empty (w : World) (e : TypeId) : OwnAt (w.alloc (.cells #[] e)) e (.slice (some ⟨w.heap.size, 0, none⟩) 0 0) (bv []) :=
  .inr ⟨w.heap.size, 0, 0, #[], rfl, heap_alloc_new w _, Nat.le_refl _, Nat.le_refl _, Nat.zero_le _, rfl⟩

theorem own_cell {w : World} {e : TypeId} {g off n c : Nat} {xs : List UInt8} (h : OwnAt w e (.slice (some ⟨g, off, none⟩) n c) (bv xs)) (k : Nat) (hk : k < xs.length) :
    ∃ y : UInt8, w.cell? ⟨g, off + k, none⟩ = some (.int .u8 y.toNat) ∧ w.frozen? ⟨g, off + k, none⟩ = false := by
  obtain ⟨g', off', cap, e, hc, hz⟩ := h.cells k (.int .u8 xs[k].toNat) ((bv_get _ _ _).2 ⟨xs[k], by simp, rfl⟩)
  simp only [Value.slice.injEq, Option.some.injEq, Addr.mk.injEq, and_true] at e
  obtain ⟨⟨rfl, rfl⟩, -⟩ := e
  exact ⟨xs[k], hc, hz⟩

theorem byte_next (y : UInt8) : ((y.toNat : Int) + 1) % 256 = ((y + 1).toNat : Int) := by
  rw [UInt8.toNat_add]
  simp

/-- One byte is stored. -/
theorem own_set {w : World} {e : TypeId} {g off n c : Nat} {xs : List UInt8} (h : OwnAt w e (.slice (some ⟨g, off, none⟩) n c) (bv xs)) (j : Nat) (hj : j < xs.length) (y : UInt8) :
    OwnAt (w.setCell ⟨g, off + j, none⟩ (.int .u8 y.toNat)) e (.slice (some ⟨g, off, none⟩) n c) (bv (xs.set j y)) := by
  rcases h with ⟨h, _⟩ | ⟨g', off', cap, cur, h, hg, h1, h2, h3, h4⟩
  · cases h
  · cases h
    rw [bv_length] at h2 h4 ⊢
    refine .inr ⟨g, off, c, cur.setIfInBounds (off + j) (.int .u8 y.toNat), by rw [bv_length, List.length_set], ?_, ?_, by rw [bv_length, List.length_set]; exact h2, h3, ?_⟩
    · rw [setCell_eq_setRow w g _ cur e _ _ hg]
      exact setRow_heap w g cur _ e _ hg
    · simpa using h1
    · rw [bv_length, List.length_set, Array.toList_setIfInBounds]
      have hset : bv (xs.set j y) = (bv xs).set j (.int .u8 y.toNat) := by simp [bv, List.map_set]
      rw [hset, ← h4]
      apply List.ext_getElem?
      intro k
      simp only [List.getElem?_take, List.getElem?_drop, List.getElem?_set, List.length_take, List.length_drop, Array.length_toList]
      by_cases hk : k < xs.length
      · rw [if_pos hk]
        by_cases hkj : j = k
        · subst hkj
          rw [if_pos rfl, if_pos rfl, if_pos (by omega), if_pos (by omega)]
        · rw [if_neg (by omega), if_neg hkj, if_pos hk]
      · rw [if_neg hk, if_neg (by omega), if_neg hk]

end Go.Proofs.Ytkipeifkfgbkeaa
