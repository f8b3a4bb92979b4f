/- Plain facts: append of bytes onto bytes; blocks that are apart. -/
import Derived.Test.YtfehmlopndklcaaDoorA1
import Derived.Laws.BytesString
namespace Go.Proofs.YtfehmlopndklcaaDoor
open Go.RowKit

theorem src_bytes {P : Program} {w : World} {sp : Option Addr} {X : List UInt8} (tx e' : TypeId) (hk : P.underlying tx = some (.slice e')) (h : SrcAt w sp X) (m c : Nat) (hm : X.length = m) : Src P 1 tx (.slice sp m c) m (bv X) w := by
  cases sp with
  | none =>
    have h0 : X = [] := by
      cases X with
      | nil => rfl
      | cons x r => obtain ⟨ad, e, _⟩ := h 0 x rfl; cases e
    subst h0
    subst hm
    exact Src.ofNil w hk c
  | some a =>
    refine Src.ofSlice w hk a m c (bv X) (by rw [bv_length]; omega) (fun j u hj => ?_) (bv_one X)
    obtain ⟨x, hx, rfl⟩ := (bv_get _ _ _).1 hj
    obtain ⟨ad, e, hc⟩ := h j x hx
    cases e
    exact hc

theorem wpList_append_bytes {P : Program} {w : World} {ops : Array Oper} {rest : List Oper} {o : Oper} {a : Act} {Q : Exit → Act → World → Prop} (hgd : o.guard = none) (s x : Operand) (t tx : TypeId)
    (ho : o.op = .call { callee := .builtin .append, args := #[s, x], argTypes := #[t, tx] })
    (e : TypeId) (i : TypeInfo) (ht : P.underlying t = some (.slice e)) (htx : P.underlying tx = some (.slice e)) (hi : P.info? e = some i) (hz : i.zero = some (.int .u8 0)) (hsize : i.size = 1) (hby : i.bytes = 1)
    (v : Value) (xs : List UInt8) (hsv : a.eval s = v) (hown : OwnAt w e v (bv xs)) (sp : Option Addr) (m c : Nat) (hxv : a.eval x = .slice sp m c) (X : List UInt8) (hX : SrcAt w sp X) (hm : X.length = m) (hbytes : xs.length + m ≤ 225179981368371)
    (h : ∀ a' n' c' w', Hid (n' = xs.length + m) → OwnAt w' e (.slice a' n' c') (bv (xs ++ X)) → Hid (Fr (fun k => v.ownBlock = some k) w w') → Hid ((Value.slice a' n' c').ownBlock = v.ownBlock ∨ ∃ k, (Value.slice a' n' c').ownBlock = some k ∧ w.heap.size ≤ k) → wpList P ops Q rest (a.put o.dst (.slice a' n' c')) w') : wpList P ops Q (o :: rest) a w := by
  refine wpList_append_at hgd s x t tx ho e i (.int .u8 0) ht hi hz hsize rfl v (bv xs) hsv hown (.slice sp m c) hxv m (bv X) (src_bytes tx e htx hX m c hm) (by rw [bv_length, hby]; omega) (by rw [bv_length]; unfold maxLen; omega) ?_
  intro a' c' w' h1 h2 h3
  rw [bv_length] at h1 h3 ⊢
  rw [← bv_append] at h1
  exact h a' _ c' w' rfl h1 h2 h3

/-- No block lies in both. -/
def Ap (x y : Option Nat) : Prop := ∀ g, x = some g → y ≠ some g
/-- It lies behind b. -/
def Dis (b : Nat) (x : Option Nat) : Prop := ∀ g, x = some g → b < g
theorem Ap.symm {x y : Option Nat} (h : Ap x y) : Ap y x := fun g e e' => h g e' e
theorem Ap.new {x x' y : Option Nat} {s : Nat} (h : Ap x y) (hx : x' = x ∨ ∃ k, x' = some k ∧ s ≤ k) (hy : ∀ g, y = some g → g < s) : Ap x' y := by
  rcases hx with rfl | ⟨k, rfl, hk⟩
  · exact h
  · intro g e e'; cases e; have := hy _ e'; omega
theorem Dis.new {b : Nat} {x x' : Option Nat} {s : Nat} (h : Dis b x) (hx : x' = x ∨ ∃ k, x' = some k ∧ s ≤ k) (hb : b < s) : Dis b x' := by
  rcases hx with rfl | ⟨k, rfl, hk⟩
  · exact h
  · intro g e; cases e; omega

theorem SrcAt.fr {S : Nat → Prop} {w w' : World} {sp : Option Addr} {X : List UInt8} (h : SrcAt w sp X) (hf : Fr S w w') (hs : ∀ a, sp = some a → 0 < X.length → ¬ S a.block) : SrcAt w' sp X := by
  intro j c hj
  obtain ⟨ad, e, hc⟩ := h j c hj
  have hb : (ad.add j).block = ad.block := by unfold Addr.add; split <;> rfl
  have h0 : 0 < X.length := by have := (List.getElem?_eq_some_iff.1 hj).1; omega
  exact ⟨ad, e, by rw [hf.cell (World.block_lt_of_cell? _ _ hc) (by rw [hb]; exact hs ad e h0)]; exact hc⟩

/-- The string of these bytes. -/
def sv8 (X : List UInt8) : Value := .string ⟨X.toArray⟩

theorem fold_push (X : List UInt8) : ∀ s : ByteArray, (X.map fun c => (c.toNat : Int)).foldl (fun r n => r.push (UInt8.ofNat n.toNat)) s = ⟨s.data ++ X.toArray⟩ := by
  induction X with
  | nil => intro s; simp
  | cons x r ih =>
    intro s
    simp only [List.map_cons, List.foldl_cons, ih]
    congr 1
    apply Array.ext'
    simp [ByteArray.push]

theorem string_of {P : Program} {w : World} {sp : Option Addr} {X : List UInt8} (src dst e : TypeId) (hs : P.underlying src = some (.slice e)) (hd : P.underlying dst = some .string) (he : P.underlying e = some (.int .u8)) (h : SrcAt w sp X) (m c : Nat) (hm : X.length = m) :
    (convert src dst (.slice sp m c)).run P w = .ok (sv8 X) w := by
  rw [run_convert_bytes_string w src dst e sp m c hs he hd]
  cases sp with
  | none =>
    have h0 : X = [] := by
      cases X with
      | nil => rfl
      | cons x r => obtain ⟨ad, e, _⟩ := h 0 x rfl; cases e
    subst h0
    simp [Conv.bytesToString, sv8]
    rfl
  | some a =>
    have hl := run_loadCells_list (P := P) w a (bv X) (fun j u hj => by
      obtain ⟨x, hx, rfl⟩ := (bv_get _ _ _).1 hj
      obtain ⟨ad, e, hc⟩ := h j x hx
      cases e
      exact hc)
    rw [bv_length, hm] at hl
    have e1 : bv X = (X.map fun c => (c.toNat : Int)).map (Value.int .u8) := by simp [bv]
    rw [e1] at hl
    rw [run_bytesToString w a m c _ hl, fold_push]
    simp [sv8]

end Go.Proofs.YtfehmlopndklcaaDoor
