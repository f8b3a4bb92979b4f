/- Bytes that a call gathers in memory of its own. -/
import Derived.Test.YtfehmlopndklcaaDoorRows
import Derived.Test.YtfehmlopndklcaaDoorA3
import Derived.WalkKit
import Derived.Laws.BitsLemmas
import Derived.Laws.MakeOwn
import Derived.Deep.LoopGhost
namespace Go.Proofs.YtfehmlopndklcaaDoor
open Go.RowKit
set_option linter.unusedVariables false

theorem SrcAt.oldF {w0 w : World} {sp : Option Addr} {X : List UInt8} (hs : SrcAt w0 sp X) (hf : Fr (fun _ => False) w0 w) : SrcAt w sp X := hs.fr hf (fun _ _ _ => id)
theorem make_room (n : Nat) (h : n ≤ 140737488351232) : ∀ w : World, (Instr.makeSlice 22 (.int .i64 0) (.int .i64 (n : Int))).run Tryd.prog w = .ok (.slice (some ⟨w.heap.size, 0, none⟩) 0 n) (w.alloc (.cells (bv (List.replicate n 0)).toArray 5)) := by
  intro w
  have hr := run_make (P := Tryd.prog) w 22 5 ((Tryd.prog.info? 5).get (by kernel_rfl)) (.int .u8 0) Tryd.underlying22 (by kernel_rfl) (by kernel_rfl) .i64 .i64 0 n (by omega) (by omega) (by rw [show (((Tryd.prog.info? 5).get (by kernel_rfl)).bytes) = 1 from by kernel_rfl]; omega) (by omega)
  rw [show (((Tryd.prog.info? 5).get (by kernel_rfl)).size) = 1 from by kernel_rfl] at hr
  simpa [Value.cells, made_bytes] using hr

/-- Since w0 nothing that was there has changed; v is a slice of one's own, made since, that holds xs. -/
def Gath (w0 w : World) (v : Value) (xs : List UInt8) : Prop := OwnAt w 5 v (bv xs) ∧ (∀ k, v.ownBlock = some k → w0.heap.size ≤ k) ∧ Fr (fun _ => False) w0 w

theorem Gath.start {w0 w : World} (hf : Fr (fun _ => False) w0 w) : Gath w0 (w.alloc (.cells #[] 5)) (.slice (some ⟨w.heap.size, 0, none⟩) 0 0) [] :=
  ⟨own_empty w 5, fun k hk => by simp [Value.ownBlock] at hk; have := hf.size; omega, hf.alloc _⟩
theorem Gath.ofNil {w0 w : World} (hf : Fr (fun _ => False) w0 w) : Gath w0 w (.slice none 0 0) [] := ⟨OwnAt.nil _ _, fun k hk => by simp [Value.ownBlock] at hk, hf⟩
theorem Gath.room {w0 w : World} (n : Nat) (hn : n ≤ 140737488351232) (hf : Fr (fun _ => False) w0 w) : Gath w0 (w.alloc (.cells (bv (List.replicate n 0)).toArray 5)) (.slice (some ⟨w.heap.size, 0, none⟩) 0 n) [] :=
  ⟨.inr ⟨w.heap.size, 0, n, _, rfl, heap_alloc_new w _, by simp [bv_length], Nat.zero_le _, by unfold maxLen; omega, rfl⟩, fun k hk => by simp [Value.ownBlock] at hk; have := hf.size; omega, hf.alloc _⟩

theorem wpList_gather {P : Program} {w0 w : World} {ops : Array Oper} {rest : List Oper} {o : Oper} {a : Act} {Q : Exit → Act → World → Prop} (hgd : o.guard = none) (s x : Operand) (t tx : TypeId)
    (ho : o.op = .call { callee := .builtin .append, args := #[s, x], argTypes := #[t, tx] })
    (i : TypeInfo) (ht : P.underlying t = some (.slice 5)) (htx : P.underlying tx = some (.slice 5)) (hi : P.info? 5 = some i) (hz : i.zero = some (.int .u8 0)) (hsize : i.size = 1) (hby : i.bytes = 1)
    (v : Value) (xs : List UInt8) (hsv : a.eval s = v) (hown : Gath w0 w v xs) (sp : Option Addr) (m c : Nat) (hxv : a.eval x = .slice sp m c) (X : List UInt8) (hX : SrcAt w sp X) (hm : X.length = m) (hbytes : xs.length + m ≤ 225179981368371)
    (h : ∀ a' n' c' w', Hid (n' = xs.length + m) → Gath w0 w' (.slice a' n' c') (xs ++ X) → Hid (Fr (fun k => v.ownBlock = some k) w w') → wpList P ops Q rest (a.put o.dst (.slice a' n' c')) w') : wpList P ops Q (o :: rest) a w := by
  refine wpList_append_bytes hgd s x t tx ho 5 i ht htx hi hz hsize hby v xs hsv hown.1 sp m c hxv X hX hm hbytes ?_
  intro a' n' c' w' hn hO hf hk
  have h1 : Fr (fun k => w0.heap.size ≤ k) w0 w' := (hown.2.2.mono (fun _ _ e => e.elim)).trans (hf.out.mono (fun k _ e => hown.2.1 k e))
  refine h a' n' c' w' hn ⟨hO, fun k e => ?_, h1.mono (fun k hk e => by omega)⟩ hf
  rcases hk.out with h1 | ⟨k', h1, h2⟩
  · exact hown.2.1 k (h1 ▸ e)
  · rw [h1] at e
    cases e
    have := hown.2.2.size
    omega

theorem info5 : ∃ i, Tryd.prog.info? 5 = some i ∧ i.zero = some (.int .u8 0) ∧ i.size = 1 ∧ i.bytes = 1 :=
  ⟨(Tryd.prog.info? 5).get (by kernel_rfl), by kernel_rfl, by kernel_rfl, by kernel_rfl, by kernel_rfl⟩


theorem Gath.fr {w0 w w' : World} {v : Value} {xs : List UInt8} (h : Gath w0 w v xs) (hf : Fr (fun _ => False) w w') : Gath w0 w' v xs :=
  ⟨h.1.fr hf (fun _ _ => id), h.2.1, h.2.2.trans hf⟩
theorem Gath.old {w w0 w' : World} {v : Value} {xs : List UInt8} (h : Gath w0 w' v xs) (hf : Fr (fun _ => False) w w0) : Gath w w' v xs :=
  ⟨h.1, fun k hk => Nat.le_trans hf.size (h.2.1 k hk), hf.trans h.2.2⟩
theorem last_at {w : World} {n : Nat} (o : Obj) (h : w.heap.size = n) : (w.alloc o).heap[n]? = some o := by
  subst h; exact heap_alloc_new w o
theorem past_at {w : World} {n : Nat} (o : Obj) {x : Obj} (h : w.heap[n]? = some x) : (w.alloc o).heap[n]? = some x := by
  rw [Below.heap_alloc _ _ _ (lt_of_heap h)]; exact h
/-- One byte in a block of its own. -/
theorem src_one (w : World) (c : UInt8) : SrcAt (w.alloc (.cells #[.int .u8 c.toNat] 5)) (some ⟨w.heap.size, 0, none⟩) [c] := by
  intro j d hj
  cases j with
  | zero => simp at hj; subst hj; exact ⟨_, rfl, by rw [add_none]; exact cell_of_heap (heap_alloc_new w _) rfl⟩
  | succ j => simp at hj
theorem Gath.new {w0 w : World} {a : Option Addr} {n c : Nat} {xs : List UInt8} (h : Gath w0 w (.slice a n c) xs) : ∀ ad, a = some ad → w0.heap.size ≤ ad.block := fun ad e => h.2.1 ad.block (by rw [e]; rfl)
theorem Gath.str {w0 w : World} {v : Value} {ys : List UInt8} (h : Gath w0 w v ys) : (convert 22 9 v).run Tryd.prog w = .ok (.string ⟨ys.toArray⟩) w := by
  obtain ⟨a, cap, e, _⟩ := h.1.form
  subst e
  have := h.1
  rw [bv_length] at this ⊢
  exact string_of 22 9 5 Tryd.underlying22 Tryd.underlying9 Tryd.underlying5 (own_src this) _ _ rfl
theorem SrcAt.str {w : World} {a : Option Addr} {X : List UInt8} {len : Nat} (h : SrcAt w a X) (hl : X.length = len) (cap : Nat) : (convert 22 9 (.slice a len cap)).run Tryd.prog w = .ok (.string ⟨X.toArray⟩) w :=
  string_of 22 9 5 Tryd.underlying22 Tryd.underlying9 Tryd.underlying5 h _ _ hl

end Go.Proofs.YtfehmlopndklcaaDoor
