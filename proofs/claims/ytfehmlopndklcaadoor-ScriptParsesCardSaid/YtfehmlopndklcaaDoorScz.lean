/- Numbers gathered: append of one int. -/
import Derived.Test.YtfehmlopndklcaaDoorIv
import Derived.Test.YtfehmlopndklcaaDoorScw
namespace Go.Proofs.YtfehmlopndklcaaDoor
open Go.RowKit
set_option linter.unusedVariables false
set_option maxRecDepth 100000
set_option maxHeartbeats 4000000

theorem wpList_addI4 {w : World} {ops : Array Oper} {rest : List Oper} {o : Oper} {a : Act} {Q : Exit → Act → World → Prop} (hgd : o.guard = none) (s x : Operand) (ho : o.op = .call { callee := .builtin .append, args := #[s, x], argTypes := #[50, 50] })
    (v : Value) (M : List Int) (d : Int) (hsv : a.eval s = v) (hM : OwnAt w 3 v (iv M)) (hxv : a.eval x = .slice (some ⟨w.heap.size, 0, none⟩) 1 1) (hfew : M.length ≤ 1000)
    (h : ∀ a' n' c' w', Hid (n' = M.length + 1) → Hid (OwnAt w' 3 (.slice a' n' c') (iv (M ++ [d]))) → Hid (Fr (fun k => v.ownBlock = some k) w w') → Hid ((Value.slice a' n' c').ownBlock = v.ownBlock ∨ ∃ k, (Value.slice a' n' c').ownBlock = some k ∧ w.heap.size ≤ k) → wpList Tryd.prog ops Q rest (a.put o.dst (.slice a' n' c')) w') : wpList Tryd.prog ops Q (o :: rest) a (w.alloc (.cells #[.int .i64 d] 3)) := by
  obtain ⟨i, I1, I2, I3, I4⟩ := infoI
  have hal : Fr (fun _ => False) w (w.alloc (.cells #[.int .i64 d] 3)) := (Fr.refl _ _).alloc _
  have hlen : (iv M).length = M.length := iv_length M
  refine wpList_append_at hgd s x 50 50 ho 3 i (.int .i64 0) Tryd.underlying50 I1 I2 I3 rfl v _ hsv (hM.fr hal (fun _ _ => id)) _ hxv 1 [.int .i64 d] (Src.ofSlice _ Tryd.underlying50 _ 1 1 [.int .i64 d] rfl (fun j u hj => ?_) (by simp [Value.oneCell'])) (by rw [I4, hlen]; omega) (by rw [hlen]; unfold maxLen; omega) ?_
  · cases j with
    | zero => simp at hj; subst hj; rw [add_none]; exact cell_of_heap (heap_alloc_new w _) rfl
    | succ j => simp at hj
  · intro a' c' w' hO hF hk
    refine h a' _ c' w' (by show _ = _; rw [hlen]) (by rw [iv_append]; exact hO) ((hal.mono (fun _ _ e => e.elim)).trans hF.out) ?_
    rcases hk.out with e | ⟨k, e, hk2⟩
    · exact .inl e
    · exact .inr ⟨k, e, by simp at hk2; omega⟩
/-- Where the document's line stands. -/
structure ML (s : ByteArray) (w wr : World) (k a : Nat) (x : Dr) (ns : List Int) (dn : Bool) (v nv : Value) : Prop where
  r : wr.heap[w.heap.size]? = some (.cells #[.int .i64 0, .int .i64 0, .int .i64 0, .int .i64 0, .slice none 0 0] 24 (0, 0))
  e : wr.heap[w.heap.size + 1]? = some (.cells #[.int .i64 x.what, .int .i64 0, .int .i64 0, .int .i64 0, v] 24 (0, 0))
  dat : BAt wr v x.dat
  own : OwnAt wr 3 nv (iv ns)
  new : ∀ j, nv.ownBlock = some j → w.heap.size + 2 ≤ j
  ds : DS x ns dn
  line : lineO (tx s) = lineGo ((cuts 32 (tx s)).drop k) (cutAt (cuts 32 (tx s)) k) x
  pos : (a < s.size ∧ CutSt 32 (tx s) k (a + 1)) ∨ (a = s.size ∧ (cuts 32 (tx s)).length = k)
  fr : Fr (fun _ => False) w wr
theorem ML.keep {s : ByteArray} {w wr W : World} {k a : Nat} {x : Dr} {ns : List Int} {dn : Bool} {v nv : Value} (h : ML s w wr k a x ns dn v nv) (hf : Fr (fun _ => False) wr W) : ML s w W k a x ns dn v nv :=
  ⟨(hf.block _ (lt_of_heap h.r) id).trans h.r, (hf.block _ (lt_of_heap h.e) id).trans h.e, h.dat.old hf, h.own.fr hf (fun _ _ => id), h.new, h.ds, h.line, h.pos, h.fr.trans hf⟩
/-- A number more. -/
theorem ML.num {s : ByteArray} {w wr W : World} {k a a' : Nat} {x : Dr} {ns : List Int} {v nv nv' : Value} {n : Nat} {p : List UInt8} (h : ML s w wr k a x ns false v nv) (hp : (cuts 32 (tx s))[k]? = some p) (h61 : ¬ p.head? = some 61) (hn : numO p = some n) (hl : ns.length < 3)
    (hf : Fr (fun j => nv.ownBlock = some j) wr W) (ho : OwnAt W 3 nv' (iv (ns ++ [(n : Int)]))) (hk : nv'.ownBlock = nv.ownBlock ∨ ∃ j, nv'.ownBlock = some j ∧ wr.heap.size ≤ j)
    (hpos : (a' < s.size ∧ CutSt 32 (tx s) (k + 1) (a' + 1)) ∨ (a' = s.size ∧ (cuts 32 (tx s)).length = k + 1)) : ML s w W (k + 1) a' (putN x (n : Int)) (ns ++ [(n : Int)]) false v nv' := by
  obtain ⟨h1, h2, h3, h4⟩ := h.ds.num hl (n : Int)
  have hlt : w.heap.size + 2 ≤ wr.heap.size := by have := lt_of_heap h.e; omega
  refine ⟨(hf.block _ (lt_of_heap h.r) (fun e => by have := h.new _ e; omega)).trans h.r, ?_, ?_, ho, fun j hj => ?_, h2, ?_, hpos, fr_new h.fr hf (fun j hj e => by have := h.new _ e; omega)⟩
  · rw [h3]; exact (hf.block _ (lt_of_heap h.e) (fun e => by have := h.new _ e; omega)).trans h.e
  · rw [h4]
    refine h.dat.fr hf (fun j cs fr hj e => ?_)
    obtain ⟨cur, hcur⟩ := own_tag h.own j e
    rw [hj] at hcur
    cases hcur
  · rcases hk with e | ⟨j', e, e2⟩
    · exact h.new j (by rw [← e]; exact hj)
    · rw [e] at hj; cases hj; omega
  · rw [h.line, lineGo_step hp, step_num h61 h.ds.pos, hn]
    simp [h1]
/-- Bytes. -/
theorem ML.hex {s : ByteArray} {w wr W : World} {k a a' : Nat} {x : Dr} {ns : List Int} {v nv u : Value} {b : List UInt8} {p : List UInt8} (h : ML s w wr k a x ns false v nv) (hp : (cuts 32 (tx s))[k]? = some p) (h61 : p.head? = some 61) (hb : hexO p.tail = some b)
    (hf : Fr (fun j => j = w.heap.size + 1) wr W) (hu : BAt W u b) (he : W.heap[w.heap.size + 1]? = some (.cells #[.int .i64 x.what, .int .i64 0, .int .i64 0, .int .i64 0, u] 24 (0, 0)))
    (hpos : (a' < s.size ∧ CutSt 32 (tx s) (k + 1) (a' + 1)) ∨ (a' = s.size ∧ (cuts 32 (tx s)).length = k + 1)) : ML s w W (k + 1) a' { x with dat := b, nx := 5 } ns true u nv := by
  obtain ⟨h1, h2⟩ := h.ds.hex b
  refine ⟨(hf.block _ (lt_of_heap h.r) (fun e => by have e' : w.heap.size = w.heap.size + 1 := e; omega)).trans h.r, he, hu, h.own.fr hf (fun j hj e => by have e' : j = w.heap.size + 1 := e; have := h.new j hj; omega), h.new, h2, ?_, hpos, fr_new h.fr hf (fun j hj e => by have e' : j = w.heap.size + 1 := e; omega)⟩
  rw [h.line, lineGo_step hp, step_hex h61 h.ds.pos, hb]
  simp [h1]
theorem ML.bad {s : ByteArray} {w wr : World} {k a : Nat} {x : Dr} {ns : List Int} {dn : Bool} {v nv : Value} {p : List UInt8} (h : ML s w wr k a x ns dn v nv) (hp : (cuts 32 (tx s))[k]? = some p) (hs : stepW x p = none) (hc : CutSt 32 (tx s) k (a + 1)) : lineO (tx s) = .inr (a + 1) := by
  rw [h.line, lineGo_step hp, hs, hc.pos]
/-- The numbers filled up with 0. -/
structure PD (w wr : World) (x : Dr) (ns ms : List Int) (v nv : Value) : Prop where
  r : wr.heap[w.heap.size]? = some (.cells #[.int .i64 0, .int .i64 0, .int .i64 0, .int .i64 0, .slice none 0 0] 24 (0, 0))
  e : wr.heap[w.heap.size + 1]? = some (.cells #[.int .i64 x.what, .int .i64 0, .int .i64 0, .int .i64 0, v] 24 (0, 0))
  dat : BAt wr v x.dat
  own : OwnAt wr 3 nv (iv ms)
  new : ∀ j, nv.ownBlock = some j → w.heap.size + 2 ≤ j
  few : ms.length ≤ 3
  same : ∀ i, ns.getD i 0 = ms.getD i 0
  fr : Fr (fun _ => False) w wr
def sl4 : Value → Nat
  | .slice _ n _ => n
  | _ => 0
theorem cell_lt {w : World} {g o : Nat} {v : Value} (h : w.cell? ⟨g, o, none⟩ = some v) : g < w.heap.size := by
  rcases Nat.lt_or_ge g w.heap.size with h1 | h1
  · exact h1
  · simp [World.cell?, Array.getElem?_eq_none h1] at h
theorem PD.more {w wr W : World} {x : Dr} {ns ms : List Int} {v nv nv' : Value} (h : PD w wr x ns ms v nv) (hl : ms.length < 3) (hf : Fr (fun j => nv.ownBlock = some j) wr W) (ho : OwnAt W 3 nv' (iv (ms ++ [0]))) (hk : nv'.ownBlock = nv.ownBlock ∨ ∃ j, nv'.ownBlock = some j ∧ wr.heap.size ≤ j) :
    PD w W x ns (ms ++ [0]) v nv' := by
  have hlt : w.heap.size + 2 ≤ wr.heap.size := by have := lt_of_heap h.e; omega
  refine ⟨(hf.block _ (lt_of_heap h.r) (fun e => by have := h.new _ e; omega)).trans h.r, (hf.block _ (lt_of_heap h.e) (fun e => by have := h.new _ e; omega)).trans h.e, ?_, ho, fun j hj => ?_, by simp; omega, fun i => ?_, fr_new h.fr hf (fun j hj e => by have := h.new _ e; omega)⟩
  · refine h.dat.fr hf (fun j cs fr hj e => ?_)
    obtain ⟨cur, hcur⟩ := own_tag h.own j e
    rw [hj] at hcur
    cases hcur
  · rcases hk with e | ⟨j', e, e2⟩
    · exact h.new j (by rw [← e]; exact hj)
    · rw [e] at hj; cases hj; omega
  · rw [h.same]
    simp only [List.getD_eq_getElem?_getD]
    by_cases hi : i < ms.length
    · rw [List.getElem?_append_left hi]
    · rw [List.getElem?_eq_none (by omega), List.getElem?_append_right (by omega)]
      cases hj : i - ms.length with
      | zero => rfl
      | succ m => simp
theorem PD.three {w wr : World} {x : Dr} {ns ms : List Int} {v : Value} {mq : Option Addr} {mc : Nat} (h : PD w wr x ns ms v (.slice mq ms.length mc)) (h3 : ms.length = 3) :
    ∃ g off, mq = some ⟨g, off, none⟩ ∧ wr.cell? ⟨g, off, none⟩ = some (.int .i64 (ms.getD 0 0)) ∧ wr.cell? ⟨g, off + 1, none⟩ = some (.int .i64 (ms.getD 1 0)) ∧ wr.cell? ⟨g, off + 2, none⟩ = some (.int .i64 (ms.getD 2 0)) ∧ w.heap.size + 2 ≤ g := by
  match ms, h3 with
  | [u, t, z], _ =>
    obtain ⟨g, off, cap, e, c0, -⟩ := h.own.cells 0 (.int .i64 u) rfl
    obtain ⟨g1, off1, cap1, e1, c1, -⟩ := h.own.cells 1 (.int .i64 t) rfl
    obtain ⟨g2, off2, cap2, e2, c2, -⟩ := h.own.cells 2 (.int .i64 z) rfl
    injection e with ea eb ec
    injection e1 with ea1 eb1 ec1
    injection e2 with ea2 eb2 ec2
    rw [ea] at ea1 ea2
    cases ea1
    cases ea2
    exact ⟨g, off, ea, c0, c1, c2, h.new g (by rw [ea]; rfl)⟩
end Go.Proofs.YtfehmlopndklcaaDoor
