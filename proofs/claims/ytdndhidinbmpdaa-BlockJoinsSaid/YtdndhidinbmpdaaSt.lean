/- A value of several cells is stored over a whole block: a law at the operation. -/
import Derived.Test.YtdndhidinbmpdaaB1
import Derived.Deep.Upon
import Derived.Laws.CopyOwn
namespace Go.Proofs.Ytdndhidinbmpdaa
open Go.RowKit
set_option linter.unusedVariables false
set_option maxRecDepth 100000
set_option maxHeartbeats 4000000

/-- A value of several cells is stored over a whole block. -/
theorem wp_storeB {P : Program} {op : Oper} {a : Act} {w : World} {K : Act → World → Prop} {Q : Exit → Act → World → Prop} (ty : TypeId) (x y : Operand) (ho : op.op = .store ty x y)
    (b : Nat) (cs cells : Array Value) (t : TypeId) (hx : a.eval x = .pointer (some ⟨b, 0, none⟩)) (hy : a.eval y = .agg cells) (hh : w.heap[b]? = some (.cells cs t (0, 0))) (hsz : cs.size = cells.size) (hi : (P.info? ty).map (·.size) = some cells.size) (h1 : cells.all (·.oneCell') = true)
    (h : ∀ w', Hid (w'.heap[b]? = some (.cells cells t (0, 0))) → Hid (Fr (fun k => k = b) w w') → K (a.put op.dst undef) w') : op.wp P a w K Q := by
  have hst := run_storeCells_at (P := P) b 0 t cells.toList 0 cs w hh (by simp; omega) (fun v hv => (Array.all_eq_true_iff_forall_mem.1 h1) v (by simpa using hv))
  have hrow : (cs.toList.take (0 + 0) ++ cells.toList ++ cs.toList.drop (0 + 0 + cells.toList.length)).toArray = cells := by
    rw [List.drop_of_length_le (by simp; omega)]
    simp
  rw [hrow] at hst
  have hrun : (storeVar ty ⟨b, 0, none⟩ (.agg cells)).run P w = .ok () (w.setRow b cells) := by
    cases hq : P.info? ty with
    | none => simp [hq] at hi
    | some i =>
      have hs : cells.size = i.size := by simp [hq] at hi; omega
      simp [storeVar, sizeOf, typeInfo, hq, Value.cells, hs, hst]
  unfold Oper.wp execOp
  simp only [ho, hx, hy, Instr.storeAt, Instr.sureAddr, Sem.run_bind, Sem.run_pure, Result.andThen_ok, hrun]
  have hfr : Fr (fun k => k = b) w (w.setRow b cells) := Fr.setRow (S := fun k => k = b) (Fr.refl _ _) b (fun _ => rfl) _
  exact h _ (setRow_heap w b cs _ t _ hh) hfr
theorem wpList_storeB {P : Program} {ops : Array Oper} {rest : List Oper} {op : Oper} {a : Act} {w : World} {Q : Exit → Act → World → Prop} (hgd : op.guard = none) (ty : TypeId) (x y : Operand) (ho : op.op = .store ty x y)
    (b : Nat) (cs cells : Array Value) (t : TypeId) (hx : a.eval x = .pointer (some ⟨b, 0, none⟩)) (hy : a.eval y = .agg cells) (hh : w.heap[b]? = some (.cells cs t (0, 0))) (hsz : cs.size = cells.size) (hi : (P.info? ty).map (·.size) = some cells.size) (h1 : cells.all (·.oneCell') = true)
    (h : ∀ w', Hid (w'.heap[b]? = some (.cells cells t (0, 0))) → Hid (Fr (fun k => k = b) w w') → wpList P ops Q rest (a.put op.dst undef) w') : wpList P ops Q (op :: rest) a w :=
  wpList_plain hgd fun _ hK => wp_storeB ty x y ho b cs cells t hx hy hh hsz hi h1 (fun w' h2 h3 => hK _ _ (h w' h2 h3))
theorem stepR_storeB {P : Program} {ops : Array Oper} {op : Oper} {a : Act} {w : World} {K : Act → World → Prop} {Q : Exit → Act → World → Prop} {E : Prop} (hgd : op.guard = none) (hdst : op.dst = none) (ty : TypeId) (x y : Operand) (ho : op.op = .store ty x y)
    (b : Nat) (cs cells : Array Value) (t : TypeId) (hx : a.eval x = .pointer (some ⟨b, 0, none⟩)) (hy : a.eval y = .agg cells) (hh : w.heap[b]? = some (.cells cs t (0, 0))) (hsz : cs.size = cells.size) (hi : (P.info? ty).map (·.size) = some cells.size) (h1 : cells.all (·.oneCell') = true)
    (h : ∀ w', Hid (w'.heap[b]? = some (.cells cells t (0, 0))) → Hid (Fr (fun k => k = b) w w') → K (a.put none undef) w') : if Region.wanted op (yielded ops a.tmps) = true then Oper.wp P op a w K Q else E := by
  have hw : Region.wanted op (yielded ops a.tmps) = true := by simp [Region.wanted, hgd]
  rw [if_pos hw]
  rw [← hdst] at h
  exact wp_storeB ty x y ho b cs cells t hx hy hh hsz hi h1 h

end Go.Proofs.Ytdndhidinbmpdaa
