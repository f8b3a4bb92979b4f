/- errors.As: an error's place, an error's number, whatever the chain. -/
import Derived.Test.YtfehmlopndklcaaDoorSce
namespace Go.Proofs.YtfehmlopndklcaaDoor
open Go.RowKit Go.Extern.Stop Go.Stop Go.Extern
set_option maxRecDepth 100000
set_option maxHeartbeats 4000000
set_option linter.unusedVariables false

theorem rls : ∃ (z : Sem Value) (u : TypeId → Addr → TypeId → Addr → Sem Value) (R : TypeId → Addr → TypeId → Addr → Value → Sem Value), ∀ v x : Value, ReflectliteValue.set #[v, x] = (do
    let (some (dst, a, fl), some (src, b, _)) := (← ReflectliteValue.parts v, ← ReflectliteValue.parts x)
      | z
    if fl / ReflectliteValue.flagAddr % 2 == 0 then u dst a src b else do
      let val ← loadVar src b
      if ← Rtype.directlyAssignable dst src then do
        storeVar dst a val
        pure (.tuple #[])
      else R dst a src b val) := ⟨_, _, _, fun v x => rfl⟩
theorem set61 (ta tb : Nat) (p : Int) (te : TypeId) (ve : Value) (cur : Array Value) (hc : cur.size = 2) (W : World) (hb : W.heap[tb]? = some (.cells #[.int .i64 p, .iface te ve] 61 (0, 0))) (ht : W.heap[ta]? = some (.cells cur 61 (0, 0))) :
    (ReflectliteValue.set #[.agg #[.pointer (some ⟨5, 61, none⟩), .pointer (some ⟨ta, 0, none⟩), .int .u64 409], .agg #[.pointer (some ⟨5, 61, none⟩), .pointer (some ⟨tb, 0, none⟩), .int .u64 153]]).run Tryd.prog W
      = .ok (.tuple #[]) (W.setRow ta #[.int .i64 p, .iface te ve]) := by
  have hl : (loadCells ⟨tb, 0, none⟩ 2).run Tryd.prog W = .ok #[.int .i64 p, .iface te ve] W := by
    refine run_loadCells_list (P := Tryd.prog) W ⟨tb, 0, none⟩ [.int .i64 p, .iface te ve] (fun j v hj => ?_)
    rw [add_none, Nat.zero_add]
    exact cell_of_heap hb (by simpa using hj)
  have hst := run_storeCells_at Tryd.prog ta 0 61 [.int .i64 p, .iface te ve] 0 cur W ht (by simp [hc]) (by simp [Value.oneCell'])
  obtain ⟨z, u, R, hR⟩ := rls
  rw [hR]
  simp only [Sem.run_bind, parts61a, parts61, Result.andThen]
  simp [ReflectliteValue.flagAddr, loadVar, Tryd.isAgg61, Tryd.sizeOf61, hl, Result.andThen, direct61, storeVar, Value.cells, hst]
  rw [List.drop_eq_nil_of_le (by simp [hc])]
theorem set25 (ta tb : Nat) (p : Int) (cur : Array Value) (hc : cur.size = 1) (W : World) (hb : W.heap[tb]? = some (.cells #[.int .i64 p] 25 (0, 0))) (ht : W.heap[ta]? = some (.cells cur 25 (0, 0))) :
    (ReflectliteValue.set #[.agg #[.pointer (some ⟨5, 25, none⟩), .pointer (some ⟨ta, 0, none⟩), .int .u64 386], .agg #[.pointer (some ⟨5, 25, none⟩), .pointer (some ⟨tb, 0, none⟩), .int .u64 130]]).run Tryd.prog W
      = .ok (.tuple #[]) (W.setRow ta #[.int .i64 p]) := by
  have hl : W.cell? ⟨tb, 0, none⟩ = some (.int .i64 p) := cell_of_heap hb rfl
  have hst := run_storeCells_at Tryd.prog ta 0 25 [.int .i64 p] 0 cur W ht (by simp [hc]) (by simp [Value.oneCell'])
  obtain ⟨z, u, R, hR⟩ := rls
  rw [hR]
  simp only [Sem.run_bind, parts25a, parts25, Result.andThen]
  simp [ReflectliteValue.flagAddr, loadVar, isAgg, underlying, Tryd.underlying25, hl, Result.andThen, direct25, storeVar, Value.cells, hst]
  have e : cur.toList.tail = [] := by rw [← List.drop_one]; exact List.drop_eq_nil_of_le (by simp [hc])
  rw [e]
theorem setRow_at {w : World} {g : Nat} {cs : Array Value} {t : TypeId} (h : w.heap[g]? = some (.cells cs t (0, 0))) (ds : Array Value) : (w.setRow g ds).heap[g]? = some (.cells ds t (0, 0)) := by
  have hl := lt_of_heap h
  simp [World.setRow]
  rw [Array.getElem?_eq_getElem hl] at h
  simp at h
  simp [Array.modify, Array.modifyM, hl, h]
/-- The handle of the type 'error' lies where the program lays it. -/
def EtAt (w : World) : Prop := w.cell? ⟨0, 0, none⟩ = some (.iface 113 (.agg #[.pointer (some ⟨5, 42, none⟩)]))
theorem as_place (p : Int) (te : TypeId) (ve : Value) (t : Nat) (cur : Array Value) (hc : cur.size = 2) (w : World) (hg : EtAt w) (ht : w.heap[t]? = some (.cells cur 61 (0, 0))) :
    Calls Tryd.prog 26 #[.iface 61 (.agg #[.int .i64 p, .iface te ve]), .iface 73 (.pointer (some ⟨t, 0, none⟩))] w fun e w' => e = .returned (.bool true) ∧ Fr (fun k => k = t) w w' ∧ w'.heap[t]? = some (.cells #[.int .i64 p, .iface te ve] 61 (0, 0)) := by
  have h40 := @run_callFunc_extern Tryd.prog 40 _ (fun args => ReflectliteValue.unpack (args.getD 0 (.tuple #[]))) Tryd.func40 (by kernel_rfl) (by kernel_rfl) (by kernel_rfl) (by kernel_rfl)
  have h41 := @run_callFunc_extern Tryd.prog 41 _ (ReflectliteValue.methodAny (ReflectliteValue.valueError "reflectlite.Value.Type" 0) (fun t _ _ _ => ReflectliteType.toType t)) Tryd.func41 (by kernel_rfl) (by kernel_rfl) (by kernel_rfl) (by kernel_rfl)
  have h42 := @run_callFunc_extern Tryd.prog 42 _ (ReflectliteValue.method (ReflectliteValue.valueError "reflectlite.Value.IsNil" 0) ReflectliteValue.isNil) Tryd.func42 (by kernel_rfl) (by kernel_rfl) (by kernel_rfl) (by kernel_rfl)
  have h72 := @run_callFunc_extern Tryd.prog 72 _ (ReflectliteType.abiMethod fun t => do pure (.int .u8 (← Rtype.kind t))) Tryd.func72 (by kernel_rfl) (by kernel_rfl) (by kernel_rfl) (by kernel_rfl)
  have h102 := @run_callFunc_extern Tryd.prog 102 _ (ReflectliteType.method ReflectliteType.elem) Tryd.func102 (by kernel_rfl) (by kernel_rfl) (by kernel_rfl) (by kernel_rfl)
  have h103 := @run_callFunc_extern Tryd.prog 103 _ (ReflectliteType.relation "Implements" ReflectliteType.implements_) Tryd.func103 (by kernel_rfl) (by kernel_rfl) (by kernel_rfl) (by kernel_rfl)
  have h48 := @run_callFunc_extern Tryd.prog 48 _ (ReflectliteType.typeOf) Tryd.func48 (by kernel_rfl) (by kernel_rfl) (by kernel_rfl) (by kernel_rfl)
  have h100 := @run_callFunc_extern Tryd.prog 100 _ (ReflectliteType.relation "AssignableTo" ReflectliteType.assignableTo) Tryd.func100 (by kernel_rfl) (by kernel_rfl) (by kernel_rfl) (by kernel_rfl)
  have h49 := @run_callFunc_extern Tryd.prog 49 _ (ReflectliteValue.method (ReflectliteValue.valueError "reflectlite.Value.Elem" 0) ReflectliteValue.elem) Tryd.func49 (by kernel_rfl) (by kernel_rfl) (by kernel_rfl) (by kernel_rfl)
  have h50 := @run_callFunc_extern Tryd.prog 50 _ (ReflectliteValue.set) Tryd.func50 (by kernel_rfl) (by kernel_rfl) (by kernel_rfl) (by kernel_rfl)
  have tO := typeOf61
  have tO2 := typeOf25
  have mA := methodAssignableTo
  have a61 := assignable61
  have a25 := assignable25
  have aN := assignableNot
  have v61 := valueOf61
  have v25 := valueOf25
  have f6 := valueOf73
  have f7 := type73
  have mK := methodKind
  have mE := methodElem
  have mI := methodImplements
  have kp := kind73
  have ke := kind61
  have ee := elem73
  have ii := implements61
  have htl := lt_of_heap ht
  have hlt : 0 < w.heap.size := by
    rcases Nat.eq_zero_or_pos w.heap.size with h0 | h
    · simp [EtAt, World.cell?, h0] at hg
    · exact h
  obtain ⟨w1, hw1⟩ : ∃ w1, w.alloc (.cells #[.pointer (some ⟨t, 0, none⟩)] 73) = w1 := ⟨_, rfl⟩
  obtain ⟨w2, hw2⟩ : ∃ w2, w1.alloc (.cells #[.pointer (some ⟨5, 73, none⟩), .pointer (some ⟨w.heap.size, 0, none⟩), .int .u64 150] 99) = w2 := ⟨_, rfl⟩
  obtain ⟨w3, hw3⟩ : ∃ w3, w2.alloc (.cells #[.pointer (some ⟨5, 73, none⟩), .pointer (some ⟨w.heap.size, 0, none⟩), .int .u64 150] 99) = w3 := ⟨_, rfl⟩
  obtain ⟨w4, hw4⟩ : ∃ w4, w3.alloc (.cells #[.int .i64 p, .iface te ve] 61) = w4 := ⟨_, rfl⟩
  have s1 : w1.heap.size = w.heap.size + 1 := by rw [← hw1]; simp
  have s2 : w2.heap.size = w.heap.size + 2 := by rw [← hw2]; simp [s1]
  have s3 : w3.heap.size = w.heap.size + 3 := by rw [← hw3]; simp [s2]
  have b1 : w1.heap[w.heap.size]? = some (.cells #[.pointer (some ⟨t, 0, none⟩)] 73 (0, 0)) := by rw [← hw1]; exact heap_alloc_new w _
  have b2 : w2.heap[w.heap.size]? = some (.cells #[.pointer (some ⟨t, 0, none⟩)] 73 (0, 0)) := by rw [← hw2, Below.heap_alloc _ _ _ (lt_of_heap b1)]; exact b1
  have b3 : w3.heap[w.heap.size]? = some (.cells #[.pointer (some ⟨t, 0, none⟩)] 73 (0, 0)) := by rw [← hw3, Below.heap_alloc _ _ _ (lt_of_heap b2)]; exact b2
  have n8 := isNil73 ⟨w.heap.size, 0, none⟩ ⟨t, 0, none⟩ w2 (cell_of_heap b2 rfl)
  have el := elemV73 ⟨w.heap.size, 0, none⟩ ⟨t, 0, none⟩ w3 (cell_of_heap b3 rfl)
  have f4 : Fr (fun _ => False) w w4 := by rw [← hw4, ← hw3, ← hw2, ← hw1]; exact ((((Fr.refl _ _).alloc _).alloc _).alloc _).alloc _
  have t4 : w4.heap[t]? = some (.cells cur 61 (0, 0)) := (f4.block _ htl id).trans ht
  have b4 : w4.heap[w3.heap.size]? = some (.cells #[.int .i64 p, .iface te ve] 61 (0, 0)) := by rw [← hw4]; exact heap_alloc_new w3 _
  rw [s3] at b4
  have st := set61 t (w.heap.size + 3) p te ve cur hc w4 b4 t4
  have hg2 : w2.cell? ⟨0, 0, none⟩ = some (.iface 113 (.agg #[.pointer (some ⟨5, 42, none⟩)])) := by
    rw [← hw2, ← hw1, World.cell?_alloc_lt _ _ ⟨0, 0, none⟩ (by simp), World.cell?_alloc_lt _ _ ⟨0, 0, none⟩ hlt]; exact hg
  have fin : Fr (fun k => k = t) w (w4.setRow t #[.int .i64 p, .iface te ve]) := Fr.setRow (S := fun k => k = t) (f4.mono (fun _ _ e => e.elim)) t (fun _ => rfl) _
  have fin2 : (w4.setRow t #[.int .i64 p, .iface te ve]).heap[t]? = some (.cells #[.int .i64 p, .iface te ve] 61 (0, 0)) := setRow_at t4 _
  clear f4 t4 b4 b1 b2 b3 hg ht htl hlt
  go_enter Tryd.func26, Tryd.ntmps26
  subst hw1 hw2 hw3 hw4
  go_wp2
  refine wp_loop_rounds 1 ?_
  rw [rounds_succ]
  go_wp2
  go_ret
  exact ⟨rfl, fin, fin2⟩
end Go.Proofs.YtfehmlopndklcaaDoor
