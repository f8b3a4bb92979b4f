/- errors.As: an error's number, one place deep and two. -/
import Derived.Test.YtfehmlopndklcaaDoorScf
namespace Go.Proofs.YtfehmlopndklcaaDoor
open Go.RowKit Go.Extern.Stop Go.Stop Go.Extern
set_option maxRecDepth 100000
set_option maxHeartbeats 4000000
set_option linter.unusedVariables false

theorem as_num2 (q p n : Int) (t : Nat) (cur : Array Value) (hc : cur.size = 1) (w : World) (hg : EtAt w) (ht : w.heap[t]? = some (.cells cur 25 (0, 0))) :
    Calls Tryd.prog 26 #[.iface 61 (.agg #[.int .i64 q, .iface 61 (.agg #[.int .i64 p, .iface 25 (.int .i64 n)])]), .iface 74 (.pointer (some ⟨t, 0, none⟩))] w fun e w' => e = .returned (.bool true) ∧ Fr (fun k => k = t) w w' ∧ w'.heap[t]? = some (.cells #[.int .i64 n] 25 (0, 0)) := by
  have h40 := @run_callFunc_extern Tryd.prog 40 _ (fun args => ReflectliteValue.unpack (args.getD 0 (.tuple #[]))) Tryd.func40 (by kernel_rfl) (by kernel_rfl) (by kernel_rfl) (by kernel_rfl)
  have h41 := @run_callFunc_extern Tryd.prog 41 _ (ReflectliteValue.methodAny (ReflectliteValue.valueError "reflectlite.Value.Type" 0) (fun t _ _ _ => ReflectliteType.toType t)) Tryd.func41 (by kernel_rfl) (by kernel_rfl) (by kernel_rfl) (by kernel_rfl)
  have h42 := @run_callFunc_extern Tryd.prog 42 _ (ReflectliteValue.method (ReflectliteValue.valueError "reflectlite.Value.IsNil" 0) ReflectliteValue.isNil) Tryd.func42 (by kernel_rfl) (by kernel_rfl) (by kernel_rfl) (by kernel_rfl)
  have h72 := @run_callFunc_extern Tryd.prog 72 _ (ReflectliteType.abiMethod fun t => do pure (.int .u8 (← Rtype.kind t))) Tryd.func72 (by kernel_rfl) (by kernel_rfl) (by kernel_rfl) (by kernel_rfl)
  have h102 := @run_callFunc_extern Tryd.prog 102 _ (ReflectliteType.method ReflectliteType.elem) Tryd.func102 (by kernel_rfl) (by kernel_rfl) (by kernel_rfl) (by kernel_rfl)
  have h103 := @run_callFunc_extern Tryd.prog 103 _ (ReflectliteType.relation "Implements" ReflectliteType.implements_) Tryd.func103 (by kernel_rfl) (by kernel_rfl) (by kernel_rfl) (by kernel_rfl)
  have h48 := @run_callFunc_extern Tryd.prog 48 _ (ReflectliteType.typeOf) Tryd.func48 (by kernel_rfl) (by kernel_rfl) (by kernel_rfl) (by kernel_rfl)
  have h100 := @run_callFunc_extern Tryd.prog 100 _ (ReflectliteType.relation "AssignableTo" ReflectliteType.assignableTo) Tryd.func100 (by kernel_rfl) (by kernel_rfl) (by kernel_rfl) (by kernel_rfl)
  have h49 := @run_callFunc_extern Tryd.prog 49 _ (ReflectliteValue.method (ReflectliteValue.valueError "reflectlite.Value.Elem" 0) ReflectliteValue.elem) Tryd.func49 (by kernel_rfl) (by kernel_rfl) (by kernel_rfl) (by kernel_rfl)
  have h50 := @run_callFunc_extern Tryd.prog 50 _ (ReflectliteValue.set) Tryd.func50 (by kernel_rfl) (by kernel_rfl) (by kernel_rfl) (by kernel_rfl)
  have tO := typeOf61
  have tO2 := typeOf25
  have mA := methodAssignableTo
  have a61 := assignable61
  have a25 := assignable25
  have aN := assignableNot
  have v61 := valueOf61
  have v25 := valueOf25
  have f6 := valueOf74
  have f7 := type74
  have mK := methodKind
  have mE := methodElem
  have mI := methodImplements
  have nA := noAs61
  have hU := hasU61
  have mU := methodUnwrap
  have kp := kind74
  have ke := kind25
  have ee := elem74
  have ii := implements25
  have htl := lt_of_heap ht
  have hlt : 0 < w.heap.size := by
    rcases Nat.eq_zero_or_pos w.heap.size with h0 | h
    · simp [EtAt, World.cell?, h0] at hg
    · exact h
  obtain ⟨w1, hw1⟩ : ∃ w1, w.alloc (.cells #[.pointer (some ⟨t, 0, none⟩)] 74) = w1 := ⟨_, rfl⟩
  obtain ⟨w2, hw2⟩ : ∃ w2, w1.alloc (.cells #[.pointer (some ⟨5, 74, none⟩), .pointer (some ⟨w.heap.size, 0, none⟩), .int .u64 150] 99) = w2 := ⟨_, rfl⟩
  obtain ⟨w3, hw3⟩ : ∃ w3, w2.alloc (.cells #[.pointer (some ⟨5, 74, none⟩), .pointer (some ⟨w.heap.size, 0, none⟩), .int .u64 150] 99) = w3 := ⟨_, rfl⟩
  obtain ⟨wU0, hwU0⟩ : ∃ wU0, w3.alloc (.cells #[.int .i64 q, .iface 61 (.agg #[.int .i64 p, .iface 25 (.int .i64 n)])] 61) = wU0 := ⟨_, rfl⟩
  obtain ⟨wU1, hwU1⟩ : ∃ wU1, wU0.alloc (.cells #[.int .i64 p, .iface 25 (.int .i64 n)] 61) = wU1 := ⟨_, rfl⟩
  obtain ⟨w4, hw4⟩ : ∃ w4, wU1.alloc (.cells #[.int .i64 n] 25) = w4 := ⟨_, rfl⟩
  have s1 : w1.heap.size = w.heap.size + 1 := by rw [← hw1]; simp
  have s2 : w2.heap.size = w.heap.size + 2 := by rw [← hw2]; simp [s1]
  have s3 : w3.heap.size = w.heap.size + 3 := by rw [← hw3]; simp [s2]
  have b1 : w1.heap[w.heap.size]? = some (.cells #[.pointer (some ⟨t, 0, none⟩)] 74 (0, 0)) := by rw [← hw1]; exact heap_alloc_new w _
  have b2 : w2.heap[w.heap.size]? = some (.cells #[.pointer (some ⟨t, 0, none⟩)] 74 (0, 0)) := by rw [← hw2, Below.heap_alloc _ _ _ (lt_of_heap b1)]; exact b1
  have b3 : w3.heap[w.heap.size]? = some (.cells #[.pointer (some ⟨t, 0, none⟩)] 74 (0, 0)) := by rw [← hw3, Below.heap_alloc _ _ _ (lt_of_heap b2)]; exact b2
  have swU0 : wU0.heap.size = w.heap.size + 4 := by rw [← hwU0]; simp [s3]
  have bwU0 : wU0.heap[w.heap.size]? = some (.cells #[.pointer (some ⟨t, 0, none⟩)] 74 (0, 0)) := by rw [← hwU0, Below.heap_alloc _ _ _ (lt_of_heap b3)]; exact b3
  have swU1 : wU1.heap.size = w.heap.size + 5 := by rw [← hwU1]; simp [swU0]
  have bwU1 : wU1.heap[w.heap.size]? = some (.cells #[.pointer (some ⟨t, 0, none⟩)] 74 (0, 0)) := by rw [← hwU1, Below.heap_alloc _ _ _ (lt_of_heap bwU0)]; exact bwU0
  have n8 := isNil74 ⟨w.heap.size, 0, none⟩ ⟨t, 0, none⟩ w2 (cell_of_heap b2 rfl)
  have el := elemV74 ⟨w.heap.size, 0, none⟩ ⟨t, 0, none⟩ wU1 (cell_of_heap bwU1 rfl)
  have f4 : Fr (fun _ => False) w w4 := by rw [← hw4, ← hwU1, ← hwU0, ← hw3, ← hw2, ← hw1]; exact ((((((Fr.refl _ _).alloc _).alloc _).alloc _).alloc _).alloc _).alloc _
  have t4 : w4.heap[t]? = some (.cells cur 25 (0, 0)) := (f4.block _ htl id).trans ht
  have b4 : w4.heap[wU1.heap.size]? = some (.cells #[.int .i64 n] 25 (0, 0)) := by rw [← hw4]; exact heap_alloc_new wU1 _
  rw [swU1] at b4
  have st := set25 t (w.heap.size + 5) n cur hc w4 b4 t4
  have hg2 : w2.cell? ⟨0, 0, none⟩ = some (.iface 113 (.agg #[.pointer (some ⟨5, 42, none⟩)])) := by
    rw [← hw2, ← hw1, World.cell?_alloc_lt _ _ ⟨0, 0, none⟩ (by simp), World.cell?_alloc_lt _ _ ⟨0, 0, none⟩ hlt]; exact hg
  have fin : Fr (fun k => k = t) w (w4.setRow t #[.int .i64 n]) := Fr.setRow (S := fun k => k = t) (f4.mono (fun _ _ e => e.elim)) t (fun _ => rfl) _
  have fin2 : (w4.setRow t #[.int .i64 n]).heap[t]? = some (.cells #[.int .i64 n] 25 (0, 0)) := setRow_at t4 _
  clear f4 t4 b4 b1 b2 b3 bwU0 bwU1 hg ht htl hlt
  go_enter Tryd.func26, Tryd.ntmps26
  subst hw1 hw2 hw3 hwU0 hwU1 hw4
  go_wp2
  refine wp_loop_rounds 3 ?_
  rw [rounds_succ]
  go_wp2
  rw [rounds_succ]
  go_wp2
  rw [rounds_succ]
  go_wp2
  go_ret
  exact ⟨rfl, fin, fin2⟩
end Go.Proofs.YtfehmlopndklcaaDoor
