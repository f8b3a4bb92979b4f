/- A wheel: New, made, Now, Len, Left; wheels that nobody made. -/
import Derived.Test.YtoiencoojkahmaaGb
import Derived.Deep.Cut
import Derived.Deep.QuietTactic
namespace Go.Proofs.Ytoiencoojkahmaa
open Go.RowKit Go.Maps
set_option linter.unusedVariables false
set_option maxRecDepth 100000
set_option maxHeartbeats 4000000

theorem qneq_some (bm : Nat) (w : World) : (binOp .neq 85 (.map (some bm)) (.map none)).run Try.prog w = .ok (.bool true) w := by kernel_rfl
theorem qneq_none (w : World) : (binOp .neq 85 (.map none) (.map none)).run Try.prog w = .ok (.bool false) w := by kernel_rfl
theorem qzero_int (w : World) : (zeroValue 3).run Try.prog w = .ok (.int .i64 0) w := by kernel_rfl
theorem qmade_in {g mb : Nat} {sl : List Value} {n : Int} (w : World) (h : WC w g sl mb n) : Calls Try.prog 60 #[.pointer (some ⟨g, 0, none⟩)] w fun e w' => e = .returned (.bool true) ∧ w = w' := by
  have c0 := h.map
  have hne := qneq_some
  clear h
  go_enter Try.func60, Try.ntmps60
  go_wp2_with (fail)
  go_ret
  exact ⟨rfl, rfl⟩
theorem qmade_zero (g : Nat) (w : World) (h : w.cell? ⟨g, 64, none⟩ = some (.map none)) : Calls Try.prog 60 #[.pointer (some ⟨g, 0, none⟩)] w fun e w' => e = .returned (.bool false) ∧ w = w' := by
  have hne := qneq_none
  go_enter Try.func60, Try.ntmps60
  go_wp2_with (fail)
  go_ret
  exact ⟨rfl, rfl⟩
theorem qmade_nil (w : World) : Calls Try.prog 60 #[.pointer none] w fun e w' => e = .returned (.bool false) ∧ w = w' := by
  go_enter Try.func60, Try.ntmps60
  go_wp2_with (fail)
  go_ret
  exact ⟨rfl, rfl⟩
theorem getD_nilS (r : Nat) : (List.replicate 64 nilS).getD r nilS = nilS := by
  rw [List.getD_eq_getElem?_getD, List.getElem?_replicate]
  split <;> rfl
theorem wzero : ∃ zc : Array Value, (∀ w, (zeroValue 88).run Try.prog w = .ok (.agg zc) w) ∧ zc.size = 66 ∧ ∀ b, zc.setIfInBounds 64 (.map (some b)) = wcells (List.replicate 64 nilS) b 0 :=
  ⟨(List.replicate 64 nilS ++ [Value.map none, Value.int .i64 0]).toArray, fun w => by kernel_rfl, by kernel_rfl, fun b => by kernel_rfl⟩
theorem qNew_in (base : Nat) (w : World) (hb : base ≤ w.heap.size) :
    Calls Try.prog 26 #[] w fun e w' => e = .returned (.pointer (some ⟨w.heap.size + 1, 0, none⟩)) ∧ WAt base w' (w.heap.size + 1) w.heap.size (List.replicate 64 nilS) 0 [] ∧ Fr (fun _ => False) w w' ∧ w'.heap.size = w.heap.size + 2 := by
  have hmm := @run_makeMap Try.prog
  obtain ⟨zc, hz, hsz, hset⟩ := wzero
  obtain ⟨ag, hag⟩ : ∃ ag, zc.setIfInBounds 64 (Value.map (some w.heap.size)) = ag := ⟨_, rfl⟩
  have HE : Hid (ag = wcells (List.replicate 64 nilS) w.heap.size 0) := by show _ = _; rw [← hag]; exact hset _
  have H2 : Hid (WAt base ((w.alloc (Obj.map #[] 0)).alloc (Obj.cells ag 88)) (w.heap.size + 1) w.heap.size (List.replicate 64 nilS) 0 []) := by
    refine ⟨⟨⟨?_, by simp⟩, fun r hr => ?_, (map_made w).fr ((Fr.refl (fun _ => False) _).alloc _) id, fun r t hr ht hrt k hk => ?_, by omega, hb, fun r hr k hk => ?_⟩, inv_newT⟩
    · rw [HE.out]
      have := heap_alloc_new (w.alloc (Obj.map #[] 0)) (Obj.cells (wcells (List.replicate 64 nilS) w.heap.size 0) 88)
      simpa using this
    · rw [getD_nilS]; exact OwnAt.nil _ _
    · rw [getD_nilS] at hk; simp [nilS, Value.ownBlock] at hk
    · rw [getD_nilS] at hk; simp [nilS, Value.ownBlock] at hk
  have F2 : Hid (Fr (fun _ => False) w ((w.alloc (Obj.map #[] 0)).alloc (Obj.cells ag 88))) := ((Fr.refl _ _).alloc _).alloc _
  have hlt : ¬ zc.size < 65 := by omega
  clear hset HE hsz
  go_enter Try.func26, Try.ntmps26
  go_wp2_with (fail)
  go_ret
  exact ⟨by simp, H2.out, F2.out, by simp⟩
end Go.Proofs.Ytoiencoojkahmaa
