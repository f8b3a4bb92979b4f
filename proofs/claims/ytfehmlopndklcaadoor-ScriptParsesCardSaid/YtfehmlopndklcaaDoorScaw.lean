/- The program computes at all: one event's line. -/
import Derived.Test.YtfehmlopndklcaaDoorSck
import Derived.Test.YtfehmlopndklcaaDoorScwr
import Derived.Test.YtfehmlopndklcaaDoorScwb
import Derived.Test.YtfehmlopndklcaaDoorSct
import Derived.Test.YtfehmlopndklcaaDoorScw
import Derived.Deep.RegionHeldLaw
namespace Go.Proofs.YtfehmlopndklcaaDoor
open Go.RowKit
set_option maxRecDepth 100000
set_option maxHeartbeats 4000000
set_option linter.unusedVariables false

def evA : Value := .agg #[.int .i64 3, .int .i64 1, .int .i64 50, .int .i64 0, .slice none 0 0]
theorem kinds2_in (w : World) : Calls Tryd.prog 29 #[] w fun e w' => e = .returned (.slice (some ⟨w.heap.size, 0, none⟩) 8 8) ∧ w.alloc (.cells #[.string ⟨#[111, 112, 101, 110]⟩, .string ⟨#[98, 121, 116, 101, 115]⟩, .string ⟨#[99, 108, 111, 115, 101]⟩, .string ⟨#[98, 117, 100, 103, 101, 116]⟩, .string ⟨#[116, 105, 99, 107]⟩, .string ⟨#[112, 114, 111, 98, 101]⟩, .string ⟨#[98, 97, 99, 107]⟩, .string ⟨#[115, 116, 111, 112]⟩] 9) = w' :=
  (kinds_in w).mono fun e w' h => ⟨h.1, by rw [← h.2]; rfl⟩
theorem canStand_in (w : World) : Calls Tryd.prog 20 #[.agg #[.int .i64 3, .int .i64 1, .int .i64 50, .int .i64 0, .slice none 0 0]] w fun e w' => e = .returned (.bool true) ∧ Fr (fun _ => False) w w' := by
  have i0 : ∀ w : World, (Instr.index 77 (.agg #[.int .i64 1, .int .i64 50, .int .i64 0]) (.int .i64 0)).run Tryd.prog w = .ok (.int .i64 1) w := fun w => by kernel_rfl
  have i1 : ∀ w : World, (Instr.index 77 (.agg #[.int .i64 1, .int .i64 50, .int .i64 0]) (.int .i64 1)).run Tryd.prog w = .ok (.int .i64 50) w := fun w => by kernel_rfl
  have i2 : ∀ w : World, (Instr.index 77 (.agg #[.int .i64 1, .int .i64 50, .int .i64 0]) (.int .i64 2)).run Tryd.prog w = .ok (.int .i64 0) w := fun w => by kernel_rfl
  go_enter Tryd.func20, Tryd.ntmps20
  go_wp2
  refine wp_loop_rounds 4 ?_
  rw [rounds_succ]
  go_wp2
  rw [rounds_succ]
  go_wp2
  rw [rounds_succ]
  go_wp2
  rw [rounds_succ]
  go_wp2
  go_region_with (go_at_call 29; refine (kinds2_in _).mono ?_; rintro e w' ⟨rfl, rfl⟩)
  all_goals
    go_wp2
    go_ret
    refine ⟨rfl, ?_⟩
    repeat' (first | exact Fr.refl _ _ | refine Fr.alloc ?_ _ | refine Fr.drew ?_)
/-- append of a word. -/
theorem info_word : ∃ i, Tryd.prog.info? 68 = some i ∧ i.zero = some .nilIface ∧ i.size = 1 ∧ i.bytes = 16 := ⟨(Tryd.prog.info? 68).get (by kernel_rfl), by kernel_rfl, by kernel_rfl, by kernel_rfl, by kernel_rfl⟩
theorem wpList_addW4 {w : World} {ops : Array Oper} {rest : List Oper} {o : Oper} {a : Act} {Q : Exit → Act → World → Prop} (hgd : o.guard = none) (s x : Operand) (ho : o.op = .call { callee := .builtin .append, args := #[s, x], argTypes := #[58, 58] })
    (v : Value) (M : List Value) (d : Value) (h1 : d.oneCell' = true) (hsv : a.eval s = v) (hM : OwnAt w 68 v M) (hxv : a.eval x = .slice (some ⟨w.heap.size, 0, none⟩) 1 1) (hfew : M.length ≤ 1000)
    (h : ∀ a' n' c' w', Hid (n' = M.length + 1) → Hid (OwnAt w' 68 (.slice a' n' c') (M ++ [d])) → Hid (Fr (fun k => v.ownBlock = some k) w w') → Hid ((Value.slice a' n' c').ownBlock = v.ownBlock ∨ ∃ k, (Value.slice a' n' c').ownBlock = some k ∧ w.heap.size ≤ k) → wpList Tryd.prog ops Q rest (a.put o.dst (.slice a' n' c')) w') : wpList Tryd.prog ops Q (o :: rest) a (w.alloc (.cells #[d] 68)) := by
  obtain ⟨i, I1, I2, I3, I4⟩ := info_word
  have hal : Fr (fun _ => False) w (w.alloc (.cells #[d] 68)) := (Fr.refl _ _).alloc _
  refine wpList_append_at hgd s x 58 58 ho 68 i .nilIface Tryd.underlying58 I1 I2 I3 rfl v _ hsv (hM.fr hal (fun _ _ => id)) _ hxv 1 [d] (Src.ofSlice _ Tryd.underlying58 _ 1 1 [d] rfl (fun j u hj => ?_) (by simp [h1])) (by rw [I4]; omega) (by unfold maxLen; omega) ?_
  · cases j with
    | zero => simp at hj; subst hj; rw [add_none]; exact cell_of_heap (heap_alloc_new w _) rfl
    | succ j => simp at hj
  · intro a' c' w' hO hF hk
    refine h a' _ c' w' rfl hO ((hal.mono (fun _ _ e => e.elim)).trans hF.out) ?_
    rcases hk.out with e | ⟨k, e, hk2⟩
    · exact .inl e
    · exact .inr ⟨k, e, by simp at hk2; omega⟩
end Go.Proofs.YtfehmlopndklcaaDoor
