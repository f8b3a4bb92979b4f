/- Contracts of what makes a number's bytes: field.lowest, aqueductref02.bytes. -/
import Derived.Test.YtdbffhgooomdnaaU2
namespace Go.Proofs.Ytdbffhgooomdnaa
open Go.RowKit
set_option linter.unusedVariables false

/-- The n lowest bytes of m, the highest of them first. -/
def be : Nat → Nat → List UInt8
  | 0, _ => []
  | n + 1, m => be n (m / 256) ++ [UInt8.ofNat m]

theorem be_length (n m : Nat) : (be n m).length = n := by
  induction n generalizing m with
  | zero => rfl
  | succ n ih => simp [be, ih]

theorem src_block {w : World} {g : Nat} {cs : Array Value} {t : TypeId} (off : Nat) (X : List UInt8) (hg : w.heap[g]? = some (.cells cs t (0, 0))) (h : cs.toList.drop off = bv X) : SrcAt w (some ⟨g, off, none⟩) X := by
  intro j c hj
  refine ⟨_, rfl, ?_⟩
  rw [add_none]
  refine cell_of_heap hg ?_
  have h1 : (cs.toList.drop off)[j]? = some (.int .u8 c.toNat) := by rw [h]; exact (bv_get _ _ _).2 ⟨c, hj, rfl⟩
  rw [List.getElem?_drop] at h1
  simpa using h1

theorem make_bytes (n : Nat) (h : n ≤ 140737488351232) : ∀ w : World, (Instr.makeSlice 22 (.int .i64 (n : Int)) (.int .i64 (n : Int))).run Try.prog w = .ok (.slice (some ⟨w.heap.size, 0, none⟩) n n) (w.alloc (.cells (bv (List.replicate n 0)).toArray 5)) := by
  intro w
  have hr := run_make (P := Try.prog) w 22 5 ((Try.prog.info? 5).get (by kernel_rfl)) (.int .u8 0) Try.underlying22 (by kernel_rfl) (by kernel_rfl) .i64 .i64 n n (by omega) (by omega) (by rw [show (((Try.prog.info? 5).get (by kernel_rfl)).bytes) = 1 from by kernel_rfl]; omega) (by omega)
  rw [show (((Try.prog.info? 5).get (by kernel_rfl)).size) = 1 from by kernel_rfl] at hr
  simpa [Value.cells, made_bytes] using hr

theorem lowest2 (m : Nat) (w : World) (hm : m < 4294967296) :
    Calls Try.prog 32 #[.int .u32 m, .int .i64 2] w fun e w' => (∃ sp c, e = .returned (.slice sp 2 c) ∧ SrcAt w' sp (be 2 m)) ∧ Fr (fun _ => False) w w' := by
  go_enter Try.func32, Try.ntmps32
  go_wp2
  go_ret
  refine ⟨⟨_, _, rfl, src_block 2 _ (heap_alloc_new w _) ?_⟩, (Fr.refl _ _).alloc _⟩
  simp [be, bv]
  all_goals omega

theorem lowest3 (m : Nat) (w : World) (hm : m < 4294967296) :
    Calls Try.prog 32 #[.int .u32 m, .int .i64 3] w fun e w' => (∃ sp c, e = .returned (.slice sp 3 c) ∧ SrcAt w' sp (be 3 m)) ∧ Fr (fun _ => False) w w' := by
  go_enter Try.func32, Try.ntmps32
  go_wp2
  go_ret
  refine ⟨⟨_, _, rfl, src_block 1 _ (heap_alloc_new w _) ?_⟩, (Fr.refl _ _).alloc _⟩
  simp [be, bv]
  all_goals omega

theorem lowest4 (m : Nat) (w : World) (hm : m < 4294967296) :
    Calls Try.prog 32 #[.int .u32 m, .int .i64 4] w fun e w' => (∃ sp c, e = .returned (.slice sp 4 c) ∧ SrcAt w' sp (be 4 m)) ∧ Fr (fun _ => False) w w' := by
  go_enter Try.func32, Try.ntmps32
  go_wp2
  go_ret
  refine ⟨⟨_, _, rfl, src_block 0 _ (heap_alloc_new w _) ?_⟩, (Fr.refl _ _).alloc _⟩
  simp [be, bv]
  all_goals omega

theorem bytes2 (m : Nat) (w : World) (hm : m < 18446744073709551616) :
    Calls Try.prog 33 #[.int .u64 m, .int .i64 2] w fun e w' => (∃ sp c, e = .returned (.slice sp 2 c) ∧ SrcAt w' sp (be 2 m)) ∧ Fr (fun _ => False) w w' := by
  have hmk : ∀ w : World, (Instr.makeSlice 22 (.int .i64 2) (.int .i64 2)).run Try.prog w = .ok (.slice (some ⟨w.heap.size, 0, none⟩) 2 2) (w.alloc (.cells #[.int .u8 0, .int .u8 0] 5)) := make_bytes 2 (by omega)
  go_enter Try.func33, Try.ntmps33
  go_wp2
  refine wp_loop_rounds 3 ?_
  rw [rounds_succ]
  go_wp2
  rw [rounds_succ]
  go_wp2
  rw [rounds_succ]
  go_wp2
  go_ret
  refine ⟨⟨_, _, rfl, src_block 0 _ (heap_alloc_new w _) ?_⟩, (Fr.refl _ _).alloc _⟩
  simp [be, bv]
  all_goals omega

theorem bytes3 (m : Nat) (w : World) (hm : m < 18446744073709551616) :
    Calls Try.prog 33 #[.int .u64 m, .int .i64 3] w fun e w' => (∃ sp c, e = .returned (.slice sp 3 c) ∧ SrcAt w' sp (be 3 m)) ∧ Fr (fun _ => False) w w' := by
  have hmk : ∀ w : World, (Instr.makeSlice 22 (.int .i64 3) (.int .i64 3)).run Try.prog w = .ok (.slice (some ⟨w.heap.size, 0, none⟩) 3 3) (w.alloc (.cells #[.int .u8 0, .int .u8 0, .int .u8 0] 5)) := make_bytes 3 (by omega)
  go_enter Try.func33, Try.ntmps33
  go_wp2
  refine wp_loop_rounds 4 ?_
  rw [rounds_succ]
  go_wp2
  rw [rounds_succ]
  go_wp2
  rw [rounds_succ]
  go_wp2
  rw [rounds_succ]
  go_wp2
  go_ret
  refine ⟨⟨_, _, rfl, src_block 0 _ (heap_alloc_new w _) ?_⟩, (Fr.refl _ _).alloc _⟩
  simp [be, bv]
  all_goals omega

theorem bytes4 (m : Nat) (w : World) (hm : m < 18446744073709551616) :
    Calls Try.prog 33 #[.int .u64 m, .int .i64 4] w fun e w' => (∃ sp c, e = .returned (.slice sp 4 c) ∧ SrcAt w' sp (be 4 m)) ∧ Fr (fun _ => False) w w' := by
  have hmk : ∀ w : World, (Instr.makeSlice 22 (.int .i64 4) (.int .i64 4)).run Try.prog w = .ok (.slice (some ⟨w.heap.size, 0, none⟩) 4 4) (w.alloc (.cells #[.int .u8 0, .int .u8 0, .int .u8 0, .int .u8 0] 5)) := make_bytes 4 (by omega)
  go_enter Try.func33, Try.ntmps33
  go_wp2
  refine wp_loop_rounds 5 ?_
  rw [rounds_succ]
  go_wp2
  rw [rounds_succ]
  go_wp2
  rw [rounds_succ]
  go_wp2
  rw [rounds_succ]
  go_wp2
  rw [rounds_succ]
  go_wp2
  go_ret
  refine ⟨⟨_, _, rfl, src_block 0 _ (heap_alloc_new w _) ?_⟩, (Fr.refl _ _).alloc _⟩
  simp [be, bv]
  all_goals omega

end Go.Proofs.Ytdbffhgooomdnaa
