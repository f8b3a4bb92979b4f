/- The walk of RelayZero. -/
import Derived.Test.YtbecbiljkoahkaaGreatDoorPr1
import Derived.BigQuiet
import Derived.Deep.Cut
namespace Go.Proofs.YtbecbiljkoahkaaGreatDoor
open Go.RowKit
set_option linter.unusedVariables false
set_option maxRecDepth 100000
set_option maxHeartbeats 4000000

def coZ : Array Value := #[.bool false, .bool false, .int .i64 0, .int .i64 0, .int .i64 0, .int .i64 0, .int .i64 0, .int .i64 0, .int .i64 0, .string ⟨#[]⟩, .bool false, .bool false, .bool false, .bool false, .pointer none, .pointer none, .pointer none, .pointer none, .pointer none, .pointer none, .map none, .pointer none, .pointer none, .slice none 0 0, .int .i64 0]
def psZ : Array Value := #[.pointer none, .pointer none, .pointer none, .pointer none, .bool false, .nilFunc, .pointer none, .pointer none, .bool false, .nilFunc, .bool false]
theorem zero_pair : (Tryz.prog.info? 34).map (fun i => (i.zero, i.size, i.bytes)) = some (some (.agg psZ), 11, 88) := by kernel_rfl
theorem zero_conn : (Tryz.prog.info? 53).map (fun i => (i.zero, i.size, i.bytes)) = some (some (.agg coZ), 25, 200) := by kernel_rfl
theorem NoPs.fr {w w' : World} {p : Option Addr} (h : NoPs w p) (f : Fr (fun _ => False) w w') : NoPs w' p := by
  rcases h with rfl | ⟨b, rfl, c0⟩
  · exact .inl rfl
  · exact .inr ⟨b, rfl, (f.cell (p := ⟨b, 0, none⟩) (World.block_lt_of_cell? _ _ c0) id).trans c0⟩
theorem przero_walk (k s : Int) (q1 : Option Addr) (n1 c1 : Nat) (q2 : Option Addr) (n2 c2 : Nat) (e : Bool) (cd la : Int) (f : Bool) (n : Int) (w : World) :
    Calls Tryz.prog 3 #[.agg #[.int .i64 k, .int .i64 s, .slice q1 n1 c1, .slice q2 n2 c2, .bool e, .int .i64 cd, .int .i64 la], .bool f, .int .i64 n] w fun x w' => x = .returned (.bool true) ∧ Below w.heap.size w w' := by
  obtain ⟨i, hi, hz0, hz1, hz2⟩ := info_parts zero_pair
  obtain ⟨j, hj, hj0, hj1, hj2⟩ := info_parts zero_conn
  unfold psZ at hz0
  unfold coZ at hj0
  obtain ⟨W, hW⟩ : ∃ W, W = (w.alloc (.cells #[.int .i64 k, .int .i64 s, .slice q1 n1 c1, .slice q2 n2 c2, .bool e, .int .i64 cd, .int .i64 la] 25)).alloc (.cells #[.pointer none, .pointer none, .pointer none, .pointer none, .bool false, .nilFunc, .pointer none, .pointer none, .bool false, .nilFunc, .bool false] 34) := ⟨_, rfl⟩
  have HF : Hid (Fr (fun _ => False) w W) := by show Fr _ _ _; rw [hW]; exact ((Fr.refl _ _).alloc _).alloc _
  have HE : Hid (W.heap[w.heap.size]? = some (.cells #[.int .i64 k, .int .i64 s, .slice q1 n1 c1, .slice q2 n2 c2, .bool e, .int .i64 cd, .int .i64 la] 25 (0, 0))) := by
    show _ = _; rw [hW, Below.heap_alloc _ _ _ (by simp)]; exact heap_alloc_new w _
  have HQ : Hid (NoPs W (some ⟨w.heap.size + 1, 0, none⟩)) := by
    refine .inr ⟨_, rfl, ?_⟩
    rw [hW]
    have := heap_alloc_new (w.alloc (.cells #[.int .i64 k, .int .i64 s, .slice q1 n1 c1, .slice q2 n2 c2, .bool e, .int .i64 cd, .int .i64 la] 25)) (.cells #[.pointer none, .pointer none, .pointer none, .pointer none, .bool false, .nilFunc, .pointer none, .pointer none, .bool false, .nilFunc, .bool false] 34)
    rw [show (w.alloc (.cells #[.int .i64 k, .int .i64 s, .slice q1 n1 c1, .slice q2 n2 c2, .bool e, .int .i64 cd, .int .i64 la] 25)).heap.size = w.heap.size + 1 from by simp] at this
    exact cell_of_heap this rfl
  obtain ⟨V, hV⟩ : ∃ V, V = (W.alloc (.cells #[.bool false, .bool false, .int .i64 0, .int .i64 0, .int .i64 0, .int .i64 0, .int .i64 0, .int .i64 0, .int .i64 0, .string ⟨#[]⟩, .bool false, .bool false, .bool false, .bool false, .pointer none, .pointer none, .pointer none, .pointer none, .pointer none, .pointer none, .map none, .pointer none, .pointer none, .slice none 0 0, .int .i64 0] 53)).alloc (.cells #[.bool false, .bool false, .int .i64 0, .int .i64 0, .int .i64 0, .int .i64 0, .int .i64 0, .int .i64 0, .int .i64 0, .string ⟨#[]⟩, .bool false, .bool false, .bool false, .bool false, .pointer none, .pointer none, .pointer none, .pointer none, .pointer none, .pointer none, .map none, .pointer none, .pointer none, .slice none 0 0, .int .i64 0] 53) := ⟨_, rfl⟩
  have HG : Hid (Fr (fun _ => False) W V) := by show Fr _ _ _; rw [hV]; exact ((Fr.refl _ _).alloc _).alloc _
  have HC : Hid (NoCo V (some ⟨W.heap.size, 0, none⟩)) := by
    refine .inr ⟨_, rfl, ?_⟩
    rw [hV]
    have h0 := heap_alloc_new W (Obj.cells coZ 53)
    exact cell_of_heap (cur := coZ) ((Below.heap_alloc _ _ _ (by simp)).trans h0) rfl
  have hSz : Hid (W.heap.size = w.heap.size + 2) := by show _ = _; rw [hW]; simp
  go_enter Tryz.func3, Tryz.ntmps3
  go_upto_region 3 with (fail)
  (try rw [← hW])
  clear hW
  go_wp2_with (fail)
  refine (psStreams_none none W (.inl rfl)).mono ?_
  rintro e w1 ⟨rfl, rfl⟩
  go_wp2_with (fail)
  refine (psNew_none none none 1 1 n W (.inl rfl)).mono ?_
  rintro e w1 ⟨rfl, rfl⟩
  go_wp2_with (fail)
  (try rw [← hV])
  refine (psNew_none _ _ 1 1 n V HC.out).mono ?_
  rintro e w1 ⟨rfl, rfl⟩
  clear hV
  have HEV : Hid (V.heap[w.heap.size]? = some (.cells #[.int .i64 k, .int .i64 s, .slice q1 n1 c1, .slice q2 n2 c2, .bool e, .int .i64 cd, .int .i64 la] 25 (0, 0))) := ((HG.out.block _ (lt_of_heap HE.out) id).trans HE.out)
  have HQV : Hid (NoPs V (some ⟨w.heap.size + 1, 0, none⟩)) := HQ.out.fr HG.out
  have hev := HEV.out
  obtain ⟨d0, d1, d2, d3, d4, d5, d6⟩ : V.cell? ⟨w.heap.size, 0, none⟩ = some (.int .i64 k) ∧ V.cell? ⟨w.heap.size, 1, none⟩ = some (.int .i64 s) ∧ V.cell? ⟨w.heap.size, 2, none⟩ = some (.slice q1 n1 c1) ∧ V.cell? ⟨w.heap.size, 3, none⟩ = some (.slice q2 n2 c2) ∧ V.cell? ⟨w.heap.size, 4, none⟩ = some (.bool e) ∧ V.cell? ⟨w.heap.size, 5, none⟩ = some (.int .i64 cd) ∧ V.cell? ⟨w.heap.size, 6, none⟩ = some (.int .i64 la) := ⟨cell_of_heap hev rfl, cell_of_heap hev rfl, cell_of_heap hev rfl, cell_of_heap hev rfl, cell_of_heap hev rfl, cell_of_heap hev rfl, cell_of_heap hev rfl⟩
  clear hev
  go_wp2_with (fail)
  refine (psFront_none none k s q1 n1 c1 q2 n2 c2 e cd la V (.inl rfl)).mono ?_
  rintro x w1 ⟨rfl, hw1⟩
  have F1 : Hid (Fr (fun _ => False) V w1) := by show Fr _ _ _; rw [hw1]; exact (Fr.refl _ _).alloc _
  clear hw1 d0 d1 d2 d3 d4 d5 d6
  have hev : w1.heap[w.heap.size]? = some (.cells #[.int .i64 k, .int .i64 s, .slice q1 n1 c1, .slice q2 n2 c2, .bool e, .int .i64 cd, .int .i64 la] 25 (0, 0)) := ((F1.out.block _ (lt_of_heap HEV.out) id).trans HEV.out)
  obtain ⟨d0, d1, d2, d3, d4, d5, d6⟩ : w1.cell? ⟨w.heap.size, 0, none⟩ = some (.int .i64 k) ∧ w1.cell? ⟨w.heap.size, 1, none⟩ = some (.int .i64 s) ∧ w1.cell? ⟨w.heap.size, 2, none⟩ = some (.slice q1 n1 c1) ∧ w1.cell? ⟨w.heap.size, 3, none⟩ = some (.slice q2 n2 c2) ∧ w1.cell? ⟨w.heap.size, 4, none⟩ = some (.bool e) ∧ w1.cell? ⟨w.heap.size, 5, none⟩ = some (.int .i64 cd) ∧ w1.cell? ⟨w.heap.size, 6, none⟩ = some (.int .i64 la) := ⟨cell_of_heap hev rfl, cell_of_heap hev rfl, cell_of_heap hev rfl, cell_of_heap hev rfl, cell_of_heap hev rfl, cell_of_heap hev rfl, cell_of_heap hev rfl⟩
  clear hev
  go_wp2_with (fail)
  refine (psBack_none (some ⟨w.heap.size + 1, 0, none⟩) k s q1 n1 c1 q2 n2 c2 e cd la w1 (HQV.out.fr F1.out)).mono ?_
  rintro x w2 ⟨rfl, hw2⟩
  have F2 : Hid (Fr (fun _ => False) w1 w2) := by show Fr _ _ _; rw [hw2]; exact (Fr.refl _ _).alloc _
  clear hw2 d0 d1 d2 d3 d4 d5 d6
  have HQ2 : Hid (NoPs w2 (some ⟨w.heap.size + 1, 0, none⟩)) := (HQV.out.fr F1.out).fr F2.out
  go_wp2_with (fail)
  refine (psLost_none none f w2 (.inl rfl)).mono ?_
  rintro x w3 ⟨rfl, rfl⟩
  go_wp2_with (fail)
  refine (psMove_none (some ⟨w.heap.size + 1, 0, none⟩) w2 HQ2.out).mono ?_
  rintro x w3 ⟨rfl, rfl⟩
  go_wp2_with (fail)
  refine (psOver_none none w2 (.inl rfl)).mono ?_
  rintro x w3 ⟨rfl, rfl⟩
  go_wp2_with (fail)
  refine (psPassed_none (some ⟨w.heap.size + 1, 0, none⟩) w2 HQ2.out).mono ?_
  rintro x w3 ⟨rfl, rfl⟩
  go_wp2_with (fail)
  refine (psHeld_none none w2 (.inl rfl)).mono ?_
  rintro x w3 ⟨rfl, rfl⟩
  go_wp2
  go_ret
  exact ⟨rfl, ((HF.out.trans HG.out).trans (F1.out.trans F2.out)).below (fun _ _ => id)⟩
end Go.Proofs.YtbecbiljkoahkaaGreatDoor
