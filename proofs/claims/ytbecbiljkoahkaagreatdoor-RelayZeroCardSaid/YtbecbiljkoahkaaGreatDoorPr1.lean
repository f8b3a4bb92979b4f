/- Pairs and connections that nobody made. -/
import Derived.Test.YtbecbiljkoahkaaGreatDoorRows
import Derived.Test.YtbecbiljkoahkaaGreatDoorB1
namespace Go.Proofs.YtbecbiljkoahkaaGreatDoor
open Go.RowKit
set_option linter.unusedVariables false
set_option maxRecDepth 100000
set_option maxHeartbeats 4000000

/-- A connection that nobody made: nil, or its first cell is false. -/
def NoCo (w : World) (p : Option Addr) : Prop := p = none ∨ ∃ b, p = some ⟨b, 0, none⟩ ∧ w.cell? ⟨b, 0, none⟩ = some (.bool false)
/-- A pair that nobody made: nil, or its first cell is nil. -/
def NoPs (w : World) (p : Option Addr) : Prop := p = none ∨ ∃ b, p = some ⟨b, 0, none⟩ ∧ w.cell? ⟨b, 0, none⟩ = some (.pointer none)
theorem kisMade_nil (w : World) : Calls Tryz.prog 29 #[.pointer none] w fun e w' => e = .returned (.bool false) ∧ w = w' := by
  go_enter Tryz.func29, Tryz.ntmps29
  go_wp2
  go_ret
  exact ⟨rfl, rfl⟩
theorem kisMade_no (b : Nat) (w : World) (c0 : w.cell? ⟨b, 0, none⟩ = some (.bool false)) : Calls Tryz.prog 29 #[.pointer (some ⟨b, 0, none⟩)] w fun e w' => e = .returned (.bool false) ∧ w = w' := by
  go_enter Tryz.func29, Tryz.ntmps29
  go_wp2
  go_ret
  exact ⟨rfl, rfl⟩
theorem kisMade_none (p : Option Addr) (w : World) (h : NoCo w p) : Calls Tryz.prog 29 #[.pointer p] w fun e w' => e = .returned (.bool false) ∧ w = w' := by
  rcases h with rfl | ⟨b, rfl, c0⟩
  · exact kisMade_nil w
  · exact kisMade_no b w c0
theorem kfind_none (p : Option Addr) (n : Int) (w : World) (h : NoCo w p) : Calls Tryz.prog 41 #[.pointer p, .int .i64 n] w fun e w' => e = .returned (.tuple #[.pointer none, .int .i64 7]) ∧ w = w' := by
  have K := kisMade_none p w h
  clear h
  go_enter Tryz.func41, Tryz.ntmps41
  go_wp2_with (fail)
  refine K.mono ?_
  rintro e w1 ⟨rfl, rfl⟩
  go_wp2
  go_ret2
  exact ⟨rfl, rfl⟩
theorem kUsed_none (p : Option Addr) (s n : Int) (w : World) (h : NoCo w p) : Calls Tryz.prog 24 #[.pointer p, .int .i64 s, .int .i64 n] w fun e w' => e = .returned (.int .i64 7) ∧ w = w' := by
  have K := kfind_none p s w h
  clear h
  go_enter Tryz.func24, Tryz.ntmps24
  go_wp2_with (fail)
  refine K.mono ?_
  rintro e w1 ⟨rfl, rfl⟩
  go_wp2
  go_ret
  exact ⟨rfl, rfl⟩
theorem pscmade_none (p : Option Addr) (w : World) (h : NoCo w p) : Calls Tryz.prog 14 #[.pointer p] w fun e w' => e = .returned (.bool false) ∧ w = w' := by
  have K := kUsed_none p 0 0 w h
  clear h
  go_enter Tryz.func14, Tryz.ntmps14
  go_wp2_with (fail)
  refine K.mono ?_
  rintro e w1 ⟨rfl, rfl⟩
  go_wp2
  go_ret
  exact ⟨rfl, rfl⟩
theorem psNew_none (p q : Option Addr) (a b n : Int) (w : World) (h : NoCo w p) : Calls Tryz.prog 5 #[.pointer p, .int .i64 a, .pointer q, .int .i64 b, .int .i64 n] w fun e w' => e = .returned (.tuple #[.pointer none, .int .i64 7]) ∧ w = w' := by
  have K := pscmade_none p w h
  clear h
  go_enter Tryz.func5, Tryz.ntmps5
  go_wp2_with (fail)
  refine K.mono ?_
  rintro e w1 ⟨rfl, rfl⟩
  go_wp2
  go_ret2
  exact ⟨rfl, rfl⟩
theorem psmade_nil (w : World) : Calls Tryz.prog 13 #[.pointer none] w fun e w' => e = .returned (.bool false) ∧ w = w' := by
  go_enter Tryz.func13, Tryz.ntmps13
  go_wp2
  go_ret
  exact ⟨rfl, rfl⟩
theorem psmade_no (b : Nat) (w : World) (c0 : w.cell? ⟨b, 0, none⟩ = some (.pointer none)) : Calls Tryz.prog 13 #[.pointer (some ⟨b, 0, none⟩)] w fun e w' => e = .returned (.bool false) ∧ w = w' := by
  go_enter Tryz.func13, Tryz.ntmps13
  go_wp2
  go_ret
  exact ⟨rfl, rfl⟩
theorem psmade_none (p : Option Addr) (w : World) (h : NoPs w p) : Calls Tryz.prog 13 #[.pointer p] w fun e w' => e = .returned (.bool false) ∧ w = w' := by
  rcases h with rfl | ⟨b, rfl, c0⟩
  · exact psmade_nil w
  · exact psmade_no b w c0
theorem psStreams_none (p : Option Addr) (w : World) (h : NoPs w p) : Calls Tryz.prog 4 #[.pointer p] w fun e w' => e = .returned (.tuple #[.int .i64 0, .int .i64 0]) ∧ w = w' := by
  have K := psmade_none p w h
  clear h
  go_enter Tryz.func4, Tryz.ntmps4
  go_wp2_with (fail)
  refine K.mono ?_
  rintro e w1 ⟨rfl, rfl⟩
  go_wp2
  go_ret2
  exact ⟨rfl, rfl⟩
theorem psLost_none (p : Option Addr) (f : Bool) (w : World) (h : NoPs w p) : Calls Tryz.prog 8 #[.pointer p, .bool f] w fun e w' => e = .returned (.int .i64 7) ∧ w = w' := by
  have K := psmade_none p w h
  clear h
  go_enter Tryz.func8, Tryz.ntmps8
  go_wp2_with (fail)
  refine K.mono ?_
  rintro e w1 ⟨rfl, rfl⟩
  go_wp2
  go_ret
  exact ⟨rfl, rfl⟩
theorem psMove_none (p : Option Addr) (w : World) (h : NoPs w p) : Calls Tryz.prog 9 #[.pointer p] w fun e w' => e = .returned (.int .i64 0) ∧ w = w' := by
  have K := psmade_none p w h
  clear h
  go_enter Tryz.func9, Tryz.ntmps9
  go_wp2_with (fail)
  refine K.mono ?_
  rintro e w1 ⟨rfl, rfl⟩
  go_wp2
  go_ret
  exact ⟨rfl, rfl⟩
theorem psOver_none (p : Option Addr) (w : World) (h : NoPs w p) : Calls Tryz.prog 10 #[.pointer p] w fun e w' => e = .returned (.bool false) ∧ w = w' := by
  have K := psmade_none p w h
  clear h
  go_enter Tryz.func10, Tryz.ntmps10
  go_wp2_with (fail)
  refine K.mono ?_
  rintro e w1 ⟨rfl, rfl⟩
  go_wp2
  go_ret
  exact ⟨rfl, rfl⟩
theorem psPassed_none (p : Option Addr) (w : World) (h : NoPs w p) : Calls Tryz.prog 11 #[.pointer p] w fun e w' => e = .returned (.bool false) ∧ w = w' := by
  have K := psmade_none p w h
  clear h
  go_enter Tryz.func11, Tryz.ntmps11
  go_wp2_with (fail)
  refine K.mono ?_
  rintro e w1 ⟨rfl, rfl⟩
  go_wp2
  go_ret
  exact ⟨rfl, rfl⟩
theorem psHeld_none (p : Option Addr) (w : World) (h : NoPs w p) : Calls Tryz.prog 12 #[.pointer p] w fun e w' => e = .returned (.int .i64 0) ∧ w = w' := by
  have K := psmade_none p w h
  clear h
  go_enter Tryz.func12, Tryz.ntmps12
  go_wp2_with (fail)
  refine K.mono ?_
  rintro e w1 ⟨rfl, rfl⟩
  go_wp2
  go_ret
  exact ⟨rfl, rfl⟩
theorem NoPs.box {w : World} {p : Option Addr} (h : NoPs w p) (o : Obj) : NoPs (w.alloc o) p := by
  rcases h with rfl | ⟨b, rfl, c0⟩
  · exact .inl rfl
  · exact .inr ⟨b, rfl, (((Fr.refl (fun _ => False) w).alloc o).cell (p := ⟨b, 0, none⟩) (World.block_lt_of_cell? _ _ c0) id).trans c0⟩
theorem psFront_none (p : Option Addr) (k s : Int) (q1 : Option Addr) (n1 c1 : Nat) (q2 : Option Addr) (n2 c2 : Nat) (e : Bool) (cd la : Int) (w : World) (h : NoPs w p) : Calls Tryz.prog 6 #[.pointer p, .agg #[.int .i64 k, .int .i64 s, .slice q1 n1 c1, .slice q2 n2 c2, .bool e, .int .i64 cd, .int .i64 la]] w fun x w' => x = .returned (.int .i64 7) ∧ w' = w.alloc (.cells #[.int .i64 k, .int .i64 s, .slice q1 n1 c1, .slice q2 n2 c2, .bool e, .int .i64 cd, .int .i64 la] 25) := by
  have K := psmade_none p _ (h.box (.cells #[.int .i64 k, .int .i64 s, .slice q1 n1 c1, .slice q2 n2 c2, .bool e, .int .i64 cd, .int .i64 la] 25))
  obtain ⟨W, hW⟩ : ∃ W, W = w.alloc (.cells #[.int .i64 k, .int .i64 s, .slice q1 n1 c1, .slice q2 n2 c2, .bool e, .int .i64 cd, .int .i64 la] 25) := ⟨_, rfl⟩
  rw [← hW] at K ⊢
  clear h
  go_enter Tryz.func6, Tryz.ntmps6
  go_wp2_with (fail)
  (try rw [← hW])
  refine K.mono ?_
  rintro e w1 ⟨rfl, rfl⟩
  clear hW
  go_wp2
  go_ret
  exact ⟨rfl, rfl⟩
theorem psBack_none (p : Option Addr) (k s : Int) (q1 : Option Addr) (n1 c1 : Nat) (q2 : Option Addr) (n2 c2 : Nat) (e : Bool) (cd la : Int) (w : World) (h : NoPs w p) : Calls Tryz.prog 7 #[.pointer p, .agg #[.int .i64 k, .int .i64 s, .slice q1 n1 c1, .slice q2 n2 c2, .bool e, .int .i64 cd, .int .i64 la]] w fun x w' => x = .returned (.int .i64 7) ∧ w' = w.alloc (.cells #[.int .i64 k, .int .i64 s, .slice q1 n1 c1, .slice q2 n2 c2, .bool e, .int .i64 cd, .int .i64 la] 25) := by
  have K := psmade_none p _ (h.box (.cells #[.int .i64 k, .int .i64 s, .slice q1 n1 c1, .slice q2 n2 c2, .bool e, .int .i64 cd, .int .i64 la] 25))
  obtain ⟨W, hW⟩ : ∃ W, W = w.alloc (.cells #[.int .i64 k, .int .i64 s, .slice q1 n1 c1, .slice q2 n2 c2, .bool e, .int .i64 cd, .int .i64 la] 25) := ⟨_, rfl⟩
  rw [← hW] at K ⊢
  clear h
  go_enter Tryz.func7, Tryz.ntmps7
  go_wp2_with (fail)
  (try rw [← hW])
  refine K.mono ?_
  rintro e w1 ⟨rfl, rfl⟩
  clear hW
  go_wp2
  go_ret
  exact ⟨rfl, rfl⟩
end Go.Proofs.YtbecbiljkoahkaaGreatDoor
