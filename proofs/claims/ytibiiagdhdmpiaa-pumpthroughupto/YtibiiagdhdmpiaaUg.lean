/- The program's pump: those that nobody made; awake. -/
import Derived.Test.YtibiiagdhdmpiaaUf
namespace Go.Proofs.Ytibiiagdhdmpiaa
open Go.RowKit
set_option linter.unusedVariables false
set_option maxRecDepth 100000
set_option maxHeartbeats 4000000

theorem NoPu.fr {w w' : World} {p : Option Addr} (h : NoPu w p) (f : Fr (fun _ => False) w w') : NoPu w' p := by
  rcases h with rfl | ⟨b, rfl, c0⟩
  · exact .inl rfl
  · exact .inr ⟨b, rfl, (f.cell (p := ⟨b, 0, none⟩) (World.block_lt_of_cell? _ _ c0) id).trans c0⟩
theorem uLen_none (p : Option Addr) (w : World) (h : NoPu w p) : Calls Try.prog 10 #[.pointer p] w fun e w' => e = .returned (.int .i64 0) ∧ w = w' := by
  have K := umade_none p w h
  clear h
  go_enter Try.func10, Try.ntmps10
  go_wp2_with (fail)
  refine K.mono ?_
  rintro e w1 ⟨rfl, rfl⟩
  go_wp2
  go_ret
  exact ⟨rfl, rfl⟩
theorem uRoom_none (p : Option Addr) (w : World) (h : NoPu w p) : Calls Try.prog 11 #[.pointer p] w fun e w' => e = .returned (.int .i64 0) ∧ w = w' := by
  have K := umade_none p w h
  clear h
  go_enter Try.func11, Try.ntmps11
  go_wp2_with (fail)
  refine K.mono ?_
  rintro e w1 ⟨rfl, rfl⟩
  go_wp2
  go_ret
  exact ⟨rfl, rfl⟩
theorem uOpen_none (p : Option Addr) (w : World) (h : NoPu w p) : Calls Try.prog 13 #[.pointer p] w fun e w' => e = .returned (.bool false) ∧ w = w' := by
  have K := umade_none p w h
  clear h
  go_enter Try.func13, Try.ntmps13
  go_wp2_with (fail)
  refine K.mono ?_
  rintro e w1 ⟨rfl, rfl⟩
  go_wp2
  go_ret
  exact ⟨rfl, rfl⟩
theorem uPut_none (p : Option Addr) (sp : Option Addr) (n c : Nat) (w : World) (h : NoPu w p) : Calls Try.prog 15 #[.pointer p, .slice sp n c] w fun e w' => e = .returned (.int .i64 7) ∧ w = w' := by
  have K := urefuses_none p w h
  clear h
  go_enter Try.func15, Try.ntmps15
  go_wp2_with (fail)
  refine K.mono ?_
  rintro e w1 ⟨rfl, rfl⟩
  go_wp2
  go_ret
  exact ⟨rfl, rfl⟩
theorem uEnd_none (p : Option Addr) (w : World) (h : NoPu w p) : Calls Try.prog 19 #[.pointer p] w fun e w' => e = .returned (.int .i64 7) ∧ w = w' := by
  have K := urefuses_none p w h
  clear h
  go_enter Try.func19, Try.ntmps19
  go_wp2_with (fail)
  refine K.mono ?_
  rintro e w1 ⟨rfl, rfl⟩
  go_wp2
  go_ret
  exact ⟨rfl, rfl⟩
theorem uTail_none (p : Option Addr) (sp : Option Addr) (n c : Nat) (w : World) (h : NoPu w p) : Calls Try.prog 18 #[.pointer p, .slice sp n c] w fun e w' => e = .returned (.int .i64 7) ∧ w = w' := by
  have K := uEnd_none p w h
  clear h
  go_enter Try.func18, Try.ntmps18
  go_wp2_with (fail)
  refine K.mono ?_
  rintro e w1 ⟨rfl, rfl⟩
  go_wp2
  go_ret
  exact ⟨rfl, rfl⟩
theorem uDone_none (p : Option Addr) (n : Int) (w : World) (h : NoPu w p) : Calls Try.prog 17 #[.pointer p, .int .i64 n] w fun e w' => e = .returned (.int .i64 7) ∧ w = w' := by
  have K := umade_none p w h
  clear h
  go_enter Try.func17, Try.ntmps17
  go_wp2_with (fail)
  refine K.mono ?_
  rintro e w1 ⟨rfl, rfl⟩
  go_wp2
  go_ret
  exact ⟨rfl, rfl⟩
theorem uNext_none (p : Option Addr) (n : Int) (w : World) (h : NoPu w p) : Calls Try.prog 16 #[.pointer p, .int .i64 n] w fun e w' => e = .returned (.tuple #[.slice none 0 0, .bool false]) ∧ w = w' := by
  have K := umade_none p w h
  clear h
  go_enter Try.func16, Try.ntmps16
  go_wp2_with (fail)
  refine K.mono ?_
  rintro e w1 ⟨rfl, rfl⟩
  go_wp2
  go_ret2
  exact ⟨rfl, rfl⟩
theorem uLast_none (p : Option Addr) (w : World) (h : NoPu w p) : Calls Try.prog 20 #[.pointer p] w fun e w' => e = .returned (.tuple #[.slice none 0 0, .bool false]) ∧ w = w' := by
  have K := umade_none p w h
  clear h
  go_enter Try.func20, Try.ntmps20
  go_wp2_with (fail)
  refine K.mono ?_
  rintro e w1 ⟨rfl, rfl⟩
  go_wp2
  go_ret2
  exact ⟨rfl, rfl⟩
theorem uCut_none (p : Option Addr) (w : World) (h : NoPu w p) : Calls Try.prog 22 #[.pointer p] w fun e w' => e = .returned (.tuple #[]) ∧ w = w' := by
  have K := umade_none p w h
  clear h
  go_enter Try.func22, Try.ntmps22
  go_wp2_with (fail)
  refine K.mono ?_
  rintro e w1 ⟨rfl, rfl⟩
  go_wp2
  (try simp only [Exit.inBlock, Exit.then]); refine bodyPost_ret (results_none rfl _ _ _) rfl ?_
  exact ⟨rfl, rfl⟩
theorem uawake_in (w : World) : Calls Try.prog 14 #[] w fun e w' => e = .returned (.bool true) ∧ Fr (fun _ => False) w w' := by
  have KN := uNew_in 2 w (by decide)
  go_enter Try.func14, Try.ntmps14
  go_wp2_with (fail)
  refine KN.mono ?_
  rintro e w1 ⟨b, rfl, h1, f1⟩
  have HF1 : Hid (Fr (fun _ => False) w w1) := f1
  obtain ⟨W, hW⟩ : ∃ W, W = w1.alloc (.cells #[.int .u8 1, .int .u8 2] 5) := ⟨_, rfl⟩
  have f2 : Fr (fun _ => False) w1 W := by rw [hW]; exact (Fr.refl _ _).alloc _
  have hs : SrcAt W (some ⟨w1.heap.size, 0, none⟩) [1, 2] := by
    have hh : W.heap[w1.heap.size]? = some (.cells (bv [1, 2]).toArray 5 (0, 0)) := by rw [hW]; exact heap_alloc_new w1 _
    exact SrcAt.row hh 0
  have HZ : Hid (W.heap.size = w1.heap.size + 1) := by show _ = _; rw [hW]; simp
  have hz := HZ.out
  have KP := uPut_in _ b [] 2 none (some ⟨w1.heap.size, 0, none⟩) 2 2 [1, 2] W (h1.quiet f2) hs rfl (Nat.le_refl _) (fun a ha _ => by cases ha; exact ⟨by show w1.heap.size < _; omega, fun h => by have := h.2; simp at this⟩) (by decide)
  have HF2 : Hid (Fr (fun _ => False) w1 W) := f2
  clear f1 f2 h1 hs hz KN
  go_wp2_with (fail)
  rw [← hW]
  clear hW
  refine KP.mono ?_
  rintro e w2 ⟨rfl, h2, f3⟩
  have HF3 : Hid (Fr (fun k => w.heap.size ≤ k ∧ k < w1.heap.size) W w2) := f3
  have KR := uRoom_in _ b _ 2 _ none w2 h2
  clear h2 f3 KP
  go_wp2_with (fail)
  refine KR.mono ?_
  rintro e w3 ⟨rfl, n, rfl⟩
  go_wp2
  go_ret
  have f9 : Fr (fun k => w.heap.size ≤ k ∧ k < w1.heap.size) w w2 := ((HF1.out.trans HF2.out).mono (fun _ _ e => e.elim)).trans HF3.out
  exact ⟨rfl, (f9.mono (fun k hk e => by have := e.1; omega)).drewN n⟩
end Go.Proofs.Ytibiiagdhdmpiaa
