/- Contracts of package chunk: what a nil ring or queue, and one that no call made, answers; New; awake. -/
import Derived.Test.YtaflgioelblcgaaR6
namespace Go.Proofs.Ytaflgioelblcgaa
open Go.RowKit
set_option linter.unusedVariables false

theorem put_nil (sp : Option Addr) (len cap : Nat) (w : World) : Calls Try.prog 16 #[.pointer none, .slice sp len cap] w fun e w' => e = .returned (.int .i64 0) ∧ w' = w := by
  go_enter Try.func16, Try.ntmps16
  go_wp2
  go_ret
  exact ⟨rfl, rfl⟩
theorem peek_nil (n : Int) (w : World) : Calls Try.prog 26 #[.pointer none, .int .i64 n] w fun e w' => e = .returned (.slice none 0 0) ∧ w' = w := by
  go_enter Try.func26, Try.ntmps26
  go_wp2
  go_ret
  exact ⟨rfl, rfl⟩
theorem drop_nil (n : Int) (w : World) : Calls Try.prog 27 #[.pointer none, .int .i64 n] w fun e w' => e = .returned (.int .i64 0) ∧ w' = w := by
  go_enter Try.func27, Try.ntmps27
  go_wp2
  go_ret
  exact ⟨rfl, rfl⟩
theorem take_nil (n : Int) (w : World) : Calls Try.prog 17 #[.pointer none, .int .i64 n] w fun e w' => e = .returned (.slice none 0 0) ∧ w' = w := by
  go_enter Try.func17, Try.ntmps17
  go_wp2_with fail
  refine (peek_nil n w).mono ?_
  rintro e w1 ⟨rfl, rfl⟩
  go_wp2_with fail
  refine (drop_nil 0 w1).mono ?_
  rintro e w2 ⟨rfl, rfl⟩
  go_wp2
  go_ret
  exact ⟨rfl, rfl⟩
theorem room_nil (w : World) : Calls Try.prog 12 #[.pointer none] w fun e w' => e = .returned (.int .i64 0) ∧ w' = w := by
  go_enter Try.func12, Try.ntmps12
  go_wp2
  go_ret
  exact ⟨rfl, rfl⟩
theorem add_nil (sp : Option Addr) (len cap : Nat) (w : World) : Calls Try.prog 19 #[.pointer none, .slice sp len cap] w fun e w' => e = .returned (.int .i64 7) ∧ w' = w := by
  go_enter Try.func19, Try.ntmps19
  go_wp2
  go_ret
  exact ⟨rfl, rfl⟩
theorem add_unmade (b : Nat) (sp : Option Addr) (len cap : Nat) (w : World) (c1 : w.cell? ⟨b, 1, none⟩ = some (.bool false)) : Calls Try.prog 19 #[.pointer (some ⟨b, 0, none⟩), .slice sp len cap] w fun e w' => e = .returned (.int .i64 7) ∧ w' = w := by
  go_enter Try.func19, Try.ntmps19
  go_wp2
  go_ret
  exact ⟨rfl, rfl⟩
theorem qtake_nil (n : Int) (w : World) : Calls Try.prog 21 #[.pointer none, .int .i64 n] w fun e w' => e = .returned (.slice none 0 0) ∧ w' = w := by
  go_enter Try.func21, Try.ntmps21
  go_wp2
  go_ret
  exact ⟨rfl, rfl⟩
theorem qlen_any (b : Nat) (held : Int) (w : World) (c0 : w.cell? ⟨b, 0, none⟩ = some (.int .i64 held)) : Calls Try.prog 23 #[.pointer (some ⟨b, 0, none⟩)] w fun e w' => e = .returned (.int .i64 held) ∧ w' = w := by
  go_enter Try.func23, Try.ntmps23
  go_wp2
  go_ret
  exact ⟨rfl, rfl⟩
theorem chunks_nil (w : World) : Calls Try.prog 25 #[.pointer none] w fun e w' => e = .returned (.int .i64 0) ∧ w' = w := by
  go_enter Try.func25, Try.ntmps25
  go_wp2
  go_ret
  exact ⟨rfl, rfl⟩
theorem chunks_any (b : Nat) (a : Option Addr) (len cap : Nat) (w : World) (c2 : w.cell? ⟨b, 2, none⟩ = some (.slice a len cap)) : Calls Try.prog 25 #[.pointer (some ⟨b, 0, none⟩)] w fun e w' => e = .returned (.int .i64 len) ∧ w' = w := by
  go_enter Try.func25, Try.ntmps25
  go_wp2
  go_ret
  exact ⟨rfl, rfl⟩

theorem zero_ring (w : World) (b lim : Nat) (hl : lim ≤ 1048576) (h : w.heap[b]? = some (.cells #[.int .i64 0, .slice none 0 0, .int .i64 0, .int .i64 lim] 56 (0, 0))) : RingIs w b (.slice none 0 0) [] lim :=
  ⟨hl, [], 0, h, Nat.zero_le _, Nat.le_refl _, .inr ⟨rfl, rfl⟩, rfl, .inl ⟨rfl, rfl⟩⟩

theorem new_ok (n : Nat) (w : World) (hn : n ≤ 1048576) :
    Calls Try.prog 8 #[.int .i64 n] w fun e w' => e = .returned (.tuple #[.pointer (some ⟨w.heap.size, 0, none⟩), .int .i64 0]) ∧ RingIs w' w.heap.size (.slice none 0 0) [] n ∧ Fr (fun _ => False) w w' := by
  have h1 : ¬ ((n : Int) < 0) := by omega
  have h2 : ¬ ((1048576 : Int) < (n : Int)) := by omega
  have h3 : (n : Int) ≤ 1048576 := by omega
  go_enter Try.func8, Try.ntmps8
  go_wp2
  go_ret2
  refine ⟨rfl, zero_ring _ _ _ hn (heap_alloc_new w _), ?_⟩
  exact (Fr.refl _ _).alloc _

theorem awake_any (w : World) : Calls Try.prog 15 #[] w fun e w' => e = .returned (.bool true) ∧ Fr (fun _ => False) w w' := by
  have h2 := new_ok 2 w (by omega)
  have H2 : Hid (Calls Try.prog 8 #[.int .i64 2] w fun e w' => e = .returned (.tuple #[.pointer (some ⟨w.heap.size, 0, none⟩), .int .i64 0]) ∧ RingIs w' w.heap.size (.slice none 0 0) [] 2 ∧ Fr (fun _ => False) w w') := h2
  clear h2
  go_enter Try.func15, Try.ntmps15
  go_wp2_with fail
  refine H2.out.mono ?_
  rintro e w1 ⟨rfl, hr1, hf1⟩
  have HF1 : Hid (Fr (fun _ => False) w w1) := hf1
  have hs1 := hr1.lt
  clear hf1
  go_wp2_with fail
  refine (put_any w.heap.size (.slice none 0 0) [] 2 (some ⟨w1.heap.size, 0, none⟩) 3 3 [1, 2, 3] _ (by exact hr1.fr (S := fun _ => False) ((Fr.refl _ _).alloc _) id (fun _ _ => id)) ?_ rfl (Nat.le_refl _) ?_ 2 rfl).mono ?_
  · exact SrcAt.row (t := 5) (cur := [1, 2, 3]) (heap_alloc_new w1 _) 0
  · intro a e _
    cases e
    exact ⟨by simp, by simp; omega, by simp [Value.ownBlock]⟩
  rintro e w2 ⟨rfl, sv, hr2, hf2, -⟩
  have HF2 : Hid (Fr (fun k => k = w.heap.size ∨ (Value.slice none 0 0).ownBlock = some k) (w1.alloc (Obj.cells #[Value.int IntKind.u8 1, Value.int IntKind.u8 2, Value.int IntKind.u8 3] 5)) w2) := hf2
  clear hf2 hr2
  go_wp2
  go_ret
  refine ⟨rfl, ?_⟩
  have h1 : Fr (fun k => k = w.heap.size ∨ (Value.slice none 0 0).ownBlock = some k) w w2 := Fr.trans ((HF1.out.mono (fun _ _ e => e.elim)).alloc _) HF2.out
  exact h1.mono (fun k hk e => by rcases e with e | e; · omega
                                  · simp [Value.ownBlock] at e)

end Go.Proofs.Ytaflgioelblcgaa
