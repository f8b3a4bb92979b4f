/- The program's streams as the plain ones: New, Limit, Last, Open, State, Dropped. -/
import Derived.Test.YtahlhkpabkplfaaYe
import Derived.Test.YtahlhkpabkplfaaYg
namespace Go.Proofs.Ytahlhkpabkplfaa
open Go.RowKit Go.Maps
set_option linter.unusedVariables false
set_option maxRecDepth 100000
set_option maxHeartbeats 4000000

/-- The greatest number of this end's, as the program keeps it. -/
def olY (S : Stm) : Int := if S.ours = 0 ∧ S.server = false then -1 else S.ours
theorem next_ol (S : Stm) : nextS S = olY S + 2 := by unfold nextS olY; split <;> omega
def ysOf (mb : Nat) (S : Stm) (rg : List Int) (nx : Nat) : Yst := ⟨mb, S.server, olY S, (openS S true : Nat), S.mine, S.theirs, (openS S false : Nat), S.most, rg, (nx : Nat)⟩
/-- Streams of the program's in memory: S. -/
def YAt (w : World) (g mb : Nat) (S : Stm) : Prop := ∃ rg nx, StC w g (ysOf mb S rg nx) ∧ RingY rg nx S.gone ∧ MapAt w mb S.L.length (mapL S.L) ∧ InvS S
theorem YAt.inv {w : World} {g mb : Nat} {S : Stm} (h : YAt w g mb S) : InvS S := by obtain ⟨_, _, _, _, _, h⟩ := h; exact h
theorem YAt.lt {w : World} {g mb : Nat} {S : Stm} (h : YAt w g mb S) : g < w.heap.size ∧ mb < w.heap.size := by obtain ⟨_, _, h1, _, h2, _⟩ := h; exact ⟨h1.lt, h2.lt⟩
theorem YAt.fr {X : Nat → Prop} {w w' : World} {g mb : Nat} {S : Stm} (h : YAt w g mb S) (hf : Fr X w w') (hg : ¬ X g) (hm : ¬ X mb) : YAt w' g mb S := by
  obtain ⟨rg, nx, h1, h2, h3, h4⟩ := h
  exact ⟨rg, nx, h1.fr hf hg, h2, h3.fr hf hm, h4⟩

theorem yNew_in (sv : Bool) (most : Int) (w : World) (h0 : 0 ≤ most) (h1 : most ≤ 1024) :
    Calls Try.prog 12 #[.bool sv, .int .i64 most] w fun e w' => e = .returned (.tuple #[.pointer (some ⟨w.heap.size + 1, 0, none⟩), .int .i64 0]) ∧ YAt w' (w.heap.size + 1) w.heap.size (newS sv most) ∧ Fr (fun _ => False) w w' ∧ w'.heap.size = w.heap.size + 2 := by
  have hmm := @run_makeMap Try.prog
  go_enter Try.func12, Try.ntmps12
  go_upto_region 4 with (fail)
  obtain ⟨w2, hw2⟩ : ∃ w2, w2 = (w.alloc (Obj.map #[] 0)).alloc (Obj.cells ((Try.zeroCells60.setIfInBounds 0 (Value.map (some w.heap.size))).setIfInBounds 1 (Value.bool sv)) 60) := ⟨_, rfl⟩
  have h2 : StC w2 (w.heap.size + 1) ⟨w.heap.size, sv, 0, 0, 0, 0, 0, 0, List.replicate 64 0, 0⟩ := by
    rw [hw2]
    refine ⟨?_, rfl⟩
    have e : (Try.zeroCells60.setIfInBounds 0 (Value.map (some w.heap.size))).setIfInBounds 1 (Value.bool sv) = ycells ⟨w.heap.size, sv, 0, 0, 0, 0, 0, 0, List.replicate 64 0, 0⟩ := by kernel_rfl
    rw [e]
    have := heap_alloc_new (w.alloc (Obj.map #[] 0)) (Obj.cells (ycells ⟨w.heap.size, sv, 0, 0, 0, 0, 0, 0, List.replicate 64 0, 0⟩) 60)
    simpa using this
  have m2 : MapAt w2 w.heap.size 0 (fun _ => none) := by
    rw [hw2]
    exact (map_made w).fr ((Fr.refl (fun _ => False) _).alloc _) id
  have F2 : Fr (fun _ => False) w w2 := by rw [hw2]; exact ((Fr.refl _ _).alloc _).alloc _
  have s2 : w2.heap.size = w.heap.size + 2 := by rw [hw2]; simp
  rw [← hw2]
  clear hw2 hmm
  obtain ⟨c0, c1, c2, c3, c4, c5, c6, c7⟩ := h2.cells
  have z : ∀ j, w2.frozen? ⟨w.heap.size + 1, j, none⟩ = false := fun j => frozen_of_heap h2.1
  generalize (Try.zeroCells60.setIfInBounds 0 (Value.map (some w.heap.size))).setIfInBounds 1 (Value.bool sv) = ag
  have hm0 : MapAt w2 w.heap.size (newS sv most).L.length (mapL (newS sv most).L) := m2
  have hX : ∀ {a b : World}, Fr (fun k => k = w.heap.size + 1) a b → MapAt a w.heap.size (newS sv most).L.length (mapL (newS sv most).L) → MapAt b w.heap.size (newS sv most).L.length (mapL (newS sv most).L) := fun hf hm => hm.fr hf (by omega)
  cases sv
  · go_wp2_with (fail)
    go_ret2
    refine ⟨rfl, ⟨List.replicate 64 0, 0, (((h2.set (set_pm _ _) rfl).set (set_ol _ _) rfl).set (set_oo _ _) rfl).set (set_om _ _) rfl, ring_new, ?_, inv_new _ _ h0 h1⟩, ?_, ?_⟩
    · exact hX ((((Fr.refl _ _).setB _ _).setB _ _).setB _ _ |>.setB _ _) hm0
    · exact ⟨F2.os, F2.tape, F2.output, by simp [World.setCell]; omega, fun k hk hs => by rw [Below.heap_setCell _ _ _ _ (show k ≠ _ by simp; omega), Below.heap_setCell _ _ _ _ (show k ≠ _ by simp; omega), Below.heap_setCell _ _ _ _ (show k ≠ _ by simp; omega), Below.heap_setCell _ _ _ _ (show k ≠ _ by simp; omega)]; exact F2.block k hk id⟩
    · simp [World.setCell, s2]
  · go_wp2_with (fail)
    go_ret2
    refine ⟨rfl, ⟨List.replicate 64 0, 0, ((((h2.set (set_pm _ _) rfl).set (set_ol _ _) rfl).set (set_oo _ _) rfl).set (set_om _ _) rfl).set (set_ol _ _) rfl, ring_new, ?_, inv_new _ _ h0 h1⟩, ?_, ?_⟩
    · exact hX ((((Fr.refl _ _).setB _ _).setB _ _).setB _ _ |>.setB _ _ |>.setB _ _) hm0
    · exact ⟨F2.os, F2.tape, F2.output, by simp [World.setCell]; omega, fun k hk hs => by rw [Below.heap_setCell _ _ _ _ (show k ≠ _ by simp; omega), Below.heap_setCell _ _ _ _ (show k ≠ _ by simp; omega), Below.heap_setCell _ _ _ _ (show k ≠ _ by simp; omega), Below.heap_setCell _ _ _ _ (show k ≠ _ by simp; omega), Below.heap_setCell _ _ _ _ (show k ≠ _ by simp; omega)]; exact F2.block k hk id⟩
    · simp [World.setCell, s2]
theorem yNew_not (sv : Bool) (most : Int) (w : World) (h : ¬ (0 ≤ most ∧ most ≤ 1024)) :
    Calls Try.prog 12 #[.bool sv, .int .i64 most] w fun e w' => e = .returned (.tuple #[.pointer none, .int .i64 1]) ∧ w = w' := by
  by_cases g1 : most < 0
  · go_enter Try.func12, Try.ntmps12
    go_wp2_with (fail)
    go_ret2
    exact ⟨rfl, rfl⟩
  · have g2 : 1024 < most := by omega
    go_enter Try.func12, Try.ntmps12
    go_wp2_with (fail)
    go_ret2
    exact ⟨rfl, rfl⟩
theorem yLast_in (g mb : Nat) (S : Stm) (w : World) (h : YAt w g mb S) : Calls Try.prog 19 #[.pointer (some ⟨g, 0, none⟩)] w fun e w' => e = .returned (.int .i64 S.theirs) ∧ w = w' := by
  obtain ⟨rg, nx, h1, -⟩ := h
  have K := ymade_in g _ w h1
  obtain ⟨c0, c1, c2, c3, c4, c5, c6, c7⟩ := h1.cells
  clear h1
  dsimp only [ysOf] at c5
  go_enter Try.func19, Try.ntmps19
  go_wp2_with (go_at_call 37; refine K.mono ?_; clear K; rintro e w' ⟨rfl, rfl⟩)
  go_ret
  exact ⟨rfl, rfl⟩
theorem yOpen_in (g mb : Nat) (S : Stm) (own : Bool) (w : World) (h : YAt w g mb S) : Calls Try.prog 18 #[.pointer (some ⟨g, 0, none⟩), .bool own] w fun e w' => e = .returned (.int .i64 (openS S own : Nat)) ∧ w = w' := by
  obtain ⟨rg, nx, h1, -⟩ := h
  have K := ymade_in g _ w h1
  obtain ⟨c0, c1, c2, c3, c4, c5, c6, c7⟩ := h1.cells
  clear h1
  dsimp only [ysOf] at c3 c6
  cases own
  · go_enter Try.func18, Try.ntmps18
    go_wp2_with (go_at_call 37; refine K.mono ?_; clear K; rintro e w' ⟨rfl, rfl⟩)
    go_ret
    exact ⟨rfl, rfl⟩
  · go_enter Try.func18, Try.ntmps18
    go_wp2_with (go_at_call 37; refine K.mono ?_; clear K; rintro e w' ⟨rfl, rfl⟩)
    go_ret
    exact ⟨rfl, rfl⟩
theorem yLimit_in (g mb : Nat) (S : Stm) (n : Int) (w : World) (h : YAt w g mb S) : Calls Try.prog 23 #[.pointer (some ⟨g, 0, none⟩), .int .i64 n] w fun e w' => e = .returned (.int .i64 (limitS S n).1) ∧ YAt w' g mb (limitS S n).2 ∧ Fr (fun k => k = g ∨ k = mb) w w' := by
  have H : Hid (YAt w g mb S) := h
  obtain ⟨rg, nx, h1, h2, h3, h4⟩ := h
  have K := ymade_in g _ w h1
  have hne : mb ≠ g := h3.ne h1.1
  by_cases hn : n < 0
  · have e1 : limitS S n = (1, S) := by unfold limitS; rw [if_pos hn]
    rw [e1]
    clear h1 h2 h3 h4
    go_enter Try.func23, Try.ntmps23
    go_wp2_with (go_at_call 37; refine K.mono ?_; clear K; rintro e w' ⟨rfl, rfl⟩)
    go_ret
    exact ⟨rfl, H.out, Fr.refl _ _⟩
  · have e1 : limitS S n = (0, { S with mine := if n ≤ 1024 then n else 1024 }) := by unfold limitS; rw [if_neg hn]
    have h5 := inv_limit h4 n
    rw [e1] at h5 ⊢
    have z : w.frozen? ⟨g, 4, none⟩ = false := frozen_of_heap h1.1
    obtain ⟨c0, c1, c2, c3, c4, c5, c6, c7⟩ := h1.cells
    by_cases hx : n ≤ 1024
    · rw [if_pos hx] at h5 ⊢
      have hmin : min n 1024 = n := by omega
      go_enter Try.func23, Try.ntmps23
      go_wp2_with (go_at_call 37; refine K.mono ?_; clear K; rintro e w' ⟨rfl, rfl⟩)
      go_ret
      exact ⟨rfl, ⟨rg, nx, h1.set (set_om _ _) h1.2, h2, h3.fr ((Fr.refl (fun k => k = g) _).setB _ _) hne, h5⟩, ((Fr.refl (fun k => k = g) _).setB _ _).mono (fun _ _ e => .inl e)⟩
    · rw [if_neg hx] at h5 ⊢
      have hmin : min n 1024 = 1024 := by omega
      go_enter Try.func23, Try.ntmps23
      go_wp2_with (go_at_call 37; refine K.mono ?_; clear K; rintro e w' ⟨rfl, rfl⟩)
      go_ret
      exact ⟨rfl, ⟨rg, nx, h1.set (set_om _ _) h1.2, h2, h3.fr ((Fr.refl (fun k => k = g) _).setB _ _) hne, h5⟩, ((Fr.refl (fun k => k = g) _).setB _ _).mono (fun _ _ e => .inl e)⟩
end Go.Proofs.Ytahlhkpabkplfaa
