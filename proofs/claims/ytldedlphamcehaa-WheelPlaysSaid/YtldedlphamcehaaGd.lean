/- A wheel: New, made, Now, Len, Left; wheels that nobody made. -/
import Derived.Test.YtldedlphamcehaaGb
import Derived.Deep.Cut
import Derived.Deep.QuietTactic
namespace Go.Proofs.Ytldedlphamcehaa
open Go.RowKit Go.Maps
set_option linter.unusedVariables false
set_option maxRecDepth 100000
set_option maxHeartbeats 4000000

theorem qneq_some (bm : Nat) (w : World) : (binOp .neq 52 (.map (some bm)) (.map none)).run Try.prog w = .ok (.bool true) w := by kernel_rfl
theorem qneq_none (w : World) : (binOp .neq 52 (.map none) (.map none)).run Try.prog w = .ok (.bool false) w := by kernel_rfl
theorem qzero_int (w : World) : (zeroValue 3).run Try.prog w = .ok (.int .i64 0) w := by kernel_rfl
theorem qmade_in {g mb : Nat} {sl : List Value} {n : Int} (w : World) (h : WC w g sl mb n) : Calls Try.prog 23 #[.pointer (some ⟨g, 0, none⟩)] w fun e w' => e = .returned (.bool true) ∧ w = w' := by
  have c0 := h.map
  have hne := qneq_some
  clear h
  go_enter Try.func23, Try.ntmps23
  go_wp2_with (fail)
  go_ret
  exact ⟨rfl, rfl⟩
theorem qmade_zero (g : Nat) (w : World) (h : w.cell? ⟨g, 64, none⟩ = some (.map none)) : Calls Try.prog 23 #[.pointer (some ⟨g, 0, none⟩)] w fun e w' => e = .returned (.bool false) ∧ w = w' := by
  have hne := qneq_none
  go_enter Try.func23, Try.ntmps23
  go_wp2_with (fail)
  go_ret
  exact ⟨rfl, rfl⟩
theorem qmade_nil (w : World) : Calls Try.prog 23 #[.pointer none] w fun e w' => e = .returned (.bool false) ∧ w = w' := by
  go_enter Try.func23, Try.ntmps23
  go_wp2_with (fail)
  go_ret
  exact ⟨rfl, rfl⟩
theorem getD_nilS (r : Nat) : (List.replicate 64 nilS).getD r nilS = nilS := by
  rw [List.getD_eq_getElem?_getD, List.getElem?_replicate]
  split <;> rfl
theorem wzero : ∃ zc : Array Value, (∀ w, (zeroValue 54).run Try.prog w = .ok (.agg zc) w) ∧ zc.size = 66 ∧ ∀ b, zc.setIfInBounds 64 (.map (some b)) = wcells (List.replicate 64 nilS) b 0 :=
  ⟨(List.replicate 64 nilS ++ [Value.map none, Value.int .i64 0]).toArray, fun w => by kernel_rfl, by kernel_rfl, fun b => by kernel_rfl⟩
theorem qNew_in (base : Nat) (w : World) (hb : base ≤ w.heap.size) :
    Calls Try.prog 8 #[] w fun e w' => e = .returned (.pointer (some ⟨w.heap.size + 1, 0, none⟩)) ∧ WAt base w' (w.heap.size + 1) w.heap.size (List.replicate 64 nilS) 0 [] ∧ Fr (fun _ => False) w w' ∧ w'.heap.size = w.heap.size + 2 := by
  have hmm := @run_makeMap Try.prog
  obtain ⟨zc, hz, hsz, hset⟩ := wzero
  obtain ⟨ag, hag⟩ : ∃ ag, zc.setIfInBounds 64 (Value.map (some w.heap.size)) = ag := ⟨_, rfl⟩
  have HE : Hid (ag = wcells (List.replicate 64 nilS) w.heap.size 0) := by show _ = _; rw [← hag]; exact hset _
  have H2 : Hid (WAt base ((w.alloc (Obj.map #[] 0)).alloc (Obj.cells ag 54)) (w.heap.size + 1) w.heap.size (List.replicate 64 nilS) 0 []) := by
    refine ⟨⟨⟨?_, by simp⟩, fun r hr => ?_, (map_made w).fr ((Fr.refl (fun _ => False) _).alloc _) id, fun r t hr ht hrt k hk => ?_, by omega, hb, fun r hr k hk => ?_⟩, inv_newT⟩
    · rw [HE.out]
      have := heap_alloc_new (w.alloc (Obj.map #[] 0)) (Obj.cells (wcells (List.replicate 64 nilS) w.heap.size 0) 54)
      simpa using this
    · rw [getD_nilS]; exact OwnAt.nil _ _
    · rw [getD_nilS] at hk; simp [nilS, Value.ownBlock] at hk
    · rw [getD_nilS] at hk; simp [nilS, Value.ownBlock] at hk
  have F2 : Hid (Fr (fun _ => False) w ((w.alloc (Obj.map #[] 0)).alloc (Obj.cells ag 54))) := ((Fr.refl _ _).alloc _).alloc _
  have hlt : ¬ zc.size < 65 := by omega
  clear hset HE hsz
  go_enter Try.func8, Try.ntmps8
  go_wp2_with (fail)
  go_ret
  exact ⟨by simp, H2.out, F2.out, by simp⟩
theorem qNow_in {base : Nat} {w : World} {g mb : Nat} {sl : List Value} {N : Nat} {L : List (Int × Int)} (h : WAt base w g mb sl N L) : Calls Try.prog 19 #[.pointer (some ⟨g, 0, none⟩)] w fun e w' => e = .returned (.int .i64 (N : Int)) ∧ w = w' := by
  have K := qmade_in w h.1.c
  have c1 := h.1.c.now
  clear h
  go_enter Try.func19, Try.ntmps19
  go_wp2_with (go_at_call 23; refine K.mono ?_; clear K; rintro e w' ⟨rfl, rfl⟩)
  go_ret
  exact ⟨rfl, rfl⟩
theorem qLen_in {base : Nat} {w : World} {g mb : Nat} {sl : List Value} {N : Nat} {L : List (Int × Int)} (h : WAt base w g mb sl N L) : Calls Try.prog 20 #[.pointer (some ⟨g, 0, none⟩)] w fun e w' => e = .returned (.int .i64 (L.length : Nat)) ∧ w = w' := by
  have K := qmade_in w h.1.c
  have c0 := h.1.c.map
  have HM : Hid (MapAt w mb L.length (mapT L)) := h.1.m
  have HI : Hid (InvT N L) := h.2
  have HL : Hid ((L.map (·.1)).length = L.length) := by show _ = _; simp
  clear h
  go_enter Try.func20, Try.ntmps20
  go_wp2_with (first
    | (go_at_call 23; refine K.mono ?_; clear K; rintro e w' ⟨rfl, rfl⟩)
    | (refine wpList_mlen rfl (.tmp 9) 52 rfl 3 Try.underlying52 mb L.length (mapT L) rfl HM.out (L.map (·.1)) HI.out.nd (mapT_some L) ?_; rw [HL.out]))
  go_ret
  exact ⟨rfl, rfl⟩
theorem qLeft_in {base : Nat} {w : World} {g mb : Nat} {sl : List Value} {N : Nat} {L : List (Int × Int)} (h : WAt base w g mb sl N L) (d : Int) (hd : IsI d) (hN : N < 1000000000000000000) : Calls Try.prog 17 #[.pointer (some ⟨g, 0, none⟩), .int .i64 d] w fun e w' => e = .returned (.tuple #[.int .i64 (leftT N L d).1, .int .i64 (leftT N L d).2]) ∧ w = w' := by
  have K := qmade_in w h.1.c
  have c0 := h.1.c.map
  have c1 := h.1.c.now
  have HM : Hid (MapAt w mb L.length (mapT L)) := h.1.m
  have HD : Hid (IsI d) := hd
  cases hf : findT L d with
  | none =>
    have hv : (mapT L d).getD (.int .i64 0) = .int .i64 0 := by unfold mapT; rw [hf]; rfl
    have hs : (mapT L d).isSome = false := by unfold mapT; rw [hf]; rfl
    have hl : leftT N L d = (0, 6) := by unfold leftT; rw [hf]
    rw [hl]
    clear h hf hl hd
    go_enter Try.func17, Try.ntmps17
    go_wp2_with (first
      | (go_at_call 23; refine K.mono ?_; clear K; rintro e w' ⟨rfl, rfl⟩)
      | (refine wpList_look_ok rfl (.tmp 15) (.tmp 16) 52 rfl 3 Try.underlying52 (.int .i64 0) qzero_int mb L.length (mapT L) rfl HM.out d rfl HD.out (.int .i64 0) hv false hs ?_))
    go_ret2
    exact ⟨rfl, rfl⟩
  | some x =>
    have hv : (mapT L d).getD (.int .i64 0) = .int .i64 x.2 := by unfold mapT; rw [hf]; rfl
    have hs : (mapT L d).isSome = true := by unfold mapT; rw [hf]; rfl
    have hl : leftT N L d = (x.2 - (N : Int), 0) := by unfold leftT; rw [hf]
    have hx := h.2.due x (findT_some hf).1
    rw [hl]
    have hx1 : x.2 ≤ 2000000000000000000 := by omega
    have hx2 : 0 ≤ x.2 := by omega
    have hx3 : -9223372036854775808 ≤ x.2 - (N : Int) ∧ x.2 - (N : Int) ≤ 9223372036854775807 := by omega
    clear h hf hl hd
    go_enter Try.func17, Try.ntmps17
    go_wp2_with (first
      | (go_at_call 23; refine K.mono ?_; clear K; rintro e w' ⟨rfl, rfl⟩)
      | (refine wpList_look_ok rfl (.tmp 15) (.tmp 16) 52 rfl 3 Try.underlying52 (.int .i64 0) qzero_int mb L.length (mapT L) rfl HM.out d rfl HD.out (.int .i64 x.2) hv true hs ?_))
    go_ret2
    exact ⟨rfl, rfl⟩
end Go.Proofs.Ytldedlphamcehaa
