/- A pool: the calls that change a backend. -/
import Derived.Test.YtoiencoojkahmaaJc
namespace Go.Proofs.Ytoiencoojkahmaa
open Go.RowKit Go.Maps
set_option linter.unusedVariables false
set_option maxRecDepth 100000
set_option maxHeartbeats 4000000

section
variable {base : Nat} {w w' : World} {g b gw mb : Nat} {sl : List Value} {ms : Nat → Nat} {n : Nat} {F R H rt mo : Int} {s : Pl}
theorem PAt.pst (h : PAt base w g b gw mb sl ms n F R H rt mo s) {j : Nat} (hj : j < n) (v : Int) : PAt base (w.setCell ⟨b, j * 5 + 1, none⟩ (.int .i64 v)) g b gw mb sl ms n F R H rt mo ⟨updB s.X j ⟨(s.X j).hs, v, (s.X j).may, (s.X j).load, (s.X j).wait⟩, s.N, s.T⟩ :=
  h.put hj 0 (by omega) ⟨(s.X j).hs, v, (s.X j).may, (s.X j).load, (s.X j).wait⟩ rfl (fun l hl hne => by match l, hl, hne with | 1, _, _ => rfl | 2, _, _ => rfl | 3, _, _ => rfl) rfl
theorem PAt.pmay (h : PAt base w g b gw mb sl ms n F R H rt mo s) {j : Nat} (hj : j < n) (v : Int) : PAt base (w.setCell ⟨b, j * 5 + 2, none⟩ (.int .i64 v)) g b gw mb sl ms n F R H rt mo ⟨updB s.X j ⟨(s.X j).hs, (s.X j).st, v, (s.X j).load, (s.X j).wait⟩, s.N, s.T⟩ :=
  h.put hj 1 (by omega) ⟨(s.X j).hs, (s.X j).st, v, (s.X j).load, (s.X j).wait⟩ rfl (fun l hl hne => by match l, hl, hne with | 0, _, _ => rfl | 2, _, _ => rfl | 3, _, _ => rfl) rfl
theorem PAt.pload (h : PAt base w g b gw mb sl ms n F R H rt mo s) {j : Nat} (hj : j < n) (v : Int) : PAt base (w.setCell ⟨b, j * 5 + 3, none⟩ (.int .i64 v)) g b gw mb sl ms n F R H rt mo ⟨updB s.X j ⟨(s.X j).hs, (s.X j).st, (s.X j).may, v, (s.X j).wait⟩, s.N, s.T⟩ :=
  h.put hj 2 (by omega) ⟨(s.X j).hs, (s.X j).st, (s.X j).may, v, (s.X j).wait⟩ rfl (fun l hl hne => by match l, hl, hne with | 0, _, _ => rfl | 1, _, _ => rfl | 3, _, _ => rfl) rfl
theorem PAt.pwait (h : PAt base w g b gw mb sl ms n F R H rt mo s) {j : Nat} (hj : j < n) (v : Int) : PAt base (w.setCell ⟨b, j * 5 + 4, none⟩ (.int .i64 v)) g b gw mb sl ms n F R H rt mo ⟨updB s.X j ⟨(s.X j).hs, (s.X j).st, (s.X j).may, (s.X j).load, v⟩, s.N, s.T⟩ :=
  h.put hj 3 (by omega) ⟨(s.X j).hs, (s.X j).st, (s.X j).may, (s.X j).load, v⟩ rfl (fun l hl hne => by match l, hl, hne with | 0, _, _ => rfl | 1, _, _ => rfl | 2, _, _ => rfl | 3, _, h => exact (h rfl).elim) rfl
/-- A model is another. -/
theorem PAt.phs (h : PAt base w g b gw mb sl ms n F R H rt mo s) {j : Nat} (hj : j < n) {y : Hs} (hy : HM w' (ms j) F R H y) (f : Fr (fun k => k = ms j) w w') : PAt base w' g b gw mb sl ms n F R H rt mo ⟨updB s.X j ⟨y, (s.X j).st, (s.X j).may, (s.X j).load, (s.X j).wait⟩, s.N, s.T⟩ := by
  obtain ⟨n1, n2, n3⟩ := h.b_ne
  obtain ⟨cs, hc, hr⟩ := h.row
  refine ⟨(f.block g (lt_of_heap h.blk) (fun e => tag_neI h.blk (h.mod j hj) (by decide) e)).trans h.blk, ⟨cs, (f.block b (lt_of_heap hc) (fun e => n2 j hj e.symm)).trans hc, hr.same (fun i hi k hk => ?_)⟩, fun i hi => ?_, h.whl.fr f (fun q hq e => wx_tag h.whl (h.mod j hj) (by decide) (by decide) (e ▸ hq)), h.nd, h.bg, h.bb, h.bm⟩
  · show _ = pfl (updB s.X j _ i) k
    unfold updB
    split
    · rename_i e
      rw [e]
      match k, hk with | 0, _ => rfl | 1, _ => rfl | 2, _ => rfl | 3, _ => rfl
    · rfl
  · show HM w' (ms i) F R H (updB s.X j _ i).hs
    unfold updB
    split
    · rename_i e
      rw [e]
      exact hy
    · rename_i e
      exact (h.mod i hi).fr f (fun e2 => e (h.nd i j hi hj e2))
theorem plOpened_no (p : Option Addr) (d er : Int) (w : World) (her : er = 1 ∨ er = 7) (K : Calls Try.prog 45 #[.pointer p, .int .i64 d] w fun e w' => e = .returned (.tuple #[.pointer none, .int .i64 er]) ∧ w = w') : Calls Try.prog 14 #[.pointer p, .int .i64 d] w fun e w' => e = .returned (.int .i64 er) ∧ w = w' := by
  rcases her with rfl | rfl
  all_goals
    go_enter Try.func14, Try.ntmps14
    go_wp2_with (go_at_call 45; refine K.mono ?_; clear K; rintro e w' ⟨rfl, rfl⟩)
    go_ret
    exact ⟨rfl, rfl⟩
theorem plFailed_no (p : Option Addr) (d er : Int) (w : World) (her : er = 1 ∨ er = 7) (K : Calls Try.prog 45 #[.pointer p, .int .i64 d] w fun e w' => e = .returned (.tuple #[.pointer none, .int .i64 er]) ∧ w = w') : Calls Try.prog 16 #[.pointer p, .int .i64 d] w fun e w' => e = .returned (.int .i64 er) ∧ w = w' := by
  rcases her with rfl | rfl
  all_goals
    go_enter Try.func16, Try.ntmps16
    go_wp2_with (go_at_call 45; refine K.mono ?_; clear K; rintro e w' ⟨rfl, rfl⟩)
    go_ret
    exact ⟨rfl, rfl⟩
theorem plDrain_no (p : Option Addr) (d er : Int) (w : World) (her : er = 1 ∨ er = 7) (K : Calls Try.prog 45 #[.pointer p, .int .i64 d] w fun e w' => e = .returned (.tuple #[.pointer none, .int .i64 er]) ∧ w = w') : Calls Try.prog 21 #[.pointer p, .int .i64 d] w fun e w' => e = .returned (.int .i64 er) ∧ w = w' := by
  rcases her with rfl | rfl
  all_goals
    go_enter Try.func21, Try.ntmps21
    go_wp2_with (go_at_call 45; refine K.mono ?_; clear K; rintro e w' ⟨rfl, rfl⟩)
    go_ret
    exact ⟨rfl, rfl⟩
theorem plLimit_no (p : Option Addr) (d er : Int) (v : Int) (w : World) (her : er = 1 ∨ er = 7) (K : Calls Try.prog 45 #[.pointer p, .int .i64 d] w fun e w' => e = .returned (.tuple #[.pointer none, .int .i64 er]) ∧ w = w') : Calls Try.prog 22 #[.pointer p, .int .i64 d, .int .i64 v] w fun e w' => e = .returned (.int .i64 er) ∧ w = w' := by
  rcases her with rfl | rfl
  all_goals
    go_enter Try.func22, Try.ntmps22
    go_wp2_with (go_at_call 45; refine K.mono ?_; clear K; rintro e w' ⟨rfl, rfl⟩)
    go_ret
    exact ⟨rfl, rfl⟩
theorem plTake_no (p : Option Addr) (d er : Int) (w : World) (her : er = 1 ∨ er = 7) (K : Calls Try.prog 45 #[.pointer p, .int .i64 d] w fun e w' => e = .returned (.tuple #[.pointer none, .int .i64 er]) ∧ w = w') : Calls Try.prog 18 #[.pointer p, .int .i64 d] w fun e w' => e = .returned (.int .i64 er) ∧ w = w' := by
  rcases her with rfl | rfl
  all_goals
    go_enter Try.func18, Try.ntmps18
    go_wp2_with (go_at_call 45; refine K.mono ?_; clear K; rintro e w' ⟨rfl, rfl⟩)
    go_ret
    exact ⟨rfl, rfl⟩
theorem plPut_no (p : Option Addr) (d er : Int) (w : World) (her : er = 1 ∨ er = 7) (K : Calls Try.prog 45 #[.pointer p, .int .i64 d] w fun e w' => e = .returned (.tuple #[.pointer none, .int .i64 er]) ∧ w = w') : Calls Try.prog 23 #[.pointer p, .int .i64 d] w fun e w' => e = .returned (.int .i64 er) ∧ w = w' := by
  rcases her with rfl | rfl
  all_goals
    go_enter Try.func23, Try.ntmps23
    go_wp2_with (go_at_call 45; refine K.mono ?_; clear K; rintro e w' ⟨rfl, rfl⟩)
    go_ret
    exact ⟨rfl, rfl⟩
theorem plProbe_no (p : Option Addr) (d er : Int) (v : Bool) (w : World) (her : er = 1 ∨ er = 7) (K : Calls Try.prog 45 #[.pointer p, .int .i64 d] w fun e w' => e = .returned (.tuple #[.pointer none, .int .i64 er]) ∧ w = w') : Calls Try.prog 24 #[.pointer p, .int .i64 d, .bool v] w fun e w' => e = .returned (.int .i64 er) ∧ w = w' := by
  rcases her with rfl | rfl
  all_goals
    go_enter Try.func24, Try.ntmps24
    go_wp2_with (go_at_call 45; refine K.mono ?_; clear K; rintro e w' ⟨rfl, rfl⟩)
    go_ret
    exact ⟨rfl, rfl⟩
theorem plState_no (p : Option Addr) (d er : Int) (w : World) (her : er = 1 ∨ er = 7) (K : Calls Try.prog 45 #[.pointer p, .int .i64 d] w fun e w' => e = .returned (.tuple #[.pointer none, .int .i64 er]) ∧ w = w') : Calls Try.prog 20 #[.pointer p, .int .i64 d] w fun e w' => e = .returned (.int .i64 (-1)) ∧ w = w' := by
  rcases her with rfl | rfl
  all_goals
    go_enter Try.func20, Try.ntmps20
    go_wp2_with (go_at_call 45; refine K.mono ?_; clear K; rintro e w' ⟨rfl, rfl⟩)
    go_ret
    exact ⟨rfl, rfl⟩
theorem plWait_no (p : Option Addr) (d er : Int) (w : World) (her : er = 1 ∨ er = 7) (K : Calls Try.prog 45 #[.pointer p, .int .i64 d] w fun e w' => e = .returned (.tuple #[.pointer none, .int .i64 er]) ∧ w = w') : Calls Try.prog 15 #[.pointer p, .int .i64 d] w fun e w' => e = .returned (.int .i64 (0)) ∧ w = w' := by
  rcases her with rfl | rfl
  all_goals
    go_enter Try.func15, Try.ntmps15
    go_wp2_with (go_at_call 45; refine K.mono ?_; clear K; rintro e w' ⟨rfl, rfl⟩)
    go_ret
    exact ⟨rfl, rfl⟩
theorem plState_in (h : PAt base w g b gw mb sl ms n F R H rt mo s) (hn : n ≤ 16) {j : Nat} (hj : j < n) : Calls Try.prog 20 #[.pointer (some ⟨g, 0, none⟩), .int .i64 (j : Int)] w fun e w' => e = .returned (.int .i64 (s.X j).st) ∧ w = w' := by
  have KF := plfind_ok h hn hj
  obtain ⟨-, c1, -, -, -, -⟩ := h.cells hj
  clear h
  go_enter Try.func20, Try.ntmps20
  go_wp2_with (go_at_call 45; refine KF.mono ?_; clear KF; rintro e w1 ⟨rfl, rfl⟩)
  go_ret
  exact ⟨rfl, rfl⟩
theorem plWait_in (h : PAt base w g b gw mb sl ms n F R H rt mo s) (hn : n ≤ 16) {j : Nat} (hj : j < n) : Calls Try.prog 15 #[.pointer (some ⟨g, 0, none⟩), .int .i64 (j : Int)] w fun e w' => e = .returned (.int .i64 (s.X j).wait) ∧ w = w' := by
  have KF := plfind_ok h hn hj
  obtain ⟨-, -, -, -, c4, -⟩ := h.cells hj
  clear h
  go_enter Try.func15, Try.ntmps15
  go_wp2_with (go_at_call 45; refine KF.mono ?_; clear KF; rintro e w1 ⟨rfl, rfl⟩)
  go_ret
  exact ⟨rfl, rfl⟩
theorem plOpened_in (h : PAt base w g b gw mb sl ms n F R H rt mo s) (hn : n ≤ 16) {j : Nat} (hj : j < n) (hl : (s.X j).st = 1 → (s.X j).load = 0) : Calls Try.prog 14 #[.pointer (some ⟨g, 0, none⟩), .int .i64 (j : Int)] w fun e w' => e = .returned (.int .i64 (opnP rt s j).1) ∧ PPost base w g b gw mb sl ms n F R H rt mo (opnP rt s j).2 w' := by
  have KF := plfind_ok h hn hj
  obtain ⟨-, c1, c2, c3, c4, z⟩ := h.cells hj
  obtain ⟨h0, h1, h2, h3⟩ := h.head
  have z1 := z (j * 5 + 1)
  have z2 := z (j * 5 + 2)
  have z3 := z (j * 5 + 3)
  have z4 := z (j * 5 + 4)
  have HP : Hid (PAt base w g b gw mb sl ms n F R H rt mo s) := h
  have HLd : Hid ((s.X j).st = 1 → (s.X j).load = 0) := hl
  by_cases e1 : (s.X j).st = 1
  · have E : opnP rt s j = (0, ⟨updB s.X j ⟨(s.X j).hs, 2, 0, 0, rt⟩, s.N, s.T⟩) := if_pos e1
    have HE : Hid ((s.X j).load = 0) := hl e1
    rw [E]
    rw [e1] at c1
    clear h z E e1 hl
    go_enter Try.func14, Try.ntmps14
    go_wp2_with (go_at_call 45; refine KF.mono ?_; clear KF; rintro e w1 ⟨rfl, rfl⟩)
    go_ret
    exact ⟨rfl, sl, (((HP.out.pst hj 2).pmay hj 0).pwait hj rt).to (by simp [updB_at, updB_two, HE.out]), ((((Fr.refl (S := PX b gw mb sl ms n) _).setS (.inl rfl) _ _).setS (.inl rfl) _ _).setS (.inl rfl) _ _)⟩
  · have E : opnP rt s j = (5, s) := if_neg e1
    rw [E]
    clear h z E hl
    go_enter Try.func14, Try.ntmps14
    go_wp2_with (go_at_call 45; refine KF.mono ?_; clear KF; rintro e w1 ⟨rfl, rfl⟩)
    go_ret
    exact ⟨rfl, PPost.refl HP.out⟩
theorem plLimit_in (h : PAt base w g b gw mb sl ms n F R H rt mo s) (hn : n ≤ 16) {j : Nat} (hj : j < n) (v : Int) (s0 : 0 ≤ (s.X j).st) (s3 : (s.X j).st ≤ 3) : Calls Try.prog 22 #[.pointer (some ⟨g, 0, none⟩), .int .i64 (j : Int), .int .i64 v] w fun e w' => e = .returned (.int .i64 (limP s j v).1) ∧ PPost base w g b gw mb sl ms n F R H rt mo (limP s j v).2 w' := by
  have KF := plfind_ok h hn hj
  obtain ⟨-, c1, c2, c3, c4, z⟩ := h.cells hj
  obtain ⟨h0, h1, h2, h3⟩ := h.head
  have z1 := z (j * 5 + 1)
  have z2 := z (j * 5 + 2)
  have z3 := z (j * 5 + 3)
  have z4 := z (j * 5 + 4)
  have HP : Hid (PAt base w g b gw mb sl ms n F R H rt mo s) := h
  by_cases e1 : (s.X j).st < 2
  · have E : limP s j v = (5, s) := if_pos e1
    rw [E]
    have a1 : (s.X j).st ≠ 2 := by omega
    have a2 : (s.X j).st ≠ 3 := by omega
    have a3 : ((s.X j).st != 2) = true := by simpa using a1
    have a4 : ((s.X j).st != 3) = true := by simpa using a2
    clear h z E e1 s0 s3
    go_enter Try.func22, Try.ntmps22
    go_wp2_with (go_at_call 45; refine KF.mono ?_; clear KF; rintro e w1 ⟨rfl, rfl⟩)
    go_ret
    exact ⟨rfl, PPost.refl HP.out⟩
  by_cases e2 : v < 0
  · have E : limP s j v = (1, s) := by unfold limP; rw [if_neg e1, if_pos e2]
    rw [E]
    have a1 : (s.X j).st = 2 ∨ (s.X j).st = 3 := by omega
    clear h z E e1 s0 s3
    rcases a1 with a1 | a1 <;> rw [a1] at c1 <;> clear a1
    all_goals
      go_enter Try.func22, Try.ntmps22
      go_wp2_with (go_at_call 45; refine KF.mono ?_; clear KF; rintro e w1 ⟨rfl, rfl⟩)
      go_ret
      exact ⟨rfl, PPost.refl HP.out⟩
  · have E : limP s j v = (0, ⟨updB s.X j ⟨(s.X j).hs, (s.X j).st, v, (s.X j).load, (s.X j).wait⟩, s.N, s.T⟩) := by unfold limP; rw [if_neg e1, if_neg e2]
    rw [E]
    have a1 : (s.X j).st = 2 ∨ (s.X j).st = 3 := by omega
    clear h z E e1 s0 s3
    rcases a1 with a1 | a1 <;> rw [a1] at c1 <;> clear a1
    all_goals
      go_enter Try.func22, Try.ntmps22
      go_wp2_with (go_at_call 45; refine KF.mono ?_; clear KF; rintro e w1 ⟨rfl, rfl⟩)
      go_ret
      exact ⟨rfl, sl, HP.out.pmay hj v, ((Fr.refl (S := PX b gw mb sl ms n) _).setS (.inl rfl) _ _)⟩
theorem plTake_in (h : PAt base w g b gw mb sl ms n F R H rt mo s) (hn : n ≤ 16) {j : Nat} (hj : j < n) (l0 : 0 ≤ (s.X j).load) (lc : (s.X j).load ≤ 9000000000000000000) : Calls Try.prog 18 #[.pointer (some ⟨g, 0, none⟩), .int .i64 (j : Int)] w fun e w' => e = .returned (.int .i64 (takP s j).1) ∧ PPost base w g b gw mb sl ms n F R H rt mo (takP s j).2 w' := by
  have KF := plfind_ok h hn hj
  obtain ⟨-, c1, c2, c3, c4, z⟩ := h.cells hj
  obtain ⟨h0, h1, h2, h3⟩ := h.head
  have z1 := z (j * 5 + 1)
  have z2 := z (j * 5 + 2)
  have z3 := z (j * 5 + 3)
  have z4 := z (j * 5 + 4)
  have HP : Hid (PAt base w g b gw mb sl ms n F R H rt mo s) := h
  by_cases e1 : (s.X j).st = 2
  · by_cases e2 : (s.X j).may ≤ (s.X j).load
    · have E : takP s j = (9, s) := by unfold takP; rw [if_pos e1, if_pos e2]
      rw [E]
      rw [e1] at c1
      have d2 : decide ((s.X j).may ≤ (s.X j).load) = true := decide_eq_true e2
      clear h z E e1
      go_enter Try.func18, Try.ntmps18
      go_wp2_with (go_at_call 45; refine KF.mono ?_; clear KF; rintro e w1 ⟨rfl, rfl⟩)
      go_quiet (fail)
      go_wp2_with (fail)
      go_ret
      exact ⟨rfl, sl, HP.out.later ((Fr.refl _ _).drewN _), (Fr.refl (S := PX b gw mb sl ms n) _).drewN _⟩
    · have E : takP s j = (0, ⟨updB s.X j ⟨(s.X j).hs, 2, (s.X j).may, (s.X j).load + 1, (s.X j).wait⟩, s.N, s.T⟩) := by unfold takP; rw [if_pos e1, if_neg e2]
      rw [E]
      rw [e1] at c1
      have d2 : decide ((s.X j).may ≤ (s.X j).load) = false := decide_eq_false e2
      have HE : Hid ((s.X j).st = 2) := e1
      clear h z E e1
      go_enter Try.func18, Try.ntmps18
      go_wp2_with (go_at_call 45; refine KF.mono ?_; clear KF; rintro e w1 ⟨rfl, rfl⟩)
      go_quiet (fail)
      go_wp2_with (fail)
      go_ret
      exact ⟨rfl, sl, ((HP.out.later ((Fr.refl _ _).drewN _)).pload hj _).to (by rw [HE.out]), ((Fr.refl (S := PX b gw mb sl ms n) _).drewN _).setS (.inl rfl) _ _⟩
  · have E : takP s j = (5, s) := if_neg e1
    rw [E]
    clear h z E
    go_enter Try.func18, Try.ntmps18
    go_wp2_with (go_at_call 45; refine KF.mono ?_; clear KF; rintro e w1 ⟨rfl, rfl⟩)
    go_ret
    exact ⟨rfl, PPost.refl HP.out⟩
theorem plFailed_in (h : PAt base w g b gw mb sl ms n F R H rt mo s) (hn : n ≤ 16) {j : Nat} (hj : j < n) (hb : base ≤ w.heap.size) (hN : s.N < 1000000000000000000) (w1 : 1 ≤ (s.X j).wait) (w2 : (s.X j).wait ≤ mo) (hm : mo ≤ 1073741824) : Calls Try.prog 16 #[.pointer (some ⟨g, 0, none⟩), .int .i64 (j : Int)] w fun e w' => e = .returned (.int .i64 (faiP mo s j).1) ∧ PPost base w g b gw mb sl ms n F R H rt mo (faiP mo s j).2 w' := by
  have KF := plfind_ok h hn hj
  obtain ⟨-, c1, c2, c3, c4, z⟩ := h.cells hj
  obtain ⟨h0, h1, h2, h3⟩ := h.head
  have z1 := z (j * 5 + 1)
  have z2 := z (j * 5 + 2)
  have z3 := z (j * 5 + 3)
  have z4 := z (j * 5 + 4)
  have HP : Hid (PAt base w g b gw mb sl ms n F R H rt mo s) := h
  by_cases e1 : (s.X j).st = 0
  · have E : faiP mo s j = (5, s) := if_pos e1
    rw [E]
    rw [e1] at c1
    clear h z E e1
    go_enter Try.func16, Try.ntmps16
    go_wp2_with (go_at_call 45; refine KF.mono ?_; clear KF; rintro e w1 ⟨rfl, rfl⟩)
    go_ret
    exact ⟨rfl, PPost.refl HP.out⟩
  · have E : faiP mo s j = (0, ⟨updB s.X j ⟨(s.X j).hs, 0, (s.X j).may, 0, if mo < 2 * (s.X j).wait then mo else 2 * (s.X j).wait⟩, s.N, (setT s.N s.T (j : Int) (s.X j).wait).2⟩) := if_neg e1
    rw [E]
    have KL := pllower_in h hb hn hN hj (s.X j).wait
    have KL2 := fun w c3 => pllonger_in g (s.X j).wait mo w c3 w1 w2 hm
    obtain ⟨x, hx⟩ : ∃ x, (s.X j).wait = x := ⟨_, rfl⟩
    obtain ⟨y, hy⟩ : ∃ y, (if mo < 2 * (s.X j).wait then mo else 2 * (s.X j).wait) = y := ⟨_, rfl⟩
    have HY : Hid ((if mo < 2 * (s.X j).wait then mo else 2 * (s.X j).wait) = y) := hy
    rw [hy]
    rw [hx] at c4 KL KL2 ⊢
    rw [hx] at hy
    have HX : Hid ((s.X j).wait = x) := hx
    clear h z E w1 w2 hb hN hx
    go_enter Try.func16, Try.ntmps16
    go_wp2_with (first | (go_at_call 45; refine KF.mono ?_; clear KF; rintro e w1 ⟨rfl, rfl⟩) | (go_at_call 27; refine KL.mono ?_; clear KL; rintro e w2 ⟨rfl, sl2, p2, f2⟩; obtain ⟨-, -, -, -, d4, y2⟩ := p2.cells hj; have y4 := y2 (j * 5 + 4); clear y2; obtain ⟨-, -, -, g3⟩ := p2.head; replace d4 : w2.cell? ⟨b, j * 5 + 4, none⟩ = some (.int .i64 x) := by rw [d4]; show some (Value.int .i64 (updB s.X j _ j).wait) = _; rw [updB_at, ← HX.out]) | (go_at_call 46; refine (KL2 w2 g3).mono ?_; clear KL2; rw [hy]; rintro e w3 ⟨rfl, rfl⟩))
    go_ret
    exact ⟨rfl, sl2, (p2.pwait hj y).to (by unfold lowP; simp [updB_at, updB_two, ← HX.out]), f2.setS (.inl rfl) _ _⟩
theorem plebb_in (h : PAt base w g b gw mb sl ms n F R H rt mo s) (hn : n ≤ 16) {j : Nat} (hj : j < n) (hb : base ≤ w.heap.size) (hN : s.N < 1000000000000000000) (hs : (s.X j).st = 2 ∨ (s.X j).st = 3) : Calls Try.prog 49 #[.pointer (some ⟨g, 0, none⟩), .int .i64 (j : Int)] w fun e w' => e = .returned (.tuple #[]) ∧ PPost base w g b gw mb sl ms n F R H rt mo (empP ⟨updB s.X j ⟨(s.X j).hs, 3, (s.X j).may, (s.X j).load, (s.X j).wait⟩, s.N, s.T⟩ j) w' := by
  obtain ⟨-, c1, -, c3, -, z⟩ := h.cells hj
  obtain ⟨h0, h1, h2, h3⟩ := h.head
  have z1 := z (j * 5 + 1)
  have HP : Hid (PAt base w g b gw mb sl ms n F R H rt mo s) := h
  have hj2 : (j : Int) < (n : Int) := by omega
  obtain ⟨s2, hs2⟩ : ∃ s2 : Pl, s2 = ⟨updB s.X j ⟨(s.X j).hs, 3, (s.X j).may, (s.X j).load, (s.X j).wait⟩, s.N, s.T⟩ := ⟨_, rfl⟩
  have hx2 : s2.X j = ⟨(s.X j).hs, 3, (s.X j).may, (s.X j).load, (s.X j).wait⟩ := by rw [hs2]; exact updB_at _ _ _
  have hN2 : s2.N < 1000000000000000000 := by rw [hs2]; exact hN
  have E : empP s2 j = if (s.X j).load = 0 then lowP s2 j 1 else s2 := by
    unfold empP
    rw [hx2]
    simp
  rw [← hs2, E]
  clear E
  rcases hs with e1 | e1
  · have P2 : Hid (PAt base (w.setCell ⟨b, j * 5 + 1, none⟩ (.int .i64 3)) g b gw mb sl ms n F R H rt mo s2) := by rw [hs2]; exact h.pst hj 3
    have F2 : Hid (Fr (PX b gw mb sl ms n) w (w.setCell ⟨b, j * 5 + 1, none⟩ (.int .i64 3))) := (Fr.refl (S := PX b gw mb sl ms n) _).setS (.inl rfl) _ _
    have KL := pllower_in P2.out (Nat.le_trans hb F2.out.size) hn hN2 hj 1
    rw [e1] at c1
    clear h z e1 hs2 hx2 hN2 hN
    by_cases e0 : (s.X j).load = 0
    · rw [if_pos e0]
      rw [e0] at c3
      clear e0
      go_enter Try.func49, Try.ntmps49
      go_wp2_with (go_at_call 27; refine KL.mono ?_; clear KL; rintro e w2 ⟨rfl, sl2, p2, f2⟩)
      go_end0
      exact ⟨rfl, sl2, p2, F2.out.trans f2⟩
    · rw [if_neg e0]
      clear KL
      go_enter Try.func49, Try.ntmps49
      go_wp2_with (fail)
      go_end0
      exact ⟨rfl, sl, P2.out, F2.out⟩
  · have P2 : Hid (PAt base w g b gw mb sl ms n F R H rt mo s2) := h.to (by rw [hs2]; have : (⟨(s.X j).hs, 3, (s.X j).may, (s.X j).load, (s.X j).wait⟩ : Bk) = s.X j := by rw [← e1]
                                                                            rw [this, updB_self])
    have KL := pllower_in P2.out hb hn hN2 hj 1
    rw [e1] at c1
    clear h z e1 hs2 hx2 hN2 hN
    by_cases e0 : (s.X j).load = 0
    · rw [if_pos e0]
      rw [e0] at c3
      clear e0
      go_enter Try.func49, Try.ntmps49
      go_wp2_with (go_at_call 27; refine KL.mono ?_; clear KL; rintro e w2 ⟨rfl, sl2, p2, f2⟩)
      go_end0
      exact ⟨rfl, sl2, p2, f2⟩
    · rw [if_neg e0]
      clear KL
      go_enter Try.func49, Try.ntmps49
      go_wp2_with (fail)
      go_end0
      exact ⟨rfl, PPost.refl P2.out⟩
theorem plDrain_in (h : PAt base w g b gw mb sl ms n F R H rt mo s) (hn : n ≤ 16) {j : Nat} (hj : j < n) (hb : base ≤ w.heap.size) (hN : s.N < 1000000000000000000) : Calls Try.prog 21 #[.pointer (some ⟨g, 0, none⟩), .int .i64 (j : Int)] w fun e w' => e = .returned (.int .i64 (draP s j).1) ∧ PPost base w g b gw mb sl ms n F R H rt mo (draP s j).2 w' := by
  have KF := plfind_ok h hn hj
  obtain ⟨-, c1, c2, c3, c4, z⟩ := h.cells hj
  obtain ⟨h0, h1, h2, h3⟩ := h.head
  have z1 := z (j * 5 + 1)
  have z2 := z (j * 5 + 2)
  have z3 := z (j * 5 + 3)
  have z4 := z (j * 5 + 4)
  have HP : Hid (PAt base w g b gw mb sl ms n F R H rt mo s) := h
  by_cases e1 : (s.X j).st = 2
  · have E : draP s j = (0, empP ⟨updB s.X j ⟨(s.X j).hs, 3, (s.X j).may, (s.X j).load, (s.X j).wait⟩, s.N, s.T⟩ j) := if_pos e1
    rw [E]
    have KE := plebb_in h hn hj hb hN (.inl e1)
    rw [e1] at c1
    clear h z E e1 hb hN
    go_enter Try.func21, Try.ntmps21
    go_wp2_with (first | (go_at_call 45; refine KF.mono ?_; clear KF; rintro e w1 ⟨rfl, rfl⟩) | (go_at_call 49; refine KE.mono ?_; clear KE; rintro e w2 ⟨rfl, p2⟩))
    go_ret
    exact ⟨rfl, p2⟩
  · have E : draP s j = (5, s) := if_neg e1
    rw [E]
    clear h z E
    go_enter Try.func21, Try.ntmps21
    go_wp2_with (go_at_call 45; refine KF.mono ?_; clear KF; rintro e w1 ⟨rfl, rfl⟩)
    go_ret
    exact ⟨rfl, PPost.refl HP.out⟩
theorem plPut_in (h : PAt base w g b gw mb sl ms n F R H rt mo s) (hn : n ≤ 16) {j : Nat} (hj : j < n) (hb : base ≤ w.heap.size) (hN : s.N < 1000000000000000000) (l0 : 0 ≤ (s.X j).load) (lc : (s.X j).load ≤ 9000000000000000000) : Calls Try.prog 23 #[.pointer (some ⟨g, 0, none⟩), .int .i64 (j : Int)] w fun e w' => e = .returned (.int .i64 (putP s j).1) ∧ PPost base w g b gw mb sl ms n F R H rt mo (putP s j).2 w' := by
  have KF := plfind_ok h hn hj
  obtain ⟨-, c1, c2, c3, c4, z⟩ := h.cells hj
  obtain ⟨h0, h1, h2, h3⟩ := h.head
  have z1 := z (j * 5 + 1)
  have z2 := z (j * 5 + 2)
  have z3 := z (j * 5 + 3)
  have z4 := z (j * 5 + 4)
  have HP : Hid (PAt base w g b gw mb sl ms n F R H rt mo s) := h
  by_cases e1 : (s.X j).load = 0
  · have E : putP s j = (5, s) := if_pos e1
    rw [E]
    rw [e1] at c3
    clear h z E e1
    go_enter Try.func23, Try.ntmps23
    go_wp2_with (go_at_call 45; refine KF.mono ?_; clear KF; rintro e w1 ⟨rfl, rfl⟩)
    go_ret
    exact ⟨rfl, PPost.refl HP.out⟩
  · obtain ⟨s2, hs2⟩ : ∃ s2 : Pl, s2 = ⟨updB s.X j ⟨(s.X j).hs, (s.X j).st, (s.X j).may, (s.X j).load - 1, (s.X j).wait⟩, s.N, s.T⟩ := ⟨_, rfl⟩
    have E : putP s j = (0, empP s2 j) := by rw [hs2]; exact if_neg e1
    rw [E]
    have hx2 : s2.X j = ⟨(s.X j).hs, (s.X j).st, (s.X j).may, (s.X j).load - 1, (s.X j).wait⟩ := by rw [hs2]; exact updB_at _ _ _
    have hN2 : s2.N < 1000000000000000000 := by rw [hs2]; exact hN
    have P2 : Hid (PAt base (w.setCell ⟨b, j * 5 + 3, none⟩ (.int .i64 ((s.X j).load - 1))) g b gw mb sl ms n F R H rt mo s2) := by rw [hs2]; exact h.pload hj _
    have F2 : Hid (Fr (PX b gw mb sl ms n) w (w.setCell ⟨b, j * 5 + 3, none⟩ (.int .i64 ((s.X j).load - 1)))) := (Fr.refl (S := PX b gw mb sl ms n) _).setS (.inl rfl) _ _
    by_cases e3 : (s.X j).st = 3
    · have KE := plebb_in P2.out hn hj (Nat.le_trans hb F2.out.size) hN2 (.inr (by rw [hx2]; exact e3))
      have e5 : (⟨updB s2.X j ⟨(s2.X j).hs, 3, (s2.X j).may, (s2.X j).load, (s2.X j).wait⟩, s2.N, s2.T⟩ : Pl) = s2 := by
        have : (⟨(s2.X j).hs, 3, (s2.X j).may, (s2.X j).load, (s2.X j).wait⟩ : Bk) = s2.X j := by rw [hx2, ← e3]
        rw [this, updB_self]
      rw [e5] at KE
      rw [e3] at c1
      clear h z E e3 hb hN hs2 hx2 hN2 e5
      go_enter Try.func23, Try.ntmps23
      go_wp2_with (first | (go_at_call 45; refine KF.mono ?_; clear KF; rintro e w1 ⟨rfl, rfl⟩) | (go_at_call 49; refine KE.mono ?_; clear KE; rintro e w2 ⟨rfl, sl2, p2, f2⟩))
      go_ret
      exact ⟨rfl, sl2, p2, F2.out.trans f2⟩
    · have e4 : empP s2 j = s2 := by unfold empP; rw [hx2, if_neg (fun e => e3 e.1)]
      rw [e4]
      clear h z E hb hN hs2 hx2 hN2 e4
      go_enter Try.func23, Try.ntmps23
      go_wp2_with (go_at_call 45; refine KF.mono ?_; clear KF; rintro e w1 ⟨rfl, rfl⟩)
      go_ret
      exact ⟨rfl, sl, P2.out, F2.out⟩
theorem plProbe_in (h : PAt base w g b gw mb sl ms n F R H rt mo s) (hn : n ≤ 16) {j : Nat} (hj : j < n) (v : Bool) (hF : 1 ≤ F) {c : Int} (hi : InvH F c (s.X j).hs) (hc : c ≤ 9000000000000000000) : Calls Try.prog 24 #[.pointer (some ⟨g, 0, none⟩), .int .i64 (j : Int), .bool v] w fun e w' => e = .returned (.int .i64 0) ∧ PPost base w g b gw mb sl ms n F R H rt mo (prbP F R H s j v) w' := by
  have KF := plfind_ok h hn hj
  obtain ⟨c0, -, -, -, -, -⟩ := h.cells hj
  have KP := eProbe_in v (ms j) F R H c (s.X j).hs w (h.mod j hj) hF hi hc
  have HP : Hid (PAt base w g b gw mb sl ms n F R H rt mo s) := h
  clear h hi hc
  go_enter Try.func24, Try.ntmps24
  go_wp2_with (first | (go_at_call 45; refine KF.mono ?_; clear KF; rintro e w1 ⟨rfl, rfl⟩) | (go_at_call 50; refine KP.mono ?_; clear KP; rintro e w2 ⟨rfl, p2, f2⟩))
  go_ret
  exact ⟨rfl, sl, HP.out.phs hj p2 f2, f2.mono (fun k _ e => .inr (.inl ⟨j, hj, e⟩))⟩
end
end Go.Proofs.Ytoiencoojkahmaa
