/- The walk of HealthHolds. -/
import Derived.Test.YtdjmgfdobjgniaaEk
namespace Go.Proofs.Ytdjmgfdobjgniaa
open Go.RowKit
set_option linter.unusedVariables false
set_option maxRecDepth 100000
set_option maxHeartbeats 4000000

theorem zero_rule (w : World) : (zeroValue 23).run Try.prog w = .ok (.agg #[.int .i64 0, .int .i64 0, .int .i64 0]) w := by kernel_rfl
/-- A model's state behind i bad probes, with nothing held before. -/
def stO (f h i : Nat) : Hs := if i < f then ⟨false, (i : Int), 0⟩ else ⟨true, 0, (h : Int)⟩
theorem inv_o {f h i : Nat} (hf : 1 ≤ f) (h5 : f ≤ 5) (hh : h ≤ 19) : InvH (f : Int) 1000 (stO f h i) := by
  unfold stO
  split
  · exact ⟨by show (0 : Int) ≤ (i : Int); omega, by show (i : Int) ≤ _; omega, fun _ => by show (i : Int) < _; omega, by simp, by simp⟩
  · exact ⟨by simp, by simp, fun e => by simp at e, by show (0 : Int) ≤ (h : Int); omega, by show (h : Int) ≤ _; omega⟩
theorem inv_d {f P t : Nat} (hP : P ≤ 100) (ht : t ≤ 100) : InvH (f : Int) 1000 ⟨true, (P : Int), (t : Int)⟩ :=
  ⟨by show (0 : Int) ≤ (P : Int); omega, by show (P : Int) ≤ _; omega, fun e => by simp at e, by show (0 : Int) ≤ (t : Int); omega, by show (t : Int) ≤ _; omega⟩
theorem eholds_walk (a0 a1 a2 a3 : Nat) (h0 : a0 ≤ 255) (h1 : a1 ≤ 255) (h2 : a2 ≤ 255) (h3 : a3 ≤ 255) (w : World) : Calls Try.prog 7 #[.int .u8 (a0 : Int), .int .u8 (a1 : Int), .int .u8 (a2 : Int), .int .u8 (a3 : Int)] w fun e w' => e = .returned (.bool true) ∧ Below w.heap.size w w' := by
  have hz := zero_rule
  obtain ⟨f, hf⟩ : ∃ n, n = 1 + a0 % 5 := ⟨_, rfl⟩
  obtain ⟨r, hr⟩ : ∃ n, n = 1 + a1 % 5 := ⟨_, rfl⟩
  obtain ⟨h, hh⟩ : ∃ n, n = a2 % 20 := ⟨_, rfl⟩
  have hfa : (1 : Int) + (a0 : Int) % 5 = (f : Int) := by omega
  have hra : (1 : Int) + (a1 : Int) % 5 = (r : Int) := by omega
  have hha : (a2 : Int) % 20 = (h : Int) := by omega
  have bf : 1 ≤ f ∧ f ≤ 5 := by omega
  have br : 1 ≤ r ∧ r ≤ 5 := by omega
  have bh : h ≤ 19 := by omega
  obtain ⟨p, hp⟩ : ∃ n, n = a3 % 3 := ⟨_, rfl⟩
  have hpa : (a3 : Int) % 3 = (p : Int) := by omega
  have bp : p ≤ 2 := by omega
  have KA : Hid (∀ w, Calls Try.prog 17 #[] w fun e w' => e = .returned (.bool true) ∧ Fr (fun _ => False) w w') := fun w => eawake_in w
  have HR : Hid (OkR (f : Int) (r : Int) (h : Int)) := ⟨by omega, by omega, by omega, by omega, by omega, by omega⟩
  have KN := fun w => eNew_yes (f : Int) (r : Int) (h : Int) w HR.out
  clear hf hr hh hp
  go_enter Try.func7, Try.ntmps7
  go_upto_region 2 with (fail)
  obtain ⟨wa, hwa⟩ : ∃ wa, wa = w.alloc (Obj.cells #[.int .i64 (f : Int), .int .i64 (r : Int), .int .i64 (h : Int)] 23) := ⟨_, rfl⟩
  obtain ⟨go, hgo⟩ : ∃ go, go = w.heap.size := ⟨_, rfl⟩
  have Fa : Hid (Fr (fun _ => False) w wa) := by rw [hwa]; exact (Fr.refl _ _).alloc _
  have ba : wa.heap[go]? = some (.cells #[.int .i64 (f : Int), .int .i64 (r : Int), .int .i64 (h : Int)] 23 (0, 0)) := by rw [hwa, hgo]; exact heap_alloc_new _ _
  have c0 : wa.cell? ⟨go, 0, none⟩ = some (.int .i64 (f : Int)) := cell_of_heap ba rfl
  have c1 : wa.cell? ⟨go, 1, none⟩ = some (.int .i64 (r : Int)) := cell_of_heap ba rfl
  have c2 : wa.cell? ⟨go, 2, none⟩ = some (.int .i64 (h : Int)) := cell_of_heap ba rfl
  have HB : Hid (wa.heap[go]? = some (.cells #[.int .i64 (f : Int), .int .i64 (r : Int), .int .i64 (h : Int)] 23 (0, 0))) := ba
  rw [← hwa, ← hgo]
  clear hwa hgo ba hz hfa hra hha
  go_upto_region 5 with (go_at_call 8; refine (KN _).mono ?_; clear KN; rintro e w1 ⟨g, hg, rfl, h1, f1⟩)
  have HS0 : Hid (OneH w w1 g go (f : Int) (r : Int) (h : Int) 1000 (stO f h 0)) := by
    refine ⟨?_, (f1.block go (lt_of_heap HB.out) id).trans HB.out, inv_o bf.1 bf.2 bh, Nat.le_trans Fa.out.size hg, (Fa.out.trans f1).mono (fun _ _ e => e.elim)⟩
    unfold stO
    rw [if_pos (by omega)]
    exact h1
  clear hg h1 f1 Fa HB c0 c1 c2
  go_wp2_with (fail)
  go_loopw [12] (fun x12 wr => ∃ (i : Nat), x12 = .int .i64 (i : Int) ∧ i ≤ f ∧ Hid (OneH w wr g go (f : Int) (r : Int) (h : Int) 1000 (stO f h i))) (fun x12 _ => f - (intOf x12).toNat)
  case atStart => exact ⟨0, rfl, by omega, HS0.out⟩
  case round =>
    clear HS0
    obtain ⟨i, rfl, hin, HS⟩ := hrel
    have c0 : wr.cell? ⟨go, 0, none⟩ = some (.int .i64 (f : Int)) := cell_of_heap HS.out.box rfl
    by_cases hlt : i < f
    · have hlt2 : (i : Int) < (f : Int) := by omega
      have HE : stO f h i = ⟨false, (i : Int), 0⟩ := by unfold stO; rw [if_pos hlt]
      have HE2 : Hid (prbS (f : Int) (r : Int) (h : Int) false (stO f h i) = stO f h (i + 1)) := by
        show _ = _
        rw [HE]
        unfold stO
        by_cases hk : i + 1 < f
        · rw [prb_more _ _ _ (by omega), if_pos hk]; simp
        · rw [prb_down _ _ _ (by omega), if_neg hk]
      have KU := eUp_in g f r h _ wr HS.out.prog HR.out.f1
      have KP := eProbe_in false g f r h 1000 _ wr HS.out.prog HR.out.f1 HS.out.inv (by omega)
      rw [HE2.out] at KP
      rw [HE] at KU
      dsimp only at KU
      clear HE
      go_wp2_with (first | (go_at_call 14; refine KU.mono ?_; clear KU; rintro e w' ⟨rfl, rfl⟩) | (go_at_call 13; refine KP.mono ?_; clear KP; rintro e w2 ⟨rfl, p2, f2⟩))
      go_roundw
      case rel => exact ⟨i + 1, by go_num, by omega, HS.out.step p2 f2 (inv_o bf.1 bf.2 bh)⟩
      case measure => simp [intOf]; omega
    · have hlt2 : ¬ (i : Int) < (f : Int) := by omega
      have HE : stO f h i = ⟨true, 0, (h : Int)⟩ := by unfold stO; rw [if_neg hlt]
      rw [HE] at HS
      clear HE
      have c2 : wr.cell? ⟨go, 2, none⟩ = some (.int .i64 (h : Int)) := cell_of_heap HS.out.box rfl
      have KU : Hid (∀ k, Calls Try.prog 14 #[.pointer (some ⟨g, 0, none⟩)] (wr.drewN k) fun e w' => e = .returned (.bool false) ∧ w' = wr.drewN k) := fun k => (eUp_in g f r h _ _ (HS.out.prog.fr ((Fr.refl (fun _ => False) _).drewN k) id) HR.out.f1).mono (fun e w' h => ⟨h.1, h.2.symm⟩)
      have KH : Hid (∀ k, Calls Try.prog 16 #[.pointer (some ⟨g, 0, none⟩)] (wr.drewN k) fun e w' => e = .returned (.int .i64 (h : Int)) ∧ w' = wr.drewN k) := fun k => (eHold_in g f r h _ _ (HS.out.prog.fr ((Fr.refl (fun _ => False) _).drewN k) id) HR.out.f1).mono (fun e w' h => ⟨h.1, h.2.symm⟩)
      go_upto_region 10 with (fail)
      go_quiet (first | (go_at_call 14; exact Calls.quiet_of_same (KU.out _)) | (go_at_call 16; exact Calls.quiet_of_same (KH.out _)))
      have HS1 : Hid (OneH w (wr.drewN nq) g go (f : Int) (r : Int) (h : Int) 1000 ⟨true, ((0 : Nat) : Int), (h : Int)⟩) := ⟨HS.out.prog.fr ((Fr.refl (fun _ => False) _).drewN nq) id, HS.out.box, HS.out.inv, HS.out.bg, HS.out.fr.drewN nq⟩
      obtain ⟨wb, hwb⟩ : ∃ wb, wb = wr.drewN nq := ⟨_, rfl⟩
      rw [← hwb] at HS1 ⊢
      clear hwb KU KH c0 c2 HS hlt2 hlt hin
      go_wp2_with (fail)
      go_loopw [13, 14] (fun x13 x14 wq => ∃ (j P t : Nat), x13 = .int .i64 (P : Int) ∧ x14 = .int .i64 (j : Int) ∧ t + j = h ∧ P ≤ 2 * j ∧ Hid (OneH w wq g go (f : Int) (r : Int) (h : Int) 1000 ⟨true, (P : Int), (t : Int)⟩)) (fun _ x14 _ => h - (intOf x14).toNat)
      case atStart => exact ⟨0, 0, h, rfl, rfl, by omega, by omega, HS1.out⟩
      case round =>
        clear HS1
        obtain ⟨j, P, t, rfl, rfl, htj, hP, HS⟩ := hrel
        have c2 : wr.cell? ⟨go, 2, none⟩ = some (.int .i64 (h : Int)) := cell_of_heap HS.out.box rfl
        by_cases hlt : j < h
        · have hlt2 : (j : Int) < (h : Int) := by omega
          have HS1 : Hid (OneH w wr g go (f : Int) (r : Int) (h : Int) 1000 ⟨true, (P : Int), (t : Int)⟩) := HS.out
          clear HS
          go_wp2_with (fail)
          clear c2
          go_loopw [13, 15] (fun x13 x15 wq => ∃ (k Q : Nat), x13 = .int .i64 (Q : Int) ∧ x15 = .int .i64 (k : Int) ∧ k ≤ p ∧ Q ≤ 2 * j + k ∧ Hid (OneH w wq g go (f : Int) (r : Int) (h : Int) 1000 ⟨true, (Q : Int), (t : Int)⟩)) (fun _ x15 _ => p - (intOf x15).toNat)
          case atStart => exact ⟨0, P, rfl, rfl, by omega, by omega, HS1.out⟩
          case round =>
            clear HS1
            obtain ⟨k, Q, rfl, rfl, hkp, hQ, HS⟩ := hrel
            by_cases hkl : k < p
            · have hkl2 : (k : Int) < (p : Int) := by omega
              have KP := eProbe_in true g f r h 1000 _ wr HS.out.prog HR.out.f1 HS.out.inv (by omega)
              rw [prb_stay _ _ (.inr (by omega)), show ((Q : Int) + 1) = ((Q + 1 : Nat) : Int) by omega] at KP
              go_upto_region 21 with (go_at_call 13; refine KP.mono ?_; clear KP; rintro e w2 ⟨rfl, p2, f2⟩)
              have KU := eUp_in g f r h _ w2 p2 HR.out.f1
              dsimp only at KU
              have H2 : Hid (OneH w w2 g go (f : Int) (r : Int) (h : Int) 1000 ⟨true, ((Q + 1 : Nat) : Int), (t : Int)⟩) := HS.out.step p2 f2 (inv_d (by omega) (by omega))
              clear p2 f2 HS
              go_wp2_with (go_at_call 14; refine KU.mono ?_; clear KU; rintro e w' ⟨rfl, rfl⟩)
              go_roundw
              case rel => exact ⟨k + 1, Q + 1, by go_num, by go_num, by omega, by omega, H2.out⟩
              case measure => simp [intOf]; omega
            · have hkl2 : ¬ (k : Int) < (p : Int) := by omega
              have KT := eTick_in g f r h 1000 _ wr HS.out.prog HR.out.f1 HS.out.inv
              rw [tck_one _ _ (by omega), show ((t : Int) - 1) = ((t - 1 : Nat) : Int) by omega] at KT
              go_wp2_with (go_at_call 11; refine KT.mono ?_; clear KT; rintro e w2 ⟨rfl, p2, f2⟩)
              go_roundw
              case rel => exact ⟨j + 1, Q, t - 1, rfl, by go_num, by omega, by omega, HS.out.step p2 f2 (inv_d (by omega) (by omega))⟩
              case measure => simp [intOf]; omega
        · have hlt2 : ¬ (j : Int) < (h : Int) := by omega
          obtain rfl : t = 0 := by omega
          have hP2 : P ≤ 38 := by omega
          have HS1 : Hid (OneH w wr g go (f : Int) (r : Int) (h : Int) 1000 ⟨true, (P : Int), 0⟩) := HS.out
          clear HS htj hP
          go_wp2_with (fail)
          clear c2 hlt hlt2
          go_loopw [13] (fun x13 wq => ∃ (Q : Nat) (s : Hs), x13 = .int .i64 (Q : Int) ∧ Q ≤ 41 ∧ Hid (OneH w wq g go (f : Int) (r : Int) (h : Int) 1000 s) ∧ Hid ((s = ⟨true, (Q : Int), 0⟩ ∧ Q ≤ 40) ∨ s.d = false)) (fun x13 _ => 100 - (intOf x13).toNat)
          case atStart => exact ⟨P, _, rfl, by omega, HS1.out, .inl ⟨rfl, by omega⟩⟩
          case round =>
            clear HS1
            obtain ⟨Q, s, rfl, hQ, HS, HC⟩ := hrel
            have hQ2 : (Q : Int) < 100 := by omega
            have hQ3 : Q < 100 := by omega
            rcases HC.out with ⟨rfl, hQ4⟩ | hup
            · clear HC
              have KU := eUp_in g f r h _ wr HS.out.prog HR.out.f1
              have KP := eProbe_in true g f r h 1000 _ wr HS.out.prog HR.out.f1 HS.out.inv (by omega)
              dsimp only at KU
              have c1 : wr.cell? ⟨go, 1, none⟩ = some (.int .i64 (r : Int)) := cell_of_heap HS.out.box rfl
              by_cases hk : Q + 1 < r
              · have hk2 : (Q : Int) + 1 < (r : Int) := by omega
                rw [prb_stay _ _ (.inl hk2), show ((Q : Int) + 1) = ((Q + 1 : Nat) : Int) by omega] at KP
                go_upto_region 27 with (first | (go_at_call 14; refine KU.mono ?_; clear KU; rintro e w' ⟨rfl, rfl⟩) | (go_at_call 13; refine KP.mono ?_; clear KP; rintro e w2 ⟨rfl, p2, f2⟩))
                have H2 : Hid (OneH w w2 g go (f : Int) (r : Int) (h : Int) 1000 ⟨true, ((Q + 1 : Nat) : Int), 0⟩) := HS.out.step p2 f2 (inv_d (t := 0) (by omega) (by omega))
                clear p2 f2 HS c1
                have c1 : w2.cell? ⟨go, 1, none⟩ = some (.int .i64 (r : Int)) := cell_of_heap H2.out.box rfl
                have KV : Hid (∀ k, Calls Try.prog 14 #[.pointer (some ⟨g, 0, none⟩)] (w2.drewN k) fun e w' => e = .returned (.bool false) ∧ w' = w2.drewN k) := fun k => (eUp_in g f r h _ _ (H2.out.prog.fr ((Fr.refl (fun _ => False) _).drewN k) id) HR.out.f1).mono (fun e w' h => ⟨h.1, h.2.symm⟩)
                have hg1 : decide ((r : Int) ≤ (Q : Int) + 1) = false := decide_eq_false (by omega)
                go_quiet ((go_at_call 14; exact Calls.quiet_of_same (KV.out _)))
                go_wp2_with (fail)
                go_roundw
                case rel => exact ⟨Q + 1, _, by go_num, by omega, ⟨H2.out.prog.fr ((Fr.refl (fun _ => False) _).drewN _) id, H2.out.box, H2.out.inv, H2.out.bg, H2.out.fr.drewN _⟩, .inl ⟨rfl, by omega⟩⟩
                case measure => simp [intOf]; omega
              · have hk2 : ¬ ((Q : Int) + 1 < (r : Int) ∨ (0 : Int) < 0) := by omega
                have hk3 : (r : Int) ≤ (Q : Int) + 1 := by omega
                rw [prb_up _ _ hk2] at KP
                clear hk2
                go_upto_region 27 with (first | (go_at_call 14; refine KU.mono ?_; clear KU; rintro e w' ⟨rfl, rfl⟩) | (go_at_call 13; refine KP.mono ?_; clear KP; rintro e w2 ⟨rfl, p2, f2⟩))
                have H2 : Hid (OneH w w2 g go (f : Int) (r : Int) (h : Int) 1000 ⟨false, 0, 0⟩) := HS.out.step p2 f2 ((InvH.start HR.out).more (by omega))
                clear p2 f2 HS c1
                have c1 : w2.cell? ⟨go, 1, none⟩ = some (.int .i64 (r : Int)) := cell_of_heap H2.out.box rfl
                have KV : Hid (∀ k, Calls Try.prog 14 #[.pointer (some ⟨g, 0, none⟩)] (w2.drewN k) fun e w' => e = .returned (.bool true) ∧ w' = w2.drewN k) := fun k => (eUp_in g f r h _ _ (H2.out.prog.fr ((Fr.refl (fun _ => False) _).drewN k) id) HR.out.f1).mono (fun e w' h => ⟨h.1, h.2.symm⟩)
                have hg1 : decide ((r : Int) ≤ (Q : Int) + 1) = true := decide_eq_true hk3
                go_quiet ((go_at_call 14; exact Calls.quiet_of_same (KV.out _)))
                go_wp2_with (fail)
                go_roundw
                case rel => exact ⟨Q + 1, _, by go_num, by omega, ⟨H2.out.prog.fr ((Fr.refl (fun _ => False) _).drewN _) id, H2.out.box, H2.out.inv, H2.out.bg, H2.out.fr.drewN _⟩, .inr rfl⟩
                case measure => simp [intOf]; omega
            · have KU := eUp_in g f r h _ wr HS.out.prog HR.out.f1
              rw [hup] at KU
              clear HC hup
              go_wp2_with (first | (go_at_call 14; refine KU.mono ?_; rintro e w' ⟨rfl, rfl⟩) | (go_at_call 17; refine (KA.out _).mono ?_; rintro e w3 ⟨rfl, f3⟩))
              go_ret
              exact ⟨rfl, (HS.out.fr.trans (f3.mono (fun _ _ e => e.elim))).below (fun k hk e => by have : w.heap.size ≤ k := e; omega)⟩
end Go.Proofs.Ytdjmgfdobjgniaa
