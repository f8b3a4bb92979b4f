/- Which setups may be: the walk. -/
import Derived.Test.YtpjbgjgaigkbcaaGreatKe
namespace Go.Proofs.YtpjbgjgaigkbcaaGreat
open Go.RowKit Go.Maps
set_option linter.unusedVariables false
set_option linter.unusedSimpArgs false
set_option maxRecDepth 100000
set_option maxHeartbeats 4000000

theorem kNew_no (s : Stp) (w : World) (h : stpB s = false) : Calls Tryz.prog 4 #[.agg #[.bool s.server, .int .i64 s.streams, .int .i64 s.window, .int .i64 s.frame, .int .i64 s.list, .int .i64 s.table, .int .i64 s.queue]] w fun e w' => e = .returned (.tuple #[.pointer none, .int .i64 1]) ∧ Fr (fun _ => False) w w' := by
  obtain ⟨W, hW⟩ : ∃ W, W = w.alloc (.cells #[.bool s.server, .int .i64 s.streams, .int .i64 s.window, .int .i64 s.frame, .int .i64 s.list, .int .i64 s.table, .int .i64 s.queue] 23) := ⟨_, rfl⟩
  have HFW : Hid (Fr (fun _ => False) w W) := by rw [hW]; exact (Fr.refl _ _).alloc _
  have KF := fits_in s W
  rw [h] at KF
  clear h
  go_enter Tryz.func4, Tryz.ntmps4
  go_wp2_with (fail)
  rw [← hW]
  clear hW
  refine KF.mono ?_
  clear KF
  rintro e w1 ⟨rfl, f1⟩
  go_wp2_with (fail)
  go_ret2
  exact ⟨rfl, HFW.out.trans f1⟩
theorem greetN_eq (sv : Bool) (st wd fr ls tb : Nat) : greetN sv (offY sv st wd fr ls tb) = if sv then 45 else 63 := by
  unfold greetN
  rw [greet_len]
  cases sv <;> rfl
theorem awake15_in (w : World) : Calls Tryz.prog 5 #[] w fun e w' => e = .returned (.bool true) ∧ Fr (fun _ => False) w w' := by
  have KP := Plain15_in false w
  have KN : Hid (∀ w, Calls Tryz.prog 4 #[.agg #[.bool false, .int .i64 5, .int .i64 1000, .int .i64 16384, .int .i64 4000, .int .i64 4096, .int .i64 300]] w (NewAs w 63)) := fun w => by
    have hk := kNew_yes false 5 1000 16384 4000 4096 300 w (by omega) (by omega) (by omega) (by omega) (by omega) (by omega) (by omega)
    rw [greetN_eq] at hk
    exact hk
  have KW : Hid (∀ c w, ConnAt w c 63 → Calls Tryz.prog 23 #[.pointer (some ⟨c, 0, none⟩)] w fun e w' => e = .returned (.int .i64 63) ∧ Fr (fun _ => False) w w') := fun c w h => Waiting_in c 63 w h (by omega)
  have KX : Hid (∀ c w, ConnAt w c 63 → Calls Tryz.prog 9 #[.pointer (some ⟨c, 0, none⟩)] w fun e w' => e = .returned (.int .i64 (-1)) ∧ w = w') := fun c w h => Failed15_in c 63 w h
  go_enter Tryz.func5, Tryz.ntmps5
  go_wp2_with (first
    | (go_at_call 22; refine KP.mono ?_; clear KP; rintro e w1 ⟨rfl, f1⟩)
    | (go_at_call 4; refine (KN.out _).mono ?_; clear KN; rintro e w2 ⟨c, rfl, hc2, f2⟩; have H2 : Hid (ConnAt w2 c 63) := hc2; clear hc2)
    | (go_at_call 23; refine (KW.out _ _ H2.out).mono ?_; clear KW; rintro e w3 ⟨rfl, f3⟩; have H3 : Hid (ConnAt w3 c 63) := H2.out.later f3)
    | (go_at_call 9; refine (KX.out _ _ H3.out).mono ?_; clear KX; rintro e w4 ⟨rfl, rfl⟩))
  go_ret
  exact ⟨rfl, (f1.trans f2).trans f3⟩

theorem setups_no (s : Stp) (w : World) (h : stpB s = false) : Calls Tryz.prog 3 #[.agg #[.bool s.server, .int .i64 s.streams, .int .i64 s.window, .int .i64 s.frame, .int .i64 s.list, .int .i64 s.table, .int .i64 s.queue]] w fun e w' => e = .returned (.bool true) ∧ Fr (fun _ => False) w w' := by
  obtain ⟨W, hW⟩ : ∃ W, W = w.alloc (.cells #[.bool s.server, .int .i64 s.streams, .int .i64 s.window, .int .i64 s.frame, .int .i64 s.list, .int .i64 s.table, .int .i64 s.queue] 23) := ⟨_, rfl⟩
  have HFW : Hid (Fr (fun _ => False) w W) := by rw [hW]; exact (Fr.refl _ _).alloc _
  have HBX : Hid (W.heap[w.heap.size]? = some (.cells #[.bool s.server, .int .i64 s.streams, .int .i64 s.window, .int .i64 s.frame, .int .i64 s.list, .int .i64 s.table, .int .i64 s.queue] 23 (0, 0))) := by rw [hW]; exact heap_alloc_new w _
  have KN := kNew_no s W h
  have KA : Hid (∀ w, Calls Tryz.prog 5 #[] w fun e w' => e = .returned (.bool true) ∧ Fr (fun _ => False) w w') := fun w => awake15_in w
  have HB : Hid (stpB s = false) := h
  clear h
  go_enter Tryz.func3, Tryz.ntmps3
  go_wp2_with (fail)
  rw [← hW]
  clear hW
  refine KN.mono ?_
  clear KN
  rintro e w1 ⟨rfl, f1⟩
  go_upto_region 2 with (fail)
  have HB1 : Hid (w1.heap[w.heap.size]? = some (.cells #[.bool s.server, .int .i64 s.streams, .int .i64 s.window, .int .i64 s.frame, .int .i64 s.list, .int .i64 s.table, .int .i64 s.queue] 23 (0, 0))) := (f1.block _ (lt_of_heap HBX.out) id).trans HBX.out
  go_cut [5] (fun s5 wc => s5 = .bool false ∧ w1 = wc)
  case first =>
    have h := HB.out
    unfold stpB at h
    have c1 : w1.cell? ⟨w.heap.size, 1, none⟩ = some (.int .i64 s.streams) := cell_of_heap HB1.out rfl
    have c2 : w1.cell? ⟨w.heap.size, 2, none⟩ = some (.int .i64 s.window) := cell_of_heap HB1.out rfl
    have c3 : w1.cell? ⟨w.heap.size, 3, none⟩ = some (.int .i64 s.frame) := cell_of_heap HB1.out rfl
    have c4 : w1.cell? ⟨w.heap.size, 4, none⟩ = some (.int .i64 s.list) := cell_of_heap HB1.out rfl
    have c5 : w1.cell? ⟨w.heap.size, 5, none⟩ = some (.int .i64 s.table) := cell_of_heap HB1.out rfl
    have c6 : w1.cell? ⟨w.heap.size, 6, none⟩ = some (.int .i64 s.queue) := cell_of_heap HB1.out rfl
    cases h0 : btw 0 s.streams 1024
    · rcases btw_not h0 with n0 | n0
      · clear h h0
        have m0 : ¬ 0 ≤ s.streams := by omega
        go_wp2_with (fail)
        go_meet
        case rel => exact ⟨rfl, rfl⟩
      · clear h h0
        have m0 : 0 ≤ s.streams := by omega
        have q0 : ¬ s.streams ≤ 1024 := by omega
        go_wp2_with (fail)
        go_meet
        case rel => exact ⟨rfl, rfl⟩
    · cases h1 : btw 0 s.window 2147483647
      · obtain ⟨l0, r0⟩ := btw_yes h0
        rcases btw_not h1 with n1 | n1
        · clear h h0 h1
          have m1 : ¬ 0 ≤ s.window := by omega
          go_wp2_with (fail)
          go_meet
          case rel => exact ⟨rfl, rfl⟩
        · clear h h0 h1
          have m1 : 0 ≤ s.window := by omega
          have q1 : ¬ s.window ≤ 2147483647 := by omega
          go_wp2_with (fail)
          go_meet
          case rel => exact ⟨rfl, rfl⟩
      · cases h2 : btw 16384 s.frame 16777215
        · obtain ⟨l0, r0⟩ := btw_yes h0
          obtain ⟨l1, r1⟩ := btw_yes h1
          rcases btw_not h2 with n2 | n2
          · clear h h0 h1 h2
            have m2 : ¬ 16384 ≤ s.frame := by omega
            go_wp2_with (fail)
            go_meet
            case rel => exact ⟨rfl, rfl⟩
          · clear h h0 h1 h2
            have m2 : 16384 ≤ s.frame := by omega
            have q2 : ¬ s.frame ≤ 16777215 := by omega
            go_wp2_with (fail)
            go_meet
            case rel => exact ⟨rfl, rfl⟩
        · cases h3 : btw 0 s.list 2147483647
          · obtain ⟨l0, r0⟩ := btw_yes h0
            obtain ⟨l1, r1⟩ := btw_yes h1
            obtain ⟨l2, r2⟩ := btw_yes h2
            rcases btw_not h3 with n3 | n3
            · clear h h0 h1 h2 h3
              have m3 : ¬ 0 ≤ s.list := by omega
              go_wp2_with (fail)
              go_meet
              case rel => exact ⟨rfl, rfl⟩
            · clear h h0 h1 h2 h3
              have m3 : 0 ≤ s.list := by omega
              have q3 : ¬ s.list ≤ 2147483647 := by omega
              go_wp2_with (fail)
              go_meet
              case rel => exact ⟨rfl, rfl⟩
          · cases h4 : btw 0 s.table 65536
            · obtain ⟨l0, r0⟩ := btw_yes h0
              obtain ⟨l1, r1⟩ := btw_yes h1
              obtain ⟨l2, r2⟩ := btw_yes h2
              obtain ⟨l3, r3⟩ := btw_yes h3
              rcases btw_not h4 with n4 | n4
              · clear h h0 h1 h2 h3 h4
                have m4 : ¬ 0 ≤ s.table := by omega
                go_wp2_with (fail)
                go_meet
                case rel => exact ⟨rfl, rfl⟩
              · clear h h0 h1 h2 h3 h4
                have m4 : 0 ≤ s.table := by omega
                have q4 : ¬ s.table ≤ 65536 := by omega
                go_wp2_with (fail)
                go_meet
                case rel => exact ⟨rfl, rfl⟩
            · cases h5 : btw 0 s.queue 1048576
              · obtain ⟨l0, r0⟩ := btw_yes h0
                obtain ⟨l1, r1⟩ := btw_yes h1
                obtain ⟨l2, r2⟩ := btw_yes h2
                obtain ⟨l3, r3⟩ := btw_yes h3
                obtain ⟨l4, r4⟩ := btw_yes h4
                rcases btw_not h5 with n5 | n5
                · clear h h0 h1 h2 h3 h4 h5
                  have m5 : ¬ 0 ≤ s.queue := by omega
                  go_wp2_with (fail)
                  go_meet
                  case rel => exact ⟨rfl, rfl⟩
                · clear h h0 h1 h2 h3 h4 h5
                  have m5 : 0 ≤ s.queue := by omega
                  have q5 : ¬ s.queue ≤ 1048576 := by omega
                  go_wp2_with (fail)
                  go_meet
                  case rel => exact ⟨rfl, rfl⟩
              · exfalso
                simp [h0, h1, h2, h3, h4, h5] at h
  case rest =>
    obtain ⟨rfl, rfl⟩ := hcut
    go_wp2_with (go_at_call 5; refine (KA.out _).mono ?_; clear KA; rintro e w2 ⟨rfl, f2⟩)
    go_ret
    exact ⟨rfl, (HFW.out.trans f1).trans f2⟩
theorem setups_yes (sv : Bool) (st wd fr ls tb qu : Nat) (w : World) (h1 : st ≤ 1024) (h2 : wd ≤ 2147483647) (h3 : 16384 ≤ fr) (h4 : fr ≤ 16777215) (h5 : ls ≤ 2147483647) (h6 : tb ≤ 65536) (h7 : qu ≤ 1048576) :
    Calls Tryz.prog 3 #[.agg #[.bool sv, .int .i64 (st : Int), .int .i64 (wd : Int), .int .i64 (fr : Int), .int .i64 (ls : Int), .int .i64 (tb : Int), .int .i64 (qu : Int)]] w fun e w' => e = .returned (.bool true) ∧ Fr (fun _ => False) w w' := by
  obtain ⟨W, hW⟩ : ∃ W, W = w.alloc (.cells #[.bool sv, .int .i64 (st : Int), .int .i64 (wd : Int), .int .i64 (fr : Int), .int .i64 (ls : Int), .int .i64 (tb : Int), .int .i64 (qu : Int)] 23) := ⟨_, rfl⟩
  have HFW : Hid (Fr (fun _ => False) w W) := by rw [hW]; exact (Fr.refl _ _).alloc _
  have HBX : Hid (W.heap[w.heap.size]? = some (.cells #[.bool sv, .int .i64 (st : Int), .int .i64 (wd : Int), .int .i64 (fr : Int), .int .i64 (ls : Int), .int .i64 (tb : Int), .int .i64 (qu : Int)] 23 (0, 0))) := by rw [hW]; exact heap_alloc_new w _
  obtain ⟨n, hn⟩ : ∃ n, greetN sv (offY sv st wd fr ls tb) = n := ⟨_, rfl⟩
  have KN := kNew_yes sv st wd fr ls tb qu W h1 h2 h3 h4 h5 h6 h7
  rw [hn] at KN
  have KA : Hid (∀ w, Calls Tryz.prog 5 #[] w fun e w' => e = .returned (.bool true) ∧ Fr (fun _ => False) w w') := fun w => awake15_in w
  have KR : Hid (∀ c w, ConnAt w c n → Calls Tryz.prog 6 #[.pointer (some ⟨c, 0, none⟩)] w fun e w' => e = .returned (.bool false) ∧ w = w') := fun c w h => Ready_in c n w h
  have KL : Hid (∀ c w, ConnAt w c n → Calls Tryz.prog 7 #[.pointer (some ⟨c, 0, none⟩)] w fun e w' => e = .returned (.int .i64 0) ∧ w = w') := fun c w h => Slots_in c n w h
  have KS : Hid (∀ c w, ConnAt w c n → Calls Tryz.prog 8 #[.pointer (some ⟨c, 0, none⟩)] w fun e w' => e = .returned (.slice none 0 0) ∧ Fr (fun _ => False) w w') := fun c w h => Streams15_in c n w h
  have KX : Hid (∀ c w, ConnAt w c n → Calls Tryz.prog 9 #[.pointer (some ⟨c, 0, none⟩)] w fun e w' => e = .returned (.int .i64 (-1)) ∧ w = w') := fun c w h => Failed15_in c n w h
  have g1 : (0 : Int) ≤ (st : Int) := by omega
  have g2 : (st : Int) ≤ 1024 := by omega
  have g3 : (0 : Int) ≤ (wd : Int) := by omega
  have g4 : (wd : Int) ≤ 2147483647 := by omega
  have g5 : (16384 : Int) ≤ (fr : Int) := by omega
  have g6 : (fr : Int) ≤ 16777215 := by omega
  have g7 : (0 : Int) ≤ (ls : Int) := by omega
  have g8 : (ls : Int) ≤ 2147483647 := by omega
  have g9 : (0 : Int) ≤ (tb : Int) := by omega
  have g10 : (tb : Int) ≤ 65536 := by omega
  have g11 : (0 : Int) ≤ (qu : Int) := by omega
  have g12 : (qu : Int) ≤ 1048576 := by omega
  clear hn
  go_enter Tryz.func3, Tryz.ntmps3
  go_wp2_with (fail)
  rw [← hW]
  clear hW
  refine KN.mono ?_
  clear KN
  rintro e w1 ⟨c, rfl, hc1, f1⟩
  have H1 : Hid (ConnAt w1 c n) := hc1
  clear hc1
  have HB1 : Hid (w1.heap[w.heap.size]? = some (.cells #[.bool sv, .int .i64 (st : Int), .int .i64 (wd : Int), .int .i64 (fr : Int), .int .i64 (ls : Int), .int .i64 (tb : Int), .int .i64 (qu : Int)] 23 (0, 0))) := (f1.block _ (lt_of_heap HBX.out) id).trans HBX.out
  have c1 : w1.cell? ⟨w.heap.size, 1, none⟩ = some (.int .i64 (st : Int)) := cell_of_heap HB1.out rfl
  have c2 : w1.cell? ⟨w.heap.size, 2, none⟩ = some (.int .i64 (wd : Int)) := cell_of_heap HB1.out rfl
  have c3 : w1.cell? ⟨w.heap.size, 3, none⟩ = some (.int .i64 (fr : Int)) := cell_of_heap HB1.out rfl
  have c4 : w1.cell? ⟨w.heap.size, 4, none⟩ = some (.int .i64 (ls : Int)) := cell_of_heap HB1.out rfl
  have c5 : w1.cell? ⟨w.heap.size, 5, none⟩ = some (.int .i64 (tb : Int)) := cell_of_heap HB1.out rfl
  have c6 : w1.cell? ⟨w.heap.size, 6, none⟩ = some (.int .i64 (qu : Int)) := cell_of_heap HB1.out rfl
  go_upto_region 5 with (fail)
  clear c1 c2 c3 c4 c5 c6
  go_wp2_with (first
    | (go_at_call 6; refine (KR.out _ _ H1.out).mono ?_; clear KR; rintro e w2 ⟨rfl, rfl⟩)
    | (go_at_call 7; refine (KL.out _ _ H1.out).mono ?_; clear KL; rintro e w2 ⟨rfl, rfl⟩)
    | (go_at_call 8; refine (KS.out _ _ H1.out).mono ?_; clear KS; rintro e w3 ⟨rfl, f3⟩; have H3 : Hid (ConnAt w3 c n) := H1.out.later f3)
    | (go_at_call 9; refine (KX.out _ _ H3.out).mono ?_; clear KX; rintro e w4 ⟨rfl, rfl⟩)
    | (go_at_call 5; refine (KA.out _).mono ?_; clear KA; rintro e w5 ⟨rfl, f5⟩))
  go_ret
  exact ⟨rfl, ((HFW.out.trans f1).trans f3).trans f5⟩
theorem setups_walk (s : Stp) (w : World) : Calls Tryz.prog 3 #[.agg #[.bool s.server, .int .i64 s.streams, .int .i64 s.window, .int .i64 s.frame, .int .i64 s.list, .int .i64 s.table, .int .i64 s.queue]] w fun e w' => e = .returned (.bool true) ∧ Below w.heap.size w w' := by
  cases h : stpB s
  · refine (setups_no s w h).mono ?_
    rintro e w' ⟨he, hf⟩
    exact ⟨he, hf.below (fun _ _ => id)⟩
  · unfold stpB at h
    simp only [Bool.and_eq_true] at h
    obtain ⟨⟨⟨⟨⟨h0, h1⟩, h2⟩, h3⟩, h4⟩, h5⟩ := h
    obtain ⟨l0, r0⟩ := btw_yes h0
    obtain ⟨l1, r1⟩ := btw_yes h1
    obtain ⟨l2, r2⟩ := btw_yes h2
    obtain ⟨l3, r3⟩ := btw_yes h3
    obtain ⟨l4, r4⟩ := btw_yes h4
    obtain ⟨l5, r5⟩ := btw_yes h5
    obtain ⟨sv, a0, a1, a2, a3, a4, a5⟩ := s
    dsimp only at l0 l1 l2 l3 l4 l5 r0 r1 r2 r3 r4 r5 ⊢
    obtain ⟨st, rfl⟩ := Int.eq_ofNat_of_zero_le l0
    obtain ⟨wd, rfl⟩ := Int.eq_ofNat_of_zero_le l1
    obtain ⟨fr, rfl⟩ := Int.eq_ofNat_of_zero_le (show (0 : Int) ≤ a2 by omega)
    obtain ⟨ls, rfl⟩ := Int.eq_ofNat_of_zero_le l3
    obtain ⟨tb, rfl⟩ := Int.eq_ofNat_of_zero_le l4
    obtain ⟨qu, rfl⟩ := Int.eq_ofNat_of_zero_le l5
    refine (setups_yes sv st wd fr ls tb qu w (by omega) (by omega) (by omega) (by omega) (by omega) (by omega) (by omega)).mono ?_
    rintro e w' ⟨he, hf⟩
    exact ⟨he, hf.below (fun _ _ => id)⟩
end Go.Proofs.YtpjbgjgaigkbcaaGreat
