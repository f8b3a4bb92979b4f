/- Contract of fall. -/
import Derived.Test.YtkipeifkfgbkeaaMU1
import Derived.Deep.WholeRow
namespace Go.Proofs.Ytkipeifkfgbkeaa
open Go.RowKit
set_option maxRecDepth 100000
set_option maxHeartbeats 4000000
set_option linter.unusedVariables false

theorem fall_nil (t m : Nat) (n : Int) (w : World) (h : TabAt w t true m 0 (.slice none 0 0)) :
    Calls Try.prog 39 #[.pointer (some ⟨t, 0, none⟩), .int .i64 n] w fun e w' => e = .returned (.tuple #[]) ∧ w' = w := by
  have h3 := h.c3
  go_enter Try.func39, Try.ntmps39
  go_wp2_with (fail)
  refine wp_loop_rounds 1 ?_
  rw [rounds_succ]
  go_wp2_with (fail)
  exact bodyPost_ret (results_none rfl _ _ _) rfl ⟨rfl, rfl⟩

theorem zero_hdr : ∀ n, ∀ v ∈ (Builtin.zeroCells (Value.agg #[.string ⟨#[]⟩, .string ⟨#[]⟩, .bool false]).cells n).toList, v.oneCell' = true := by
  intro n v hv
  have hall : ∀ u ∈ [Value.string ⟨#[]⟩, Value.string ⟨#[]⟩, Value.bool false], u.oneCell' = true := by intro u hu; simp at hu; rcases hu with rfl | rfl <;> rfl
  simp only [Builtin.zeroCells, Value.cells, Array.toList_map, List.mem_map] at hv
  obtain ⟨j, _, rfl⟩ := hv
  have hj : j % 3 < 3 := Nat.mod_lt _ (by omega)
  show ((#[Value.string ⟨#[]⟩, Value.string ⟨#[]⟩, Value.bool false] : Array Value)[j % 3]!).oneCell' = true
  match j % 3, hj with
  | 0, _ => rfl
  | 1, _ => rfl
  | 2, _ => rfl
theorem fall_some (t m g cap : Nat) (E : List (ByteArray × ByteArray)) (cur : Array Value) (n : Int) (w : World) (h : TabAt w t true m (total E) (.slice (some ⟨g, 0, none⟩) E.length cap))
    (hg : w.heap[g]? = some (.cells cur 59 (0, 0))) (hcs : cur.size = cap * 3) (hcap : E.length ≤ cap) (ht : cur.toList.take (E.length * 3) = cellsE E) (hT : total E < 2 ^ 60) (hn : -2 ^ 63 ≤ n) :
    Calls Try.prog 39 #[.pointer (some ⟨t, 0, none⟩), .int .i64 n] w fun e w' => e = .returned (.tuple #[]) ∧ ∃ cur', TabAt w' t true m (total (fallen n E)) (.slice (some ⟨g, 0, none⟩) (fallen n E).length cap) ∧
      w'.heap[g]? = some (.cells cur' 59 (0, 0)) ∧ cur'.size = cap * 3 ∧ cur'.toList.take ((fallen n E).length * 3) = cellsE (fallen n E) ∧ Fr (fun k => k = t ∨ k = g) w w' := by
  have h3 := h.c3
  have hne := h.ne hg
  go_enter Try.func39, Try.ntmps39
  go_wp2_with (fail)
  go_loopw [4] (fun x4 wr => ∃ i : Nat, x4 = .int .i64 (i : Int) ∧ i ≤ E.length ∧ fallen n (E.drop i) = fallen n E ∧ TabAt wr t true m (total (E.drop i)) (.slice (some ⟨g, 0, none⟩) E.length cap) ∧ Fr (fun k => k = t) w wr)
    (fun x4 wr => E.length - (intOf x4).toNat)
  case atStart => exact ⟨0, rfl, by omega, rfl, h, Fr.refl _ _⟩
  case round =>
    obtain ⟨i, rfl, hi, hfal, hTb, hfr⟩ := hrel
    have c2 := hTb.c2
    have c3 := hTb.c3
    have hg' : wr.heap[g]? = some (.cells cur 59 (0, 0)) := (hfr.block g (lt_of_heap hg) hne).trans hg
    obtain ⟨tot, htot⟩ : ∃ tot, total (E.drop i) = tot := ⟨_, rfl⟩
    rw [htot] at c2
    obtain ⟨L, hL⟩ : ∃ L, E.length = L := ⟨_, rfl⟩
    rw [hL] at c3 hi
    by_cases hgo : i < L ∧ n < (tot : Int)
    · obtain ⟨hlt, hb⟩ := hgo
      obtain ⟨e, he⟩ : ∃ e, E[i]? = some e := ⟨E[i]'(by omega), List.getElem?_eq_getElem _⟩
      obtain ⟨k0, k1, k2⟩ := row_cells (n := 0) (cap := 0) hg' ht he
      have hnext := total_drop he
      rw [htot] at hnext
      have hle := total_drop_le E i
      rw [htot] at hle
      have hesz : esz e = e.1.size + e.2.size + 32 := rfl
      have KS := fun w' => Size_in e.1 e.2 false w' (by omega) (by omega)
      rw [← hesz] at KS
      have hle2 := total_drop_le E (i + 1)
      have hfn := fallen_next (n := n) (E := E) (i := i) (by omega) (by rw [htot]; exact hb)
      obtain ⟨N, hN⟩ : ∃ N, esz e = N := ⟨_, rfl⟩
      obtain ⟨rs, hrs⟩ : ∃ rs, total (E.drop (i + 1)) = rs := ⟨_, rfl⟩
      rw [hN] at KS hnext
      rw [hrs] at hnext hle2
      have hsub : (tot : Int) - (N : Int) = (rs : Int) := by omega
      have hrs60 : rs < 2 ^ 60 := by omega
      have hL60 : L < 2 ^ 58 := by have := total_len E; omega
      have hd1 : decide ((i : Int) < (L : Int)) = true := decide_eq_true (by omega)
      have a2 : ∀ o, (wr.alloc o).cell? ⟨t, 2, none⟩ = some (.int .i64 (tot : Int)) := fun o => by have := (hTb.laid o).c2; rwa [htot] at this
      have a3 : ∀ o, (wr.alloc o).cell? ⟨t, 3, none⟩ = some (.slice (some ⟨g, 0, none⟩) L cap) := fun o => by have := (hTb.laid o).c3; rwa [hL] at this
      have z2 : ∀ o, (wr.alloc o).frozen? ⟨t, 2, none⟩ = false := fun o => frozen_of_heap (hTb.laid o)
      have hbb : (n : Int) < (tot : Int) := hb
      clear hnext hesz hN hle hle2
      have HT : Hid (TabAt wr t true m tot (.slice (some ⟨g, 0, none⟩) L cap)) := by rw [htot, hL] at hTb; exact hTb
      have HFR : Hid (Fr (fun k => k = t) w wr) := hfr
      have HFN : Hid (fallen n (E.drop (i + 1)) = fallen n E) := hfn.symm.trans hfal
      have HL : Hid (E.length = L) := hL
      have HRS : Hid (total (E.drop (i + 1)) = rs) := hrs
      clear hfn hfal hrs
      go_wp2_with (fail)
      go_region_with (go_at_call 32; refine (KS _).mono ?_; rintro e' w' ⟨rfl, rfl⟩)
      all_goals (go_wp2_with (fail); go_roundw)
      all_goals first
        | exact ⟨i + 1, rfl, by omega, HFN.out, by rw [HRS.out, HL.out]; exact heap_set _ (HT.out.laid _), ((HFR.out.alloc _).setCell ⟨t, 2, none⟩ (fun _ => rfl) _).drew⟩
        | (simp [intOf]; omega)
    · have hF : fallen n E = E.drop i := by
        rw [← hfal]
        by_cases hlt : i < L
        · exact fallen_stop (by rw [htot]; exact fun hb => hgo ⟨hlt, hb⟩)
        · rw [show E.drop i = [] from List.drop_eq_nil_of_le (by omega)]; rfl
      have HT : Hid (TabAt wr t true m tot (.slice (some ⟨g, 0, none⟩) L cap)) := by rw [htot, hL] at hTb; exact hTb
      have HFR : Hid (Fr (fun k => k = t) w wr) := hfr
      have HL : Hid (E.length = L) := hL
      have HTOT : Hid (total (E.drop i) = tot) := htot
      have hL60 : L < 2 ^ 58 := by have := total_len E; omega
      have hLcap : L ≤ cap := by omega
      rw [hL] at ht
      clear hfal hTb hfr
      by_cases h0 : i = 0
      · subst h0
        by_cases hlt : 0 < L
        case' pos =>
          have hd1 : decide ((0 : Int) < (L : Int)) = true := decide_eq_true (by omega)
          have hd2 : decide (n < (tot : Int)) = false := decide_eq_false (fun hb => hgo ⟨hlt, hb⟩)
          have hd3 : (tot : Int) ≤ n := by have := of_decide_eq_false hd2; omega
        case' neg => have hd1 : decide ((0 : Int) < (L : Int)) = false := decide_eq_false (by omega)
        all_goals go_wp2_with (fail)
        all_goals refine bodyPost_ret (results_none rfl _ _ _) rfl ⟨rfl, cur, ?_, hg', hcs, ?_, HFR.out.mono (fun k _ hk => .inl hk)⟩
        all_goals rw [hF]
        all_goals first
          | (show TabAt _ _ _ _ _ _; rw [HTOT.out, List.drop_zero, HL.out]; exact HT.out)
          | (rw [List.drop_zero, HL.out]; exact ht)
      · by_cases hlt : i < L
        case' pos =>
          have hd1 : decide ((i : Int) < (L : Int)) = true := decide_eq_true (by omega)
          have hd2 : decide (n < (tot : Int)) = false := decide_eq_false (fun hb => hgo ⟨hlt, hb⟩)
          have hd3 : (tot : Int) ≤ n := by have := of_decide_eq_false hd2; omega
        case' neg => have hd1 : decide ((i : Int) < (L : Int)) = false := decide_eq_false (by omega)
        all_goals have hi0 : ((i : Int) == 0) = false := by simp; omega
        all_goals
          obtain ⟨X, HXd⟩ : ∃ X, Hid (cellsE (E.drop i) = X) := ⟨_, rfl⟩
          obtain ⟨M, HM⟩ : ∃ M, Hid (L - i = M) := ⟨_, rfl⟩
          have hML : M ≤ L := by have := HM.out; omega
          obtain ⟨sp, hif⟩ : ∃ sp, (if cap = i then some (⟨g, 0, none⟩ : Addr) else some ⟨g, i * 3, none⟩) = sp := ⟨_, rfl⟩
          obtain ⟨sq, hif2⟩ : ∃ sq, (if cap = M then some (⟨g, 0, none⟩ : Addr) else some ⟨g, M * 3, none⟩) = sq := ⟨_, rfl⟩
          have HMin : Hid (Nat.min (L - i) L = M) := by have := HM.out; show min (L - i) L = M; omega
          have HXl : Hid (X.length = M * 3) := by rw [← HXd.out]; show (cellsE (E.drop i)).length = M * 3; rw [cellsE_length, List.length_drop, HL.out, HM.out]
          have HG0 : Hid (wr.heap[g]? = some (.cells cur 59 (0, 0))) := hg'
          have HX : Hid (0 < M → ∃ ad, sp = some ad ∧ ∀ j v, X[j]? = some v → wr.cell? (ad.add j) = some v) := fun hM0 => by
            have h9 := HM.out
            refine ⟨⟨g, i * 3, none⟩, by rw [← hif]; exact if_neg (by omega), fun j v hj => ?_⟩
            have hj2 := (List.getElem?_eq_some_iff.1 hj).1
            have h8 := HXl.out
            rw [add_none]
            refine cell_of_heap hg' ?_
            rw [← HXd.out, cellsE_drop, List.getElem?_drop, ← ht, List.getElem?_take, if_pos (by omega)] at hj
            rw [← Array.getElem?_toList]; exact hj
          have HXf : Hid (X.length ≤ cur.size) := by have h9 := HM.out; have h8 := HXl.out; show X.length ≤ cur.size; omega
          have HX1 : Hid (∀ v ∈ X, v.oneCell' = true) := by rw [← HXd.out]; exact cellsE_one _
          have HC1 : Hid (∀ w1, Fr (fun k => k = g) wr.drew w1 → TabAt w1 t true m tot (.slice (some ⟨g, 0, none⟩) L cap)) := fun w1 f => (f.block t (lt_of_heap HT.out) (fun e => hne e.symm)).trans HT.out
          have HC2 : Hid (∀ w1 w2, TabAt w1 t true m tot (.slice (some ⟨g, 0, none⟩) L cap) → Fr (fun k => k = g) w1 w2 → TabAt w2 t true m tot (.slice (some ⟨g, 0, none⟩) L cap)) := fun w1 w2 h1 f => (f.block t (lt_of_heap h1) (fun e => hne e.symm)).trans h1
          have HZ0 : Hid (∀ w, (zeroValue 59).run Try.prog w = .ok (.agg #[.string ⟨#[]⟩, .string ⟨#[]⟩, .bool false]) w) := (zero_of_info (n := 3) (by kernel_rfl)).1
          have HZ : Hid (∀ n, ∀ v ∈ (Builtin.zeroCells (Value.agg #[.string ⟨#[]⟩, .string ⟨#[]⟩, .bool false]).cells n).toList, v.oneCell' = true) := zero_hdr
          have HP2 : Hid (0 < L - M → sq = some ⟨g, M * 3, none⟩) := fun h => by rw [← hif2]; exact if_neg (by omega)
          have HP3 : Hid (M * 3 + (L - M) * 3 ≤ (X ++ cur.toList.drop X.length).toArray.size) := by have h8 := HXl.out; have h7 := HXf.out; show _ ≤ _; simp; omega
          have HCL : Hid (∀ w1 : World, w1.heap[g]? = some (.cells (X ++ cur.toList.drop X.length).toArray 59 (0, 0)) → ∃ w' cur', (Builtin.clear_ #[30] 0 #[.slice sq (L - M) (cap - M)]).run Try.prog w1 = .ok (.tuple #[]) w' ∧ Hid (w'.heap[g]? = some (.cells cur' 59 (0, 0))) ∧ Hid (cur'.size = (X ++ cur.toList.drop X.length).toArray.size) ∧ Hid (cur'.toList.take (M * 3) = (X ++ cur.toList.drop X.length).toArray.toList.take (M * 3)) ∧ Hid (Fr (fun k => k = g) w1 w')) :=
            fun w1 h1 => run_clear w1 30 0 59 (.agg #[.string ⟨#[]⟩, .string ⟨#[]⟩, .bool false]) 3 Try.underlying30 (HZ0.out w1) rfl HZ.out sq (L - M) (cap - M) g (M * 3) _ 59 h1 HP2.out HP3.out
          have hMc : M ≤ cap := by omega
          have hM60 : M < 2 ^ 58 := by omega
        all_goals go_wp2_with (fail)
        all_goals go_region_law (refine step_copy_wide rfl (.tmp 43) (.tmp 49) 30 30 rfl 59 3 Try.underlying30 (by kernel_rfl) g L cap (L - i) (cap - i) M sp (by go_simp) (by go_simp) HMin.out cur 59 HG0.out X HXl.out HX.out HXf.out HX1.out ?_; intro w1 HG1 HF1; have HT1 : Hid (TabAt w1 t true m tot (.slice (some ⟨g, 0, none⟩) L cap)) := HC1.out w1 HF1.out; have c31 := TabAt.c3 HT1.out; obtain ⟨w2, cur2, hclr, HG2, HS2, HK2, HF2⟩ := HCL.out w1 HG1.out; have HT2 : Hid (TabAt w2 t true m tot (.slice (some ⟨g, 0, none⟩) L cap)) := HC2.out w1 w2 HT1.out HF2.out; have c32 := TabAt.c3 HT2.out; have z32 : w2.frozen? ⟨t, 3, none⟩ = false := frozen_of_heap HT2.out)
        all_goals go_wp2_with (fail)
        all_goals refine bodyPost_end (results_none rfl _ _ _) rfl ⟨rfl, cur2, ?_, (heap_set_other hne _).trans HG2.out, ?_, ?_, ?_⟩
        all_goals first
          | (show TabAt _ _ _ _ _ _; rw [hF, HTOT.out, List.length_drop, HL.out, HM.out]; exact heap_set _ HT2.out)
          | (show Fr _ _ _; exact (((HFR.out.mono (fun k _ hk => .inl hk)).drew.trans (HF1.out.mono (fun k _ hk => .inr hk))).trans (HF2.out.mono (fun k _ hk => .inr hk))).setCell ⟨t, 3, none⟩ (fun _ => .inl rfl) _)
          | (show cur2.size = _; have h7 := HS2.out; have h8 := HXl.out; have h9 := HXf.out; simp at h7; omega)
          | (show cur2.toList.take _ = _; rw [hF, List.length_drop, HL.out, HM.out, HK2.out, HXd.out, ← HXl.out]; exact List.take_left)
end Go.Proofs.Ytkipeifkfgbkeaa
