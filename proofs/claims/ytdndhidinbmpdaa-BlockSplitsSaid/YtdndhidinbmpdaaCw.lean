/- A block's frames: the law's walk. -/
import Derived.Test.YtdndhidinbmpdaaBw
import Derived.Test.YtdndhidinbmpdaaXp
import Derived.BigQuiet
import Derived.Deep.Cut
namespace Go.Proofs.Ytdndhidinbmpdaa
open Go.RowKit
set_option linter.unusedVariables false
set_option maxRecDepth 100000
set_option maxHeartbeats 4000000

theorem meas_next {i n : Nat} (h : i < n) : n - (intOf (Value.int .i64 ((i : Int) + 1))).toNat < n - (intOf (Value.int .i64 (i : Int))).toNat := by
  simp only [intOf]
  omega
theorem bsplits_neg (sid : Int) (p : Option Addr) (c : Nat) (X : List UInt8) (en : Bool) (m : Int) (hm : m < 1) (hno : ¬ (1 ≤ sid ∧ sid ≤ 2147483647 ∧ 1 ≤ m)) (w : World) (hs : SrcAt w p X) (hX : X.length < 2 ^ 47) (hc : X.length ≤ c) :
    Calls Try.prog 3 #[.int .i64 sid, .slice p X.length c, .bool en, .int .i64 m] w fun e w' => e = .returned (.bool true) ∧ Below w.heap.size w w' := by
  have g1 : decide (1 ≤ m) = false := by simp; omega
  have g2 : ¬ (1 : Int) ≤ m := by omega
  obtain ⟨i8, e1, e2, e3, e4⟩ := info5
  have E1 : Hid (Try.prog.info? 5 = some i8) := e1
  have E2 : Hid (i8.zero = some (.int .u8 0)) := e2
  have E3 : Hid (i8.size = 1) := e3
  have E4 : Hid (i8.bytes = 1) := e4
  have HS : Hid (SrcAt w p X) := hs
  have HX : Hid (X.length < 2 ^ 47 ∧ X.length ≤ c) := ⟨hX, hc⟩
  clear e1 e2 e3 e4 hs hX hc
  have HNO : Hid (¬ (1 ≤ sid ∧ sid ≤ 2147483647 ∧ 1 ≤ m)) := hno
  clear hno
  go_enter Try.func3, Try.ntmps3
  go_wp2_with (first
    | (refine wpList_gather (w0 := w) rfl (.tmp 26) (.tmp 27) 22 22 rfl i8 Try.underlying22 Try.underlying22 E1.out E2.out E3.out E4.out (.slice (some ⟨w.heap.size, 0, none⟩) 0 0) [] (by go_simp) (Gath.start (Fr.refl _ _)) p X.length c (by go_simp) X (HS.out.oldF ((Fr.refl _ _).alloc _)) rfl (by have := HX.out; simp; omega) ?_; intro a3 n3 c3 w3 N3 G3 F3; have HG3 : Hid (Gath w w3 (.slice a3 n3 c3) X) := G3; clear G3)
    | (go_at_call 10; refine (Split_no sid _ en m w3 HNO.out).mono ?_; rintro e w4 ⟨rfl, hf4⟩; have F4 : Hid (Fr (fun _ => False) w3 w4) := hf4; clear hf4)
    | (go_at_call 11; refine (rSplit_no sid _ en m w4 HNO.out).mono ?_; rintro e w5 ⟨rfl, rfl⟩; refine Hid.out ?_))
  unfold Hid
  go_wp2_with (fail)
  go_loopw [13] (fun x13 wr => x13 = .int .i64 0 ∧ wr = w4) (fun x13 _ => 0)
  case atStart => exact ⟨rfl, rfl⟩
  case round =>
    obtain ⟨rfl, rfl⟩ := hrel
    have KA := bawake_in wr
    go_wp2_with (go_at_call 9; refine KA.mono ?_; rintro e w9 ⟨rfl, hf9⟩; have F9 : Hid (Fr (fun _ => False) wr w9) := hf9; clear hf9)
    go_ret
    exact ⟨rfl, (HG3.out.2.2.trans (F4.out.trans F9.out)).below (fun _ _ => id)⟩
theorem bsplits_bad (sid : Int) (p : Option Addr) (c : Nat) (X : List UInt8) (en : Bool) (M : Nat) (hM : 1 ≤ M) (hD : X.length / M ≤ 5000) (hno : ¬ (1 ≤ sid ∧ sid ≤ 2147483647 ∧ 1 ≤ (M : Int))) (w : World) (hs : SrcAt w p X) (hX : X.length < 2 ^ 47) (hc : X.length ≤ c) :
    Calls Try.prog 3 #[.int .i64 sid, .slice p X.length c, .bool en, .int .i64 (M : Int)] w fun e w' => e = .returned (.bool true) ∧ Below w.heap.size w w' := by
  have g1 : (1 : Int) ≤ (M : Int) := by omega
  have g3 : ¬ (5000 : Int) < (X.length : Int) / (M : Int) := by rw [← Int.natCast_ediv]; omega
  have g4 : ¬ (5000 : Int) < (X.length : Int).tdiv (M : Int) := by rw [Int.tdiv_eq_ediv_of_nonneg (by omega)]; exact g3
  have g5 : (M : Int) ≠ 0 := by omega
  have g6 : wrap64 ((X.length : Int) / (M : Int)) = (X.length : Int) / (M : Int) := by rw [← Int.natCast_ediv]; have h := Nat.div_le_self X.length M; generalize X.length / M = q at h ⊢; unfold wrap64; omega
  obtain ⟨i8, e1, e2, e3, e4⟩ := info5
  have E1 : Hid (Try.prog.info? 5 = some i8) := e1
  have E2 : Hid (i8.zero = some (.int .u8 0)) := e2
  have E3 : Hid (i8.size = 1) := e3
  have E4 : Hid (i8.bytes = 1) := e4
  have HS : Hid (SrcAt w p X) := hs
  have HX : Hid (X.length < 2 ^ 47 ∧ X.length ≤ c) := ⟨hX, hc⟩
  clear e1 e2 e3 e4 hs hX hc
  have HNO : Hid (¬ (1 ≤ sid ∧ sid ≤ 2147483647 ∧ 1 ≤ (M : Int))) := hno
  clear hno
  go_enter Try.func3, Try.ntmps3
  go_wp2_with (first
    | (refine wpList_gather (w0 := w) rfl (.tmp 26) (.tmp 27) 22 22 rfl i8 Try.underlying22 Try.underlying22 E1.out E2.out E3.out E4.out (.slice (some ⟨w.heap.size, 0, none⟩) 0 0) [] (by go_simp) (Gath.start (Fr.refl _ _)) p X.length c (by go_simp) X (HS.out.oldF ((Fr.refl _ _).alloc _)) rfl (by have := HX.out; simp; omega) ?_; intro a3 n3 c3 w3 N3 G3 F3; have HG3 : Hid (Gath w w3 (.slice a3 n3 c3) X) := G3; clear G3)
    | (go_at_call 10; refine (Split_no sid _ en (M : Int) w3 HNO.out).mono ?_; rintro e w4 ⟨rfl, hf4⟩; have F4 : Hid (Fr (fun _ => False) w3 w4) := hf4; clear hf4)
    | (go_at_call 11; refine (rSplit_no sid _ en (M : Int) w4 HNO.out).mono ?_; rintro e w5 ⟨rfl, rfl⟩; refine Hid.out ?_))
  unfold Hid
  go_wp2_with (fail)
  go_loopw [13] (fun x13 wr => x13 = .int .i64 0 ∧ wr = w4) (fun x13 _ => 0)
  case atStart => exact ⟨rfl, rfl⟩
  case round =>
    obtain ⟨rfl, rfl⟩ := hrel
    have KA := bawake_in wr
    go_wp2_with (go_at_call 9; refine KA.mono ?_; rintro e w9 ⟨rfl, hf9⟩; have F9 : Hid (Fr (fun _ => False) wr w9) := hf9; clear hf9)
    go_ret
    exact ⟨rfl, (HG3.out.2.2.trans (F4.out.trans F9.out)).below (fun _ _ => id)⟩
theorem bsplits_many (sid : Int) (p : Option Addr) (c : Nat) (X : List UInt8) (en : Bool) (M : Nat) (hM : 1 ≤ M) (hD : 5000 < X.length / M) (hX : X.length < 2 ^ 47) (w : World) :
    Calls Try.prog 3 #[.int .i64 sid, .slice p X.length c, .bool en, .int .i64 (M : Int)] w fun e w' => e = .returned (.bool true) ∧ Below w.heap.size w w' := by
  have g1 : (1 : Int) ≤ (M : Int) := by omega
  have g3 : (5000 : Int) < (X.length : Int) / (M : Int) := by rw [← Int.natCast_ediv]; omega
  have g4 : (5000 : Int) < (X.length : Int).tdiv (M : Int) := by rw [Int.tdiv_eq_ediv_of_nonneg (by omega)]; exact g3
  have g5 : (M : Int) ≠ 0 := by omega
  have g6 : wrap64 ((X.length : Int) / (M : Int)) = (X.length : Int) / (M : Int) := by rw [← Int.natCast_ediv]; have h := Nat.div_le_self X.length M; generalize X.length / M = q at h ⊢; unfold wrap64; omega
  have KA := bawake_in w
  go_enter Try.func3, Try.ntmps3
  go_wp2_with (go_at_call 9; refine KA.mono ?_; rintro e w9 ⟨rfl, hf9⟩; have F9 : Hid (Fr (fun _ => False) w w9) := hf9; clear hf9)
  go_ret
  exact ⟨rfl, F9.out.below (fun _ _ => id)⟩
theorem bsplits_yes (sid : Int) (p : Option Addr) (c : Nat) (X : List UInt8) (en : Bool) (M : Nat) (hM : 1 ≤ M) (hM2 : M ≤ 9223372036854775807) (hD : X.length / M ≤ 5000) (h1 : 1 ≤ sid) (h2 : sid ≤ 2147483647) (w : World) (hs : SrcAt w p X) (hX : X.length < 2 ^ 47) (hc : X.length ≤ c) :
    Calls Try.prog 3 #[.int .i64 sid, .slice p X.length c, .bool en, .int .i64 (M : Int)] w fun e w' => e = .returned (.bool true) ∧ Below w.heap.size w w' := by
  have g1 : (1 : Int) ≤ (M : Int) := by omega
  have g3 : ¬ (5000 : Int) < (X.length : Int) / (M : Int) := by rw [← Int.natCast_ediv]; omega
  have g4 : ¬ (5000 : Int) < (X.length : Int).tdiv (M : Int) := by rw [Int.tdiv_eq_ediv_of_nonneg (by omega)]; exact g3
  have g5 : (M : Int) ≠ 0 := by omega
  have g6 : wrap64 ((X.length : Int) / (M : Int)) = (X.length : Int) / (M : Int) := by rw [← Int.natCast_ediv]; have h := Nat.div_le_self X.length M; generalize X.length / M = q at h ⊢; unfold wrap64; omega
  obtain ⟨i8, e1, e2, e3, e4⟩ := info5
  have E1 : Hid (Try.prog.info? 5 = some i8) := e1
  have E2 : Hid (i8.zero = some (.int .u8 0)) := e2
  have E3 : Hid (i8.size = 1) := e3
  have E4 : Hid (i8.bytes = 1) := e4
  have HS : Hid (SrcAt w p X) := hs
  have HX : Hid (X.length < 2 ^ 47 ∧ X.length ≤ c) := ⟨hX, hc⟩
  clear e1 e2 e3 e4 hs hX hc
  have HN : Hid (nP M X.length ≤ 6000) := by show _ ≤ _; unfold nP; have := Nat.div_le_div_right (c := M) (show X.length - 1 ≤ X.length by omega); omega
  have HP : Hid (1 ≤ sid ∧ sid ≤ 2147483647 ∧ 1 ≤ M ∧ M ≤ 9223372036854775807) := ⟨h1, h2, hM, hM2⟩
  clear h1 h2 hM hM2 hD
  go_enter Try.func3, Try.ntmps3
  go_wp2_with (first
    | (refine wpList_gather (w0 := w) rfl (.tmp 26) (.tmp 27) 22 22 rfl i8 Try.underlying22 Try.underlying22 E1.out E2.out E3.out E4.out (.slice (some ⟨w.heap.size, 0, none⟩) 0 0) [] (by go_simp) (Gath.start (Fr.refl _ _)) p X.length c (by go_simp) X (HS.out.oldF ((Fr.refl _ _).alloc _)) rfl (by have := HX.out; simp; omega) ?_; intro a3 n3 c3 w3 N3 G3 F3; have HG3 : Hid (Gath w w3 (.slice a3 n3 c3) X) := G3; clear G3; obtain rfl : n3 = X.length := (by rw [N3.out]; simp))
    | (go_at_call 10; refine (Split_yes sid X en M a3 c3 w3 HP.out.1 HP.out.2.1 HP.out.2.2.1 HP.out.2.2.2 HX.out.1 (own_len HG3.out.1).2 (own_src HG3.out.1) HN.out).mono ?_; rintro e w4 ⟨g, cap, ls, rfl, hl, hall, hfrs, hfr⟩; have T4 : Hid (ls.length = nP M X.length ∧ (∀ k z, ls[k]? = some z → z.1 = splitF sid X en M (nP M X.length) k) ∧ Frs w3.heap.size w4 (.slice (some ⟨g, 0, none⟩) ls.length cap) ls ∧ Fr (fun _ => False) w3 w4) := ⟨hl, hall, hfrs, hfr⟩; clear hl hall hfrs hfr)
    | (go_at_call 11; refine (rSplit_yes sid X en M p c w4 HP.out.1 HP.out.2.1 HP.out.2.2.1 HP.out.2.2.2 HX.out.1 HX.out.2 (HS.out.oldF (HG3.out.2.2.trans T4.out.2.2.2)) HN.out).mono ?_; rintro e w5 ⟨g', cap', ls', rfl, hl, hall, hfrs, hfr⟩; have T5 : Hid (ls'.length = nP M X.length ∧ (∀ k z, ls'[k]? = some z → z.1 = splitF sid X en M (nP M X.length) k) ∧ Frs w4.heap.size w5 (.slice (some ⟨g', 0, none⟩) ls'.length cap') ls' ∧ Fr (fun _ => False) w4 w5) := ⟨hl, hall, hfrs, hfr⟩; clear hl hall hfrs hfr; refine Hid.out ?_))
  unfold Hid
  have hll : ls'.length = ls.length := by rw [T4.out.1, T5.out.1]
  rw [hll]
  have HLL : Hid (ls'.length = ls.length) := hll
  have HNN : Hid (ls.length ≤ 6000) := by have := T4.out.1; have := HN.out; show _ ≤ _; omega
  clear hll
  go_wp2_with (fail)
  go_loopw [13] (fun x13 wr => ∃ i : Nat, x13 = .int .i64 (i : Int) ∧ i ≤ ls.length ∧ Fr (fun _ => False) w5 wr) (fun x13 _ => ls.length - (intOf x13).toNat)
  case atStart => exact ⟨0, rfl, by omega, Fr.refl _ _⟩
  case round =>
    obtain ⟨i, rfl, hi, hfr⟩ := hrel
    have hb := HNN.out
    by_cases hin : i < ls.length
    · have HFR : Hid (Fr (fun _ => False) w5 wr) := hfr
      obtain ⟨z, hz⟩ : ∃ z, ls[i]? = some z := ⟨ls[i], List.getElem?_eq_getElem hin⟩
      obtain ⟨z', hz'⟩ : ∃ z', ls'[i]? = some z' := ⟨ls'[i]'(by rw [HLL.out]; exact hin), List.getElem?_eq_getElem _⟩
      have hF4 : Frs w3.heap.size wr (.slice (some ⟨g, 0, none⟩) ls.length cap) ls := T4.out.2.2.1.later (T5.out.2.2.2.trans hfr)
      have hF5 : Frs w4.heap.size wr (.slice (some ⟨g', 0, none⟩) ls'.length cap') ls' := T5.out.2.2.1.later hfr
      have hp := hF4.pay z (List.mem_of_getElem? hz)
      have hp' := hF5.pay z' (List.mem_of_getElem? hz')
      have hsame : z.1 = z'.1 := by rw [T4.out.2.1 i z hz, T5.out.2.1 i z' hz']
      obtain ⟨F, a, d, q, cq⟩ := z
      obtain ⟨F', a', d', q', cq'⟩ := z'
      dsimp only at hp hp' hsame
      subst hsame
      obtain ⟨hp1, hp2, -⟩ := hp
      obtain ⟨hp1', hp2', -⟩ := hp'
      cases hp2
      cases hp2'
      obtain ⟨c0, c1, c2, c3, c4, c5, c6, c7, c8, c9, c10, c11⟩ := hF4.twelve rfl hz
      obtain ⟨d0, d1, d2, d3, d4, d5, d6, d7, d8, d9, d10, d11⟩ := hF5.twelve rfl hz'
      have KS : Hid (∀ nq, Calls Try.prog 12 #[.agg #[.int .i64 F.k, .int .i64 F.fl, .int .i64 F.st, .slice a F.X.length d, .int .i64 F.pad, .int .u32 F.code, .int .i64 F.last, .int .i64 F.inc, .int .i64 F.dep, .bool F.only, .int .i64 F.wt, .slice none F.Y.length 0], .agg #[.int .i64 F.k, .int .i64 F.fl, .int .i64 F.st, .slice a' F.X.length d', .int .i64 F.pad, .int .u32 F.code, .int .i64 F.last, .int .i64 F.inc, .int .i64 F.dep, .bool F.only, .int .i64 F.wt, .slice none F.Y.length 0]] (wr.drewN nq) fun e w' => e = .returned (.bool true) ∧ Fr (fun _ => False) (wr.drewN nq) w') := fun nq => bsame_in F a none a' none d 0 d' 0 (wr.drewN nq) ((own_src hp1).oldF ((Fr.refl _ _).drewN nq)) ((own_src hp1').oldF ((Fr.refl _ _).drewN nq))
      have n1 : (i : Int) < (ls.length : Int) := by omega
      have HIN : Hid (i < ls.length) := hin
      have wi : wrap64 ((i : Int) + 1) = (i : Int) + 1 := by unfold wrap64; omega
      clear hF4 hF5 hp1 hp1' hz hz' hfr hin hi hb
      go_wp2_with (fail)
      refine wp_region_cut 8 2 #[true, true, true, true, true, true, true, true, false, false] (by kernel_rfl) (by kernel_rfl) rfl rfl ?_
      simp only [List.take_succ_cons, List.take_zero]
      repeat (go_big_quiet_step (fail))
      refine wpQuiet_nil ?_
      rintro _ ⟨nq, rfl⟩ mm
      clear c0 c1 c2 c3 c4 c5 c6 c7 c8 c9 c10 c11 d0 d1 d2 d3 d4 d5 d6 d7 d8 d9 d10 d11
      refine wpAny_ready (rs := [8]) (by kernel_rfl) (by simp) ?_
      refine AllReady.cons rfl (fun K hK => ?_) AllReady.nil
      go_simp
      refine (KS.out nq).mono ?_
      rintro e w7 ⟨rfl, hf7⟩
      have F7 : Hid (Fr (fun _ => False) (wr.drewN nq) w7) := hf7
      clear hf7
      refine hK _ _ ?_
      clear hK K
      refine wpAny_ready (rs := [9]) (by kernel_rfl) (by simp) ?_
      refine AllReady.cons rfl (fun K hK => ?_) AllReady.nil
      go_simp
      refine hK _ _ ?_
      clear hK K
      refine wpAny_done (by kernel_rfl) ?_ _
      go_wp2_with (fail)
      go_roundw
      case rel => exact ⟨i + 1, by rw [wi]; rfl, HIN.out, HFR.out.trans (Fr.trans (b := wr.drewN nq) ((Fr.refl _ _).drewN nq) F7.out)⟩
      case measure => rw [wi]; exact meas_next HIN.out
    · have n1 : ¬ (i : Int) < (ls.length : Int) := by omega
      have KA := bawake_in wr
      have HFR : Hid (Fr (fun _ => False) w5 wr) := hfr
      go_wp2_with (go_at_call 9; refine KA.mono ?_; rintro e w9 ⟨rfl, hf9⟩; have F9 : Hid (Fr (fun _ => False) wr w9) := hf9; clear hf9)
      go_ret
      exact ⟨rfl, (HG3.out.2.2.trans (T4.out.2.2.2.trans (T5.out.2.2.2.trans (HFR.out.trans F9.out)))).below (fun _ _ => id)⟩
theorem bsplits_walk (sid : Int) (p : Option Addr) (c : Nat) (X : List UInt8) (en : Bool) (m : Int) (hm : (Lit.int .i64 m).wf = true) (w : World) (hs : SrcAt w p X) (hX : X.length < 2 ^ 47) (hc : X.length ≤ c) :
    Calls Try.prog 3 #[.int .i64 sid, .slice p X.length c, .bool en, .int .i64 m] w fun e w' => e = .returned (.bool true) ∧ Below w.heap.size w w' := by
  by_cases hm1 : m < 1
  · exact bsplits_neg sid p c X en m hm1 (by omega) w hs hX hc
  · obtain ⟨M, rfl⟩ : ∃ M : Nat, m = (M : Int) := ⟨m.toNat, by omega⟩
    have hM : 1 ≤ M := by omega
    have hM2 : M ≤ 9223372036854775807 := by have := i64r hm; omega
    by_cases hD : 5000 < X.length / M
    · exact bsplits_many sid p c X en M hM hD hX w
    · by_cases hsd : 1 ≤ sid ∧ sid ≤ 2147483647
      · exact bsplits_yes sid p c X en M hM hM2 (by omega) hsd.1 hsd.2 w hs hX hc
      · exact bsplits_bad sid p c X en M hM (by omega) (fun h => hsd ⟨h.1, h.2.1⟩) w hs hX hc
end Go.Proofs.Ytdndhidinbmpdaa
