/- Numbers in texts: the program's number and the document's digits. -/
import Derived.Test.YtplggcfoadjffaaGreatDoorOe
import Derived.Test.YtplggcfoadjffaaGreatDoorOt
import Derived.Lib.Atoi
import Derived.Lib.AtoiErrMem
import Derived.BigQuiet
namespace Go.Proofs.YtplggcfoadjffaaGreatDoor
open Go.RowKit
set_option maxRecDepth 100000
set_option maxHeartbeats 4000000
set_option linter.unusedVariables false

/-- The library's error of texts that are no numbers is there. -/
def ErrAt (w : World) : Prop := ∃ te pe, w.cell? ⟨oAtoiC_ren.g 15, 0, none⟩ = some (.iface te pe)
theorem ErrAt.fr {w w' : World} (h : ErrAt w) (f : Fr (fun _ => False) w w') : ErrAt w' := by
  obtain ⟨te, pe, hc⟩ := h
  exact ⟨te, pe, (f.cell (World.block_lt_of_cell? _ _ hc) id).trans hc⟩
theorem dec_num : ∀ (l : List UInt8) (acc : Nat), l.all digB = true → Lib.decFrom acc l = some (l.foldl (fun n c => 10 * n + (c.toNat - 48)) acc)
  | [], acc, _ => rfl
  | c :: l, acc, h => by
    simp only [List.all_cons, Bool.and_eq_true] at h
    have hd : Lib.digitVal c = some (c.toNat - 48) := by
      have := h.1
      unfold digB at this
      unfold Lib.digitVal
      rw [if_pos (of_decide_eq_true this)]
    simp only [Lib.decFrom, hd, List.foldl_cons]
    rw [dec_num l _ h.2, Nat.mul_comm acc 10]
theorem atoi_num {l : List UInt8} (h : l.all digB = true) (hne : l ≠ []) : Lib.atoi l = some ((numL l : Nat) : Int) := by
  cases l with
  | nil => exact absurd rfl hne
  | cons c l =>
    have hc : digB c = true := by simp only [List.all_cons, Bool.and_eq_true] at h; exact h.1
    have h45 : (c == 45) = false := by
      cases e : (c == 45) with
      | false => rfl
      | true => rw [beq_iff_eq] at e; subst e; revert hc; decide
    have h43 : (c == 43) = false := by
      cases e : (c == 43) with
      | false => rfl
      | true => rw [beq_iff_eq] at e; subst e; revert hc; decide
    simp only [Lib.atoi, h45, h43, Bool.false_eq_true, if_false, Lib.decNat, List.isEmpty_cons]
    rw [dec_num _ _ h]
    rfl
/-- What number answers. -/
def numV (m : Nat) (s : List UInt8) : Value := if digsB m s then .tuple #[.int .i64 ((numL s : Nat) : Int), .bool true] else .tuple #[.int .i64 0, .bool false]
theorem num_long {m : Nat} {s : ByteArray} (h : m < s.size) : numV m (tx s) = .tuple #[.int .i64 0, .bool false] := by
  unfold numV digsB
  rw [tx_len, decide_eq_false (by omega : ¬ s.size ≤ m), Bool.and_false]
  rfl
theorem num_not {m : Nat} {s : ByteArray} {i : Nat} {c : UInt8} (ht : (tx s)[i]? = some c) (h : digB c = false) : numV m (tx s) = .tuple #[.int .i64 0, .bool false] := by
  unfold numV digsB
  rw [all_not ht h]
  rfl
theorem Atoi_yes (s : ByteArray) (w : World) (h : (tx s).all digB = true) (h0 : 1 ≤ s.size) (h1 : s.size ≤ 18) :
    Calls Tryz.prog 84 #[.string s] w fun e w' => e = .returned (.tuple #[.int .i64 ((numL (tx s) : Nat) : Int), .nilIface]) ∧ Fr (fun _ => False) w w' := by
  have hne : tx s ≠ [] := fun e => by have := tx_len s; rw [e] at this; simp at this; omega
  refine (Any.strconv_Atoi oAtoi s _ h1 (atoi_num h hne) w).mono fun e w' ⟨he, t, hw⟩ => ⟨he, ?_⟩
  rw [hw]
  exact Fr.of_below (Lib.bytesWorld_below _ _ _)
theorem Atoi_no (s : ByteArray) (w : World) (h0 : s.size = 0) (hE : ErrAt w) :
    Calls Tryz.prog 84 #[.string s] w fun e w' => (∃ t p, e = .returned (.tuple #[.int .i64 0, .iface t p])) ∧ Fr (fun _ => False) w w' := by
  obtain ⟨te, pe, hc⟩ := hE
  have hnil : s.data.toList = [] := List.eq_nil_of_length_eq_zero (by have := tx_len s; unfold tx at this; omega)
  refine (Any.strconv_Atoi_err oAtoiC s (by omega) (by rw [hnil]; rfl) _ w hc (.inr ⟨_, _, rfl⟩)).mono fun e w' h => ?_
  obtain ⟨N, he, _, _, hb⟩ := h
  exact ⟨⟨_, _, he⟩, Fr.of_below hb⟩
theorem dig_rel {s : ByteArray} {w W : World} {pos k : Nat} {c : UInt8} (hi : W.heap[w.heap.size]? = some (.stringIter s (pos + k))) (hf : Fr (fun _ => False) w W) (h1 : digB c = true) (h2 : digB c = true → k = 1) (ht : (tx s)[pos]? = some c) (ha : ((tx s).take pos).all digB = true) (hlt : pos < s.size) :
    ∃ pos : Nat, pos ≤ s.size ∧ W.heap[w.heap.size]? = some (.stringIter s pos) ∧ Fr (fun _ => False) w W ∧ Hid (((tx s).take pos).all digB = true) := by
  obtain rfl := h2 h1
  exact ⟨pos + 1, by omega, hi, hf, all_take_succ ht ha h1⟩
theorem digR_low (c : UInt8) : (decide (48 ≤ (c.toNat : Int)) && decide ((c.toNat : Int) ≤ 57)) = digB c := by
  unfold digB
  rw [Bool.decide_and]
  congr 1
  · exact decide_eq_decide.2 (by omega)
  · exact decide_eq_decide.2 (by omega)
theorem number_in (s : ByteArray) (m : Nat) (w : World) (hm : m ≤ 18) (hE : ErrAt w) : Calls Tryz.prog 68 #[.string s, .int .i64 (m : Int)] w fun e w' => e = .returned (numV m (tx s)) ∧ Fr (fun _ => False) w w' := by
  obtain ⟨V, hV⟩ : ∃ V, numV m (tx s) = V := ⟨_, rfl⟩
  rw [hV]
  have HV : Hid (numV m (tx s) = V) := hV
  have HE : Hid (ErrAt w) := hE
  clear hV hE
  by_cases hlen : m < s.size
  · have hlen2 : (m : Int) < (s.size : Int) := by omega
    have hv : V = .tuple #[.int .i64 0, .bool false] := by rw [← HV.out]; exact num_long hlen
    clear HV
    subst hv
    go_enter Tryz.func68, Tryz.ntmps68
    go_wp2_with (fail)
    go_ret2
    exact ⟨rfl, Fr.refl _ _⟩
  have hlen2 : ¬ (m : Int) < (s.size : Int) := by omega
  go_enter Tryz.func68, Tryz.ntmps68
  go_wp2_with (fail)
  go_loopw [7] (fun v wr => ∃ pos : Nat, pos ≤ s.size ∧ wr.heap[w.heap.size]? = some (.stringIter s pos) ∧ Fr (fun _ => False) w wr ∧ Hid (((tx s).take pos).all digB = true)) (fun _ wr => s.size - wr.iterPos w.heap.size)
  case atStart => exact ⟨0, by omega, World.iter_heap w s 0, (Fr.refl _ _).alloc _, by show _ = _; simp⟩
  case round =>
    obtain ⟨pos, hp, hit, hf, HA⟩ := hrel
    by_cases hlt : pos < s.size
    · have hnx : ∀ ty, (Instr.next (.pointer (some ⟨w.heap.size, 0, none⟩)) true ty).run Tryz.prog wr = _ := fun ty => Lib.run_next_any_at wr w.heap.size s pos ty hit hlt
      have hit2 := Lib.iterAt_heap wr w.heap.size s pos (pos + (Utf8.decode s pos).2) hit
      have hf2 : Fr (fun _ => False) w (wr.iterAt w.heap.size s (pos + (Utf8.decode s pos).2)) := hf.iterAt (Nat.le_refl _) s _
      have HT : Hid ((tx s)[pos]? = some (s[pos]'hlt)) := tx_at s pos hlt
      obtain ⟨c, hc⟩ : ∃ c, (s[pos]'hlt) = c := ⟨_, rfl⟩
      have hcase : (c.toNat < 128 ∧ Utf8.decode s pos = (c.toNat, 1)) ∨ (128 ≤ c.toNat ∧ 128 ≤ (Utf8.decode s pos).1) := by
        rw [← hc]
        by_cases ha : (s[pos]'hlt).toNat < 128
        · exact .inl ⟨ha, decode_ascii s pos hlt ha⟩
        · exact .inr ⟨by omega, (decode_high s pos hlt (by omega)).1⟩
      rw [hc] at HT
      obtain ⟨⟨r, k⟩, hrk⟩ : ∃ x, Utf8.decode s pos = x := ⟨_, rfl⟩
      rw [hrk] at hnx hit2 hf2 hcase
      dsimp only at hnx hit2 hf2 hcase
      generalize wr.iterAt w.heap.size s (pos + k) = W1 at hnx hit2 hf2
      clear hc hrk
      have hlet : (decide (48 ≤ (r : Int)) && decide ((r : Int) ≤ 57)) = digB c ∧ (digB c = true → k = 1) := by
        rcases hcase with ⟨h1, h2⟩ | ⟨h1, h2⟩
        · simp only [Prod.mk.injEq] at h2
          exact ⟨by rw [h2.1]; exact digR_low c, fun _ => h2.2⟩
        · have hb : digB c = false := by
            cases hb : digB c with
            | false => rfl
            | true => have := digB_low hb; omega
          exact ⟨by rw [hb, decide_eq_false (by omega : ¬ (r : Int) ≤ 57), Bool.and_false], fun h => by rw [hb] at h; cases h⟩
      obtain ⟨x2, h2⟩ : ∃ x, (decide (48 ≤ (r : Int)) && decide ((r : Int) ≤ 57)) = x := ⟨_, rfl⟩
      have K2 := mDigit_in (r : Int) W1
      rw [h2] at K2 hlet
      have HB : Hid (digB c = x2 ∧ (digB c = true → k = 1)) := ⟨hlet.1.symm, hlet.2⟩
      clear h2 hlet hcase
      cases x2 with
      | true =>
        go_wp2_with (go_at_call 79; refine K2.mono ?_; rintro e w' ⟨rfl, rfl⟩)
        go_roundw
        case rel => exact dig_rel hit2 hf2 HB.out.1 HB.out.2 HT.out HA.out hlt
        case measure => exact name_less hit hit2 (HB.out.2 HB.out.1) hlt
      | false =>
        have hv : V = .tuple #[.int .i64 0, .bool false] := by rw [← HV.out]; exact num_not HT.out HB.out.1
        clear HV
        subst hv
        go_wp2_with (go_at_call 79; refine K2.mono ?_; rintro e w' ⟨rfl, rfl⟩)
        go_ret2
        exact ⟨rfl, hf2⟩
    · have hnx : ∀ ty, (Instr.next (.pointer (some ⟨w.heap.size, 0, none⟩)) true ty).run Tryz.prog wr = .ok (.tuple #[.bool false]) wr := fun ty => Lib.run_next_end_at wr w.heap.size s pos ty hit hlt
      have hall : (tx s).all digB = true := all_end (by rw [tx_len]; omega) HA.out
      by_cases h0 : s.size = 0
      · have K := Atoi_no s wr h0 (HE.out.fr hf)
        have hv : V = .tuple #[.int .i64 0, .bool false] := by
          rw [← HV.out]
          unfold numV digsB
          rw [tx_len, h0, decide_eq_false (by omega : ¬ 1 ≤ 0), Bool.and_false]
          rfl
        clear HV hall HA HE
        subst hv
        go_wp2_with (fail)
        refine K.mono ?_
        rintro e w1 ⟨⟨t, p, rfl⟩, f1⟩
        go_wp2_with (fail)
        go_quiet (fail)
        go_wp2_with (fail)
        go_ret2
        exact ⟨rfl, (hf.trans f1).drewN _⟩
      · have K := Atoi_yes s wr hall (by omega) (by omega)
        have hv : V = .tuple #[.int .i64 ((numL (tx s) : Nat) : Int), .bool true] := by
          rw [← HV.out]
          unfold numV digsB
          rw [tx_len, hall, decide_eq_true (by omega : 1 ≤ s.size), decide_eq_true (by omega : s.size ≤ m)]
          rfl
        generalize ((numL (tx s) : Nat) : Int) = n at hv K
        clear HV hall HA HE
        subst hv
        go_wp2_with (fail)
        refine K.mono ?_
        rintro e w1 ⟨rfl, f1⟩
        go_wp2_with (fail)
        go_quiet (fail)
        go_wp2_with (fail)
        go_ret2
        exact ⟨rfl, (hf.trans f1).drewN _⟩
theorem digs_not {s : ByteArray} {i : Nat} {c : UInt8} (ht : (tx s)[i]? = some c) (h : digB c = false) : digsB 9 (tx s) = false := by
  unfold digsB
  rw [all_not ht h]
  rfl
theorem digB_nat (c : UInt8) : digB c = (decide (48 ≤ c.toNat) && decide (c.toNat ≤ 57)) := by unfold digB; rw [Bool.decide_and]
theorem digits_in (s : ByteArray) (w : World) (hs : s.size < 2 ^ 60) : Calls Tryz.prog 34 #[.string s] w fun e w' => e = .returned (.bool (digsB 9 (tx s))) ∧ w = w' := by
  obtain ⟨V, hV⟩ : ∃ V, digsB 9 (tx s) = V := ⟨_, rfl⟩
  rw [hV]
  have HV : Hid (digsB 9 (tx s) = V) := hV
  clear hV
  go_enter Tryz.func34, Tryz.ntmps34
  go_wp2_with (fail)
  go_loopw [3] (fun v wr => ∃ i : Nat, v = .int .i64 (i : Int) ∧ i ≤ s.size ∧ w = wr ∧ Hid (((tx s).take i).all digB = true)) (fun v _ => s.size - (intOf v).toNat)
  case atStart => exact ⟨0, rfl, by omega, rfl, by show _ = _; simp⟩
  case round =>
    obtain ⟨i, rfl, hi, rfl, HA⟩ := hrel
    by_cases hlt : i < s.size
    · have hlt2 : (i : Int) < (s.size : Int) := by omega
      have HT : Hid ((tx s)[i]? = some (s[i]'hlt)) := tx_at s i hlt
      have hix := index_tx s i hlt
      generalize (s[i]'hlt) = c at HT hix
      have HD : Hid (digB c = (decide (48 ≤ c.toNat) && decide (c.toNat ≤ 57))) := digB_nat c
      generalize c.toNat = n at hix HD
      by_cases h1 : n < 48
      · have hv : V = false := by rw [← HV.out]; exact digs_not HT.out (by rw [HD.out, decide_eq_false (by omega : ¬ 48 ≤ n)]; rfl)
        clear HV HD
        subst hv
        go_wp2_with (fail)
        go_ret
        exact ⟨rfl, rfl⟩
      · by_cases h2 : 57 < n
        · have hv : V = false := by rw [← HV.out]; exact digs_not HT.out (by rw [HD.out, decide_eq_false (by omega : ¬ n ≤ 57), Bool.and_false])
          clear HV HD
          subst hv
          go_wp2_with (fail)
          go_ret
          exact ⟨rfl, rfl⟩
        · have HD2 : Hid (digB c = true) := by show _ = _; rw [HD.out, decide_eq_true (by omega : 48 ≤ n), decide_eq_true (by omega : n ≤ 57)]; rfl
          clear HD
          go_wp2_with (fail)
          go_roundw
          case rel => exact ⟨i + 1, by go_num, by omega, trivial, all_take_succ HT.out HA.out HD2.out⟩
          case measure => simp [intOf]; omega
    · have hlt2 : ¬ (i : Int) < (s.size : Int) := by omega
      have hv : V = (decide (1 ≤ s.size) && decide (s.size ≤ 9)) := by
        rw [← HV.out]
        unfold digsB
        rw [tx_len, all_end (by rw [tx_len]; omega) HA.out]
        rfl
      clear HV
      by_cases h1 : 1 ≤ s.size
      · by_cases h2 : s.size ≤ 9
        · have hv2 : V = true := by rw [hv, decide_eq_true h1, decide_eq_true h2]; rfl
          clear hv
          subst hv2
          go_wp2_with (fail)
          go_ret
          exact ⟨by rw [decide_eq_true (by omega : (s.size : Int) ≤ 9)]; rfl, rfl⟩
        · have hv2 : V = false := by rw [hv, decide_eq_false h2, Bool.and_false]
          clear hv
          subst hv2
          go_wp2_with (fail)
          go_ret
          exact ⟨by rw [decide_eq_false (by omega : ¬ (s.size : Int) ≤ 9)]; rfl, rfl⟩
      · have hv2 : V = false := by rw [hv, decide_eq_false h1]; rfl
        clear hv
        subst hv2
        go_wp2_with (fail)
        go_ret
        exact ⟨rfl, rfl⟩
end Go.Proofs.YtplggcfoadjffaaGreatDoor
