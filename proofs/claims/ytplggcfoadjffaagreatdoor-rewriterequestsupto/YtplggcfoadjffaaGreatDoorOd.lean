/- Names: the program's and the document's. -/
import Derived.Test.YtplggcfoadjffaaGreatDoorOc
namespace Go.Proofs.YtplggcfoadjffaaGreatDoor
open Go.RowKit
set_option maxRecDepth 100000
set_option maxHeartbeats 4000000
set_option linter.unusedVariables false

theorem mLetter_in (r : Int) (w : World) : Calls Tryz.prog 78 #[.int .i32 r] w fun e w' => e = .returned (.bool (decide (97 ≤ r) && decide (r ≤ 122))) ∧ w = w' := by
  by_cases h1 : 97 ≤ r
  · by_cases h2 : r ≤ 122
    · have hv : (decide (97 ≤ r) && decide (r ≤ 122)) = true := by rw [decide_eq_true h1, decide_eq_true h2]; rfl
      rw [hv]
      go_enter Tryz.func78, Tryz.ntmps78
      go_wp2
      go_ret
      exact ⟨rfl, rfl⟩
    · have hv : (decide (97 ≤ r) && decide (r ≤ 122)) = false := by rw [decide_eq_false h2, Bool.and_false]
      rw [hv]
      go_enter Tryz.func78, Tryz.ntmps78
      go_wp2
      go_ret
      exact ⟨rfl, rfl⟩
  · have hv : (decide (97 ≤ r) && decide (r ≤ 122)) = false := by rw [decide_eq_false h1, Bool.false_and]
    rw [hv]
    go_enter Tryz.func78, Tryz.ntmps78
    go_wp2
    go_ret
    exact ⟨rfl, rfl⟩
theorem mDigit_in (r : Int) (w : World) : Calls Tryz.prog 79 #[.int .i32 r] w fun e w' => e = .returned (.bool (decide (48 ≤ r) && decide (r ≤ 57))) ∧ w = w' := by
  by_cases h1 : 48 ≤ r
  · by_cases h2 : r ≤ 57
    · have hv : (decide (48 ≤ r) && decide (r ≤ 57)) = true := by rw [decide_eq_true h1, decide_eq_true h2]; rfl
      rw [hv]
      go_enter Tryz.func79, Tryz.ntmps79
      go_wp2
      go_ret
      exact ⟨rfl, rfl⟩
    · have hv : (decide (48 ≤ r) && decide (r ≤ 57)) = false := by rw [decide_eq_false h2, Bool.and_false]
      rw [hv]
      go_enter Tryz.func79, Tryz.ntmps79
      go_wp2
      go_ret
      exact ⟨rfl, rfl⟩
  · have hv : (decide (48 ≤ r) && decide (r ≤ 57)) = false := by rw [decide_eq_false h1, Bool.false_and]
    rw [hv]
    go_enter Tryz.func79, Tryz.ntmps79
    go_wp2
    go_ret
    exact ⟨rfl, rfl⟩
/-- Whether a rune may be in a name. -/
def letR (r : Int) : Bool := (decide (97 ≤ r) && decide (r ≤ 122)) || (decide (48 ≤ r) && decide (r ≤ 57)) || markR r
theorem letR_high {r : Int} (h : 128 ≤ r) : letR r = false := by
  unfold letR markR
  have h1 : decide (r ≤ 122) = false := decide_eq_false (by omega)
  have h2 : decide (r ≤ 57) = false := decide_eq_false (by omega)
  have h3 : decide (r < 128) = false := decide_eq_false (by omega)
  simp [h1, h2, h3]
theorem letR_low (c : UInt8) (h : c.toNat < 128) : letR (c.toNat : Int) = letB c := by
  unfold letR letB markR digB
  have h3 : decide ((c.toNat : Int) < 128) = true := decide_eq_true (by omega)
  have h4 : ((c.toNat : Int)).toNat.toUInt8 = c := by simp
  rw [h3, h4]
  simp only [Bool.true_and, Bool.decide_and]
  congr 1
  congr 1
  · congr 1
    · exact decide_eq_decide.2 (by omega)
    · exact decide_eq_decide.2 (by omega)
  · congr 1
    · exact decide_eq_decide.2 (by omega)
    · exact decide_eq_decide.2 (by omega)

theorem name_rel {s : ByteArray} {w W : World} {pos k : Nat} {c : UInt8} (hi : W.heap[w.heap.size]? = some (.stringIter s (pos + k))) (hf : Fr (fun _ => False) w W) (h1 : letB c = true) (h2 : letB c = true → k = 1) (ht : (tx s)[pos]? = some c) (ha : ((tx s).take pos).all letB = true) (hlt : pos < s.size) :
    ∃ pos : Nat, pos ≤ s.size ∧ W.heap[w.heap.size]? = some (.stringIter s pos) ∧ Fr (fun _ => False) w W ∧ Hid (((tx s).take pos).all letB = true) := by
  obtain rfl := h2 h1
  exact ⟨pos + 1, by omega, hi, hf, all_take_succ ht ha h1⟩
theorem name_less {s : ByteArray} {w wr W : World} {pos k : Nat} (h0 : wr.heap[w.heap.size]? = some (.stringIter s pos)) (hi : W.heap[w.heap.size]? = some (.stringIter s (pos + k))) (h1 : k = 1) (hlt : pos < s.size) :
    s.size - W.iterPos w.heap.size < s.size - wr.iterPos w.heap.size := by
  subst h1
  simp [World.iterPos, h0, hi]
  omega
theorem name_not {s : ByteArray} {pos : Nat} {c : UInt8} (ht : (tx s)[pos]? = some c) (h1 : letB c = false) : nameB (tx s) = false := by
  unfold nameB
  rw [all_not ht h1]
  rfl
theorem Name_in (s : ByteArray) (w : World) : Calls Tryz.prog 61 #[.string s] w fun e w' => e = .returned (.bool (nameB (tx s))) ∧ Fr (fun _ => False) w w' := by
  have KM : Hid (∀ (r : Int) (W : World), 0 ≤ r → Calls Tryz.prog 80 #[.string ⟨#[33, 35, 36, 37, 38, 39, 42, 43, 45, 46, 94, 95, 96, 124, 126]⟩, .int .i32 r] W fun e w' => e = .returned (.bool (markR r)) ∧ Fr (fun _ => False) W w') := fun r W h => marks_in r W h
  go_enter Tryz.func61, Tryz.ntmps61
  go_wp2_with (fail)
  go_loopw [4] (fun v wr => ∃ pos : Nat, pos ≤ s.size ∧ wr.heap[w.heap.size]? = some (.stringIter s pos) ∧ Fr (fun _ => False) w wr ∧ Hid (((tx s).take pos).all letB = true)) (fun _ wr => s.size - wr.iterPos w.heap.size)
  case atStart => exact ⟨0, by omega, World.iter_heap w s 0, (Fr.refl _ _).alloc _, by show _ = _; simp⟩
  case round =>
    obtain ⟨pos, hp, hit, hf, HA⟩ := hrel
    by_cases hlt : pos < s.size
    · have hnx : ∀ ty, (Instr.next (.pointer (some ⟨w.heap.size, 0, none⟩)) true ty).run Tryz.prog wr = _ := fun ty => Lib.run_next_any_at wr w.heap.size s pos ty hit hlt
      have hit2 := Lib.iterAt_heap wr w.heap.size s pos (pos + (Utf8.decode s pos).2) hit
      have hf2 : Fr (fun _ => False) w (wr.iterAt w.heap.size s (pos + (Utf8.decode s pos).2)) := hf.iterAt (Nat.le_refl _) s _
      have HT : Hid ((tx s)[pos]? = some (s[pos]'hlt)) := tx_at s pos hlt
      obtain ⟨c, hc⟩ : ∃ c, (s[pos]'hlt) = c := ⟨_, rfl⟩
      have hcase : (c.toNat < 128 ∧ Utf8.decode s pos = (c.toNat, 1)) ∨ (128 ≤ c.toNat ∧ 128 ≤ (Utf8.decode s pos).1) := by
        rw [← hc]
        by_cases ha : (s[pos]'hlt).toNat < 128
        · exact .inl ⟨ha, decode_ascii s pos hlt ha⟩
        · exact .inr ⟨by omega, (decode_high s pos hlt (by omega)).1⟩
      rw [hc] at HT
      obtain ⟨⟨r, k⟩, hrk⟩ : ∃ x, Utf8.decode s pos = x := ⟨_, rfl⟩
      rw [hrk] at hnx hit2 hf2 hcase
      dsimp only at hnx hit2 hf2 hcase
      generalize wr.iterAt w.heap.size s (pos + k) = W1 at hnx hit2 hf2
      clear hc hrk
      have hlet : letR (r : Int) = letB c ∧ (letB c = true → k = 1) := by
        rcases hcase with ⟨h1, h2⟩ | ⟨h1, h2⟩
        · simp only [Prod.mk.injEq] at h2
          exact ⟨by rw [h2.1]; exact letR_low c h1, fun _ => h2.2⟩
        · have hb : letB c = false := by
            cases hb : letB c with
            | false => rfl
            | true => have := letB_low hb; omega
          exact ⟨by rw [hb]; exact letR_high (by omega), fun h => by rw [hb] at h; cases h⟩
      have HL : Hid (letR (r : Int) = letB c ∧ (letB c = true → k = 1)) := hlet
      clear hcase hlet
      have hr0 : (0 : Int) ≤ (r : Int) := by omega
      have K1 : Hid (∀ W, Calls Tryz.prog 78 #[.int .i32 (r : Int)] W fun e w' => e = .returned (.bool (decide (97 ≤ (r : Int)) && decide ((r : Int) ≤ 122))) ∧ W = w') := fun W => mLetter_in _ W
      have K2 : Hid (∀ W, Calls Tryz.prog 79 #[.int .i32 (r : Int)] W fun e w' => e = .returned (.bool (decide (48 ≤ (r : Int)) && decide ((r : Int) ≤ 57))) ∧ W = w') := fun W => mDigit_in _ W
      have K3 : Hid (∀ W, Calls Tryz.prog 80 #[.string ⟨#[33, 35, 36, 37, 38, 39, 42, 43, 45, 46, 94, 95, 96, 124, 126]⟩, .int .i32 (r : Int)] W fun e w' => e = .returned (.bool (markR (r : Int))) ∧ Fr (fun _ => False) W w') := fun W => KM.out _ W hr0
      obtain ⟨x1, h1⟩ : ∃ x, (decide (97 ≤ (r : Int)) && decide ((r : Int) ≤ 122)) = x := ⟨_, rfl⟩
      obtain ⟨x2, h2⟩ : ∃ x, (decide (48 ≤ (r : Int)) && decide ((r : Int) ≤ 57)) = x := ⟨_, rfl⟩
      obtain ⟨x3, h3⟩ : ∃ x, markR (r : Int) = x := ⟨_, rfl⟩
      have HB : Hid (letB c = (x1 || x2 || x3) ∧ (letB c = true → k = 1)) := ⟨by rw [← HL.out.1, ← h1, ← h2, ← h3]; rfl, HL.out.2⟩
      rw [h1] at K1
      rw [h2] at K2
      rw [h3] at K3
      clear h1 h2 h3 HL KM hr0
      cases x1 with
      | true =>
        go_wp2_with (go_at_call 78; refine (K1.out _).mono ?_; rintro e w' ⟨rfl, rfl⟩)
        go_roundw
        case rel => exact name_rel hit2 hf2 HB.out.1 HB.out.2 HT.out HA.out hlt
        case measure => exact name_less hit hit2 (HB.out.2 HB.out.1) hlt
      | false =>
        cases x2 with
        | true =>
          go_wp2_with (first | (go_at_call 78; refine (K1.out _).mono ?_; rintro e w' ⟨rfl, rfl⟩) | (go_at_call 79; refine (K2.out _).mono ?_; rintro e w' ⟨rfl, rfl⟩))
          go_roundw
          case rel => exact name_rel hit2 hf2 HB.out.1 HB.out.2 HT.out HA.out hlt
          case measure => exact name_less hit hit2 (HB.out.2 HB.out.1) hlt
        | false =>
          cases x3 with
          | true =>
            go_wp2_with (first | (go_at_call 78; refine (K1.out _).mono ?_; rintro e w' ⟨rfl, rfl⟩) | (go_at_call 79; refine (K2.out _).mono ?_; rintro e w' ⟨rfl, rfl⟩) | (go_at_call 80; refine (K3.out _).mono ?_; rintro e w' ⟨rfl, hf3⟩))
            have hit3 : w'.heap[w.heap.size]? = some (.stringIter s (pos + k)) := (hf3.block _ (Array.getElem?_eq_some_iff.1 hit2).1 id).trans hit2
            have hf4 := hf2.trans hf3
            go_roundw
            case rel => exact name_rel hit3 hf4 HB.out.1 HB.out.2 HT.out HA.out hlt
            case measure => exact name_less hit hit3 (HB.out.2 HB.out.1) hlt
          | false =>
            go_wp2_with (first | (go_at_call 78; refine (K1.out _).mono ?_; rintro e w' ⟨rfl, rfl⟩) | (go_at_call 79; refine (K2.out _).mono ?_; rintro e w' ⟨rfl, rfl⟩) | (go_at_call 80; refine (K3.out _).mono ?_; rintro e w' ⟨rfl, hf3⟩))
            go_ret
            exact ⟨by rw [name_not HT.out HB.out.1]; rfl, hf2.trans hf3⟩
    · have hnx : ∀ ty, (Instr.next (.pointer (some ⟨w.heap.size, 0, none⟩)) true ty).run Tryz.prog wr = .ok (.tuple #[.bool false]) wr := fun ty => Lib.run_next_end_at wr w.heap.size s pos ty hit hlt
      have HN : Hid (nameB (tx s) = !(tx s).isEmpty) := by show _ = _; unfold nameB; rw [all_end (by rw [tx_len]; omega) HA.out]; rfl
      have he : s.toList.isEmpty = (tx s).isEmpty := by rw [tx_toList]
      obtain ⟨b, hb⟩ : ∃ b, (tx s).isEmpty = b := ⟨_, rfl⟩
      rw [hb] at he HN
      clear hb
      cases b with
      | true =>
        go_wp2
        go_ret
        exact ⟨by rw [HN.out]; rfl, hf⟩
      | false =>
        go_wp2
        go_ret
        exact ⟨by rw [HN.out]; rfl, hf⟩

/-- The document's letter. -/
def signsL : List UInt8 := [33, 35, 36, 37, 38, 39, 42, 43, 45, 46, 94, 95, 124, 126]
theorem signs_marks (c : UInt8) : (signsL.contains c || c == 96) = marksL.contains c := by
  by_cases h : c = 96
  · subst h; rfl
  · have h1 : (c == 96) = false := by simpa using h
    simp only [signsL, marksL, List.contains_cons, List.contains_nil, h1, Bool.or_false, Bool.false_or]
def signsS : ByteArray := ⟨#[33, 35, 36, 37, 38, 39, 42, 43, 45, 46, 94, 95, 124, 126]⟩
theorem letB_abc (c : UInt8) (h : 97 ≤ c.toNat ∧ c.toNat ≤ 122) : letB c = true := by unfold letB; rw [decide_eq_true h]; rfl
theorem letB_dig (c : UInt8) (h : 48 ≤ c.toNat ∧ c.toNat ≤ 57) : letB c = true := by unfold letB digB; rw [decide_eq_true h]; simp
theorem letB_rest (c : UInt8) (h : ¬ (97 ≤ c.toNat ∧ c.toNat ≤ 122)) (h2 : ¬ (48 ≤ c.toNat ∧ c.toNat ≤ 57)) : letB c = (signsL.contains c || c == 96) := by
  unfold letB digB
  rw [decide_eq_false h, decide_eq_false h2, signs_marks]
  rfl
theorem contains_at {l : List UInt8} {i : Nat} {c : UInt8} (h : l[i]? = some c) : l.contains c = true := List.contains_iff_mem.2 (List.mem_of_getElem? h)
theorem not_take {l : List UInt8} {c : UInt8} {i d : Nat} (h : c ∉ l.take i) (hx : ∃ x, l[i]? = some x ∧ x.toNat = d) (hne : ¬ d = c.toNat) : c ∉ l.take (i + 1) := by
  obtain ⟨x, hx, rfl⟩ := hx
  rw [List.take_add_one, hx]
  simp only [Option.toList_some, List.mem_append, List.mem_singleton, not_or]
  exact ⟨h, fun e => hne (by rw [e])⟩
theorem not_all {c : UInt8} {i : Nat} (h : c ∉ signsL.take i) (hi : ¬ i < 14) : signsL.contains c = false := by
  rw [List.take_of_length_le (by show 14 ≤ i; omega)] at h
  cases e : signsL.contains c with
  | false => rfl
  | true => exact absurd (List.contains_iff_mem.1 e) h
theorem rest_in (c : UInt8) (w : World) (h1 : ¬ (97 ≤ c.toNat ∧ c.toNat ≤ 122)) (h2 : ¬ (48 ≤ c.toNat ∧ c.toNat ≤ 57)) : Calls Tryz.prog 75 #[.int .u8 (c.toNat : Int)] w fun e w' => e = .returned (.bool (signsL.contains c || c == 96)) ∧ w = w' := by
  have HT : Hid (∀ i : Nat, i < 14 → ∃ d : Nat, (∀ w : World, (Instr.index 9 (.string ⟨#[33, 35, 36, 37, 38, 39, 42, 43, 45, 46, 94, 95, 124, 126]⟩) (.int .i64 (i : Int))).run Tryz.prog w = .ok (.int .u8 (d : Int)) w) ∧ Hid ((∃ x, signsL[i]? = some x ∧ x.toNat = d) ∧ (c.toNat = d → signsL[i]? = some c))) := fun i h => by
    refine ⟨(signsS[i]'h).toNat, fun w => ?_, ⟨⟨_, tx_at signsS i h, rfl⟩, fun e => ?_⟩⟩
    · have hz : ((⟨#[33, 35, 36, 37, 38, 39, 42, 43, 45, 46, 94, 95, 124, 126]⟩ : ByteArray).size : Int) = 14 := rfl
      rw [run_index_string w 9 _ .i64 (i : Int) Tryz.underlying9, dif_pos (by rw [hz]; omega)]
      rfl
    · rw [UInt8.toNat_inj.1 e]; exact tx_at signsS i h
  have hz : (⟨#[33, 35, 36, 37, 38, 39, 42, 43, 45, 46, 94, 95, 124, 126]⟩ : ByteArray).size = 14 := rfl
  have h96 : ((c.toNat : Int) == 96) = (c == 96) := by
    by_cases h : c = 96
    · subst h; rfl
    · have e1 : (c == 96) = false := by simpa using h
      rw [e1]
      have : c.toNat ≠ 96 := fun e => h (UInt8.toNat_inj.1 (by simpa using e))
      exact beq_eq_false_iff_ne.2 (by omega)
  obtain ⟨n, hn⟩ : ∃ n : Nat, c.toNat = n := ⟨_, rfl⟩
  rw [hn] at h1 h2 h96 ⊢
  have HN : Hid (c.toNat = n) := hn
  clear hn
  obtain ⟨b, hb⟩ : ∃ b, (signsL.contains c || c == 96) = b := ⟨_, rfl⟩
  rw [hb]
  have HB : Hid ((signsL.contains c || c == 96) = b) := hb
  clear hb
  go_enter Tryz.func75, Tryz.ntmps75
  by_cases g1 : 97 ≤ n
  · have g2 : ¬ n ≤ 122 := fun h => h1 ⟨g1, h⟩
    have g3 : ¬ n ≤ 57 := by omega
    have g4 : 48 ≤ n := by omega
    clear h1 h2
    go_wp2_with (fail)
    go_loopw [4] (fun v wr => ∃ i : Nat, v = .int .i64 (i : Int) ∧ i ≤ 14 ∧ w = wr ∧ Hid (c ∉ signsL.take i)) (fun v _ => 14 - (intOf v).toNat)
    case atStart => exact ⟨0, rfl, by omega, rfl, by show _ ∉ _; simp⟩
    case round =>
      obtain ⟨i, rfl, hi, rfl, HM⟩ := hrel
      have HI : Hid (i ≤ 14) := hi
      by_cases hlt : i < 14
      · obtain ⟨d, hd, HD⟩ := HT.out i hlt
        have hlt2 : (i : Int) < 14 := by omega
        by_cases hdn : d = n
        · subst hdn
          have hin : b = true := by rw [← HB.out, contains_at (HD.out.2 HN.out)]; rfl
          subst hin
          clear h96
          go_wp2_with (fail)
          go_ret
          exact ⟨rfl, rfl⟩
        · have hdn2 : ¬ (d : Int) = (n : Int) := by omega
          go_wp2_with (fail)
          go_roundw
          case rel => exact ⟨i + 1, by go_num, by omega, trivial, not_take HM.out (HD.out.1) (fun e => hdn (e.trans HN.out))⟩
          case measure => simp [intOf]; omega
      · have hlt2 : ¬ (i : Int) < 14 := by omega
        have hin : b = (c == 96) := by rw [← HB.out, not_all HM.out hlt]; rfl
        clear HB HI
        subst hin
        go_wp2_with (fail)
        go_ret
        exact ⟨rfl, rfl⟩
  · by_cases g4 : 48 ≤ n
    · have g3 : ¬ n ≤ 57 := fun h => h2 ⟨g4, h⟩
      clear h1 h2
      go_wp2_with (fail)
      go_loopw [4] (fun v wr => ∃ i : Nat, v = .int .i64 (i : Int) ∧ i ≤ 14 ∧ w = wr ∧ Hid (c ∉ signsL.take i)) (fun v _ => 14 - (intOf v).toNat)
      case atStart => exact ⟨0, rfl, by omega, rfl, by show _ ∉ _; simp⟩
      case round =>
        obtain ⟨i, rfl, hi, rfl, HM⟩ := hrel
        have HI : Hid (i ≤ 14) := hi
        by_cases hlt : i < 14
        · obtain ⟨d, hd, HD⟩ := HT.out i hlt
          have hlt2 : (i : Int) < 14 := by omega
          by_cases hdn : d = n
          · subst hdn
            have hin : b = true := by rw [← HB.out, contains_at (HD.out.2 HN.out)]; rfl
            subst hin
            clear h96
            go_wp2_with (fail)
            go_ret
            exact ⟨rfl, rfl⟩
          · have hdn2 : ¬ (d : Int) = (n : Int) := by omega
            go_wp2_with (fail)
            go_roundw
            case rel => exact ⟨i + 1, by go_num, by omega, trivial, not_take HM.out (HD.out.1) (fun e => hdn (e.trans HN.out))⟩
            case measure => simp [intOf]; omega
        · have hlt2 : ¬ (i : Int) < 14 := by omega
          have hin : b = (c == 96) := by rw [← HB.out, not_all HM.out hlt]; rfl
          clear HB HI
          subst hin
          go_wp2_with (fail)
          go_ret
          exact ⟨rfl, rfl⟩
    · clear h1 h2
      go_wp2_with (fail)
      go_loopw [4] (fun v wr => ∃ i : Nat, v = .int .i64 (i : Int) ∧ i ≤ 14 ∧ w = wr ∧ Hid (c ∉ signsL.take i)) (fun v _ => 14 - (intOf v).toNat)
      case atStart => exact ⟨0, rfl, by omega, rfl, by show _ ∉ _; simp⟩
      case round =>
        obtain ⟨i, rfl, hi, rfl, HM⟩ := hrel
        have HI : Hid (i ≤ 14) := hi
        by_cases hlt : i < 14
        · obtain ⟨d, hd, HD⟩ := HT.out i hlt
          have hlt2 : (i : Int) < 14 := by omega
          by_cases hdn : d = n
          · subst hdn
            have hin : b = true := by rw [← HB.out, contains_at (HD.out.2 HN.out)]; rfl
            subst hin
            clear h96
            go_wp2_with (fail)
            go_ret
            exact ⟨rfl, rfl⟩
          · have hdn2 : ¬ (d : Int) = (n : Int) := by omega
            go_wp2_with (fail)
            go_roundw
            case rel => exact ⟨i + 1, by go_num, by omega, trivial, not_take HM.out (HD.out.1) (fun e => hdn (e.trans HN.out))⟩
            case measure => simp [intOf]; omega
        · have hlt2 : ¬ (i : Int) < 14 := by omega
          have hin : b = (c == 96) := by rw [← HB.out, not_all HM.out hlt]; rfl
          clear HB HI
          subst hin
          go_wp2_with (fail)
          go_ret
          exact ⟨rfl, rfl⟩
theorem letter_in (c : UInt8) (w : World) : Calls Tryz.prog 75 #[.int .u8 (c.toNat : Int)] w fun e w' => e = .returned (.bool (letB c)) ∧ w = w' := by
  by_cases h1 : 97 ≤ c.toNat ∧ c.toNat ≤ 122
  · rw [letB_abc c h1]
    obtain ⟨h2, h3⟩ := h1
    generalize c.toNat = n at h2 h3
    go_enter Tryz.func75, Tryz.ntmps75
    go_wp2
    go_ret
    exact ⟨rfl, rfl⟩
  · by_cases h2 : 48 ≤ c.toNat ∧ c.toNat ≤ 57
    · rw [letB_dig c h2]
      clear h1
      obtain ⟨h2, h3⟩ := h2
      generalize c.toNat = n at h2 h3
      have h4 : ¬ 97 ≤ n := by omega
      go_enter Tryz.func75, Tryz.ntmps75
      go_wp2
      go_ret
      exact ⟨rfl, rfl⟩
    · rw [letB_rest c h1 h2]
      exact rest_in c w h1 h2
theorem index_tx (s : ByteArray) (i : Nat) (h : i < s.size) : ∀ w : World, (Instr.index 9 (.string s) (.int .i64 (i : Int))).run Tryz.prog w = .ok (.int .u8 ((s[i]'h).toNat : Int)) w := fun w => by
  rw [run_index_string w 9 s .i64 (i : Int) Tryz.underlying9, dif_pos (by omega)]
  rfl
theorem rName_in (s : ByteArray) (w : World) (hs : s.size < 2 ^ 60) : Calls Tryz.prog 54 #[.string s] w fun e w' => e = .returned (.bool (nameB (tx s))) ∧ w = w' := by
  have KL : Hid (∀ (c : UInt8) (W : World), Calls Tryz.prog 75 #[.int .u8 (c.toNat : Int)] W fun e w' => e = .returned (.bool (letB c)) ∧ W = w') := fun c W => letter_in c W
  go_enter Tryz.func54, Tryz.ntmps54
  go_wp2_with (fail)
  go_loopw [3] (fun v wr => ∃ i : Nat, v = .int .i64 (i : Int) ∧ i ≤ s.size ∧ w = wr ∧ Hid (((tx s).take i).all letB = true)) (fun v _ => s.size - (intOf v).toNat)
  case atStart => exact ⟨0, rfl, by omega, rfl, by show _ = _; simp⟩
  case round =>
    obtain ⟨i, rfl, hi, rfl, HA⟩ := hrel
    by_cases hlt : i < s.size
    · have hlt2 : (i : Int) < (s.size : Int) := by omega
      have HT : Hid ((tx s)[i]? = some (s[i]'hlt)) := tx_at s i hlt
      have hix := index_tx s i hlt
      generalize (s[i]'hlt) = c at HT hix
      have K1 := KL.out c w
      obtain ⟨b, hb⟩ : ∃ b, letB c = b := ⟨_, rfl⟩
      rw [hb] at K1
      have HB : Hid (letB c = b) := hb
      clear hb KL
      cases b with
      | true =>
        go_wp2_with (go_at_call 75; refine K1.mono ?_; rintro e w' ⟨rfl, rfl⟩)
        go_roundw
        case rel => exact ⟨i + 1, by go_num, by omega, trivial, all_take_succ HT.out HA.out HB.out⟩
        case measure => simp [intOf]; omega
      | false =>
        go_wp2_with (go_at_call 75; refine K1.mono ?_; rintro e w' ⟨rfl, rfl⟩)
        go_ret
        exact ⟨by rw [name_not HT.out HB.out]; rfl, rfl⟩
    · have hlt2 : ¬ (i : Int) < (s.size : Int) := by omega
      have HN : Hid (nameB (tx s) = !(tx s).isEmpty) := by show _ = _; unfold nameB; rw [all_end (by rw [tx_len]; omega) HA.out]; rfl
      have he : s.toList.isEmpty = (tx s).isEmpty := by rw [tx_toList]
      obtain ⟨b, hb⟩ : ∃ b, (tx s).isEmpty = b := ⟨_, rfl⟩
      rw [hb] at he HN
      clear hb
      cases b with
      | true =>
        go_wp2
        go_ret
        exact ⟨by rw [HN.out]; rfl, rfl⟩
      | false =>
        go_wp2
        go_ret
        exact ⟨by rw [HN.out]; rfl, rfl⟩
end Go.Proofs.YtplggcfoadjffaaGreatDoor
