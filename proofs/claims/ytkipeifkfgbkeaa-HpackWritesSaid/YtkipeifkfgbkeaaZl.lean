/- The walk of HpackWrites. -/
import Derived.Test.YtkipeifkfgbkeaaMZi
namespace Go.Proofs.Ytkipeifkfgbkeaa
open Go.RowKit
set_option maxRecDepth 100000
set_option maxHeartbeats 16000000
set_option linter.unusedVariables false

theorem writes_bad (most : Int) (q : Option Addr) (n c : Nat) (w : World) (hb : ¬ (0 ≤ most ∧ most ≤ 65536)) :
    Calls Try.prog 3 #[.int .i64 most, .slice q n c] w fun e w' => e = .returned (.bool true) ∧ Below w.heap.size w w' := by
  have K1 : Hid (Calls Try.prog 4 #[.int .i64 most] w fun r w' => r = .returned (.tuple #[.pointer none, .int .i64 1]) ∧ w = w') := NewEncoder_bad most w hb
  have K2 : Hid (Calls Try.prog 5 #[.int .i64 most] w fun r w' => r = .returned (.tuple #[.pointer none, .int .i64 1]) ∧ w = w') := rNewE_bad most w hb
  have K3 : Hid (Calls Try.prog 12 #[] w fun e w' => e = .returned (.bool true) ∧ Hid (Below w.heap.size w w')) := awake_in w
  clear hb
  go_enter Try.func3, Try.ntmps3
  go_wp2_with (first
    | (go_at_call 4; refine K1.out.mono ?_; rintro e w' ⟨rfl, rfl⟩)
    | (go_at_call 5; refine K2.out.mono ?_; rintro e w' ⟨rfl, rfl⟩))
  go_loopw [9] (fun x9 wr => x9 = .int .i64 0 ∧ w = wr) (fun _ _ => 0)
  case atStart => exact ⟨rfl, rfl⟩
  case round =>
    obtain ⟨rfl, rfl⟩ := hrel
    go_wp2_with (first
      | (go_at_call 12; refine K3.out.mono ?_; rintro e w3 ⟨rfl, B3⟩))
    go_ret
    exact ⟨rfl, B3.out⟩
theorem writes_walk (most : Int) (q : Option Addr) (c : Nat) (ops : List (Int × Int × Option Addr × Nat × List (ByteArray × ByteArray × Bool))) (w : World) (hO : OpsL w q ops) :
    Calls Try.prog 3 #[.int .i64 most, .slice q ops.length c] w fun e w' => e = .returned (.bool true) ∧ Below w.heap.size w w' := by
  by_cases hb : 0 ≤ most ∧ most ≤ 65536
  · obtain ⟨n, rfl⟩ : ∃ n : Nat, most = (n : Int) := ⟨most.toNat, by omega⟩
    have hn : n ≤ 65536 := by omega
    have K1 : Hid (Calls Try.prog 4 #[.int .i64 (n : Int)] w fun z w' => ∃ e x t, z = .returned (.tuple #[.pointer (some ⟨e, 0, none⟩), .int .i64 0]) ∧ Hid (Enc w' e x t (.slice none 0 0) n [] n n ∧ Below w.heap.size w w' ∧ w.heap.size ≤ e ∧ w.heap.size ≤ x ∧ w.heap.size ≤ t)) :=
      (NewEncoder_in n w hn).mono (fun z w' ⟨e, x, t, h1, h2⟩ => ⟨e, x, t, h1, h2⟩)
    have K2 : Hid (∀ e x t w1, Enc w1 e x t (.slice none 0 0) n [] n n ∧ Below w.heap.size w w1 ∧ w.heap.size ≤ e ∧ w.heap.size ≤ x ∧ w.heap.size ≤ t → Calls Try.prog 5 #[.int .i64 (n : Int)] w1 fun z w2 => ∃ r s, z = .returned (.tuple #[.pointer (some ⟨r, 0, none⟩), .int .i64 0]) ∧ Hid (Two w w2 e x t (.slice none 0 0) r s (.slice none 0 0) n [] n n 65537)) := fun e x t w1 ⟨h1, h2, h3, h4, h5⟩ => by
      refine (rNewE_in n w1 hn).mono ?_
      rintro z w2 ⟨r, s, rfl, a1, a2, a3, a4⟩
      refine ⟨r, s, rfl, ⟨h1.below a2, a1, by omega, fun k hk => ?_, fun k hk hr => ?_, h2.trans (a2.mono h2.size)⟩⟩
      · have := h2.size
        rcases hk with (hk | hk | hk | hk) | hk | hk | hk
        · omega
        · omega
        · omega
        · cases hk
        · omega
        · omega
        · cases hk
      · have := h1.lt hk
        rcases hr with hr | hr | hr
        · omega
        · omega
        · cases hr
    have HO : Hid (OpsL w q ops) := hO
    obtain ⟨N, hN⟩ : ∃ N, ops.length = N := ⟨_, rfl⟩
    have HN : Hid (ops.length = N) := hN
    have hN47 : N < 2 ^ 47 := by have := hO.few; omega
    rw [hN]
    have hmx : Try.prog.follows .mixedOrders = true := by kernel_rfl
    clear hO hN hb
    go_enter Try.func3, Try.ntmps3
    go_wp2_with (first
      | (go_at_call 4; refine K1.out.mono ?_; rintro z w1 ⟨e, x, t, rfl, H1⟩)
      | (go_at_call 5; refine (K2.out e x t w1 H1.out).mono ?_; rintro z w2 ⟨r, s, rfl, H2⟩))
    clear K1 K2 H1
    go_loopw [9] (fun x9 wr => ∃ (i : Nat) (v u : Value) (m told least rleast : Nat) (E : List (ByteArray × ByteArray)), x9 = .int .i64 (i : Int) ∧ i ≤ N ∧ Hid (Two w wr e x t v r s u m E told least rleast)) (fun x9 _ => N - (intOf x9).toNat)
    case atStart => exact ⟨0, _, _, _, _, _, _, _, rfl, by omega, H2⟩
    case round =>
      obtain ⟨i, v, u, m, told, least, rleast, E, rfl, hi, HT⟩ := hrel
      have HC : Hid (∀ w' v' u' m' told' least' rleast' E', Two w w' e x t v' r s u' m' E' told' least' rleast' → w'.cell? ⟨r, 0, none⟩ = some (.pointer (some ⟨s, 0, none⟩))) := fun w' v' u' m' told' least' rleast' E' h => cell_of_heap h.ref.at_ rfl
      by_cases hin : i < N
      · obtain ⟨op, hop⟩ : ∃ op, ops[i]? = some op := ⟨ops[i]'(by rw [HN.out]; exact hin), List.getElem?_eq_getElem _⟩
        have hin2 : (i : Int) < (N : Int) := by omega
        obtain ⟨bb, o, rfl, hbb, c0, c1, c2, wf0, wf1, hl⟩ := (HO.out.later HT.out.fr).cells i op hop
        have HOP : Hid (∀ w', Below w.heap.size w w' → w'.cell? ⟨bb, o + i * 3, none⟩ = some (.int .i64 op.1) ∧ w'.cell? ⟨bb, o + i * 3 + 1, none⟩ = some (.int .i64 op.2.1) ∧ w'.cell? ⟨bb, o + i * 3 + 2, none⟩ = some (.slice op.2.2.1 op.2.2.2.2.length op.2.2.2.1) ∧ HL w' op.2.2.1 op.2.2.2.1 op.2.2.2.2) := fun w' b => by
          obtain ⟨b2, o2, e2, -, k0, k1, k2, -, -, k3⟩ := (HO.out.later b).cells i op hop
          cases e2
          exact ⟨k0, k1, k2, k3⟩
        have HQ : Hid (∀ a, op.2.2.1 = some a → op.2.2.2.2 ≠ [] → a.block < w.heap.size) := fun a ha hne => by
          obtain ⟨_, _, _, _, _, _, _, _, _, k3⟩ := HO.out.cells i op hop
          obtain ⟨b3, o3, e3, hb3, -⟩ := k3.cells 0 (op.2.2.2.2[0]'(List.length_pos_iff.2 hne)) (List.getElem?_eq_getElem _)
          rw [ha] at e3
          cases e3
          exact hb3
        obtain ⟨wh, nn, ql, cl, l⟩ := op
        dsimp only at c0 c1 c2 wf0 wf1 hl HOP HQ
        have HL0 : Hid (HL wr ql cl l) := hl
        clear hop hbb hl wf0 wf1
        by_cases hw1 : wh = 1
        · subst hw1
          obtain ⟨e0, e1, e2, -⟩ := HOP.out wr.drew (HT.out.fr.drew)
          by_cases hnb : 0 ≤ nn ∧ nn ≤ 65536
          · obtain ⟨k, rfl⟩ : ∃ k : Nat, nn = (k : Int) := ⟨nn.toNat, by omega⟩
            have hk : k ≤ 65536 := by omega
            have KL1 : Hid (Calls Try.prog 6 #[.pointer (some ⟨e, 0, none⟩), .int .i64 (k : Int)] wr.drew fun q w1 => q = .returned (.int .i64 0) ∧ ∃ v', Hid (Mid w wr.drew w1 e x t v v' r s u m E told least rleast k (fallen (k : Int) E) told (min least k))) := tLim1 (HT.out.below (Below.refl _ wr).drew) k hk
            have KL2 : Hid (∀ w1 v', Mid w wr.drew w1 e x t v v' r s u m E told least rleast k (fallen (k : Int) E) told (min least k) → Calls Try.prog 7 #[.pointer (some ⟨r, 0, none⟩), .int .i64 (k : Int)] w1 fun q w2 => q = .returned (.int .i64 0) ∧ ∃ u', Hid (Two w w2 e x t v' r s u' k (fallen (k : Int) E) told (min least k) (min rleast k))) := fun w1 v' h => tLim2 h hk
            have HML : Hid (∀ w1 v', Mid w wr.drew w1 e x t v v' r s u m E told least rleast k (fallen (k : Int) E) told (min least k) → Below w.heap.size w w1) := fun w1 v' h => h.low
            generalize fallen (k : Int) E = E2 at KL1 KL2 HML
            generalize min least k = least2 at KL1 KL2 HML
            generalize min rleast k = rleast2 at KL2
            clear hnb
            go_wp2_with (fail)
            go_region_held_law (fun w' => w'.cell? ⟨bb, o + i * 3 + 1, none⟩ = some (.int .i64 (k : Int))) (first | exact e1 | exact f1 | exact g1 | go_keep)
              (first
                | (go_at_call 6; refine KL1.out.mono ?_; rintro z w3 ⟨rfl, v3, H3⟩; have f1 := (HOP.out w3 (HML.out _ _ H3.out)).2.1)
                | (go_at_call 7; refine (KL2.out _ _ H3.out).mono ?_; rintro z w4 ⟨rfl, u4, H4⟩; have g1 := (HOP.out w4 H4.out.fr).2.1))
            all_goals go_wp2_with (fail)
            all_goals have H5 : Hid (Two w w4.drew e x t v3 r s u4 k E2 told least2 rleast2) := H4.out.below (Below.refl _ w4).drew
            all_goals have cr := HC.out _ _ _ _ _ _ _ _ H5.out
            all_goals have KB1 : Hid (Calls Try.prog 10 #[.pointer (some ⟨e, 0, none⟩)] w4.drew fun q w1 => q = .returned (.int .i64 (total E2 : Int)) ∧ w4.drew = w1) := tBytes1 H5.out
            all_goals have KB2 : Hid (Calls Try.prog 11 #[.pointer (some ⟨s, 0, none⟩)] w4.drew fun q w1 => q = .returned (.int .i64 (total E2 : Int)) ∧ Hid (Two w w1 e x t v3 r s u4 k E2 told least2 rleast2)) := tBytes2 H5.out
            all_goals go_region_held_law (fun w' => w'.cell? ⟨r, 0, none⟩ = some (.pointer (some ⟨s, 0, none⟩))) (first | exact cr | exact cr6 | go_keep)
              (first
                | (go_at_call 10; refine KB1.out.mono ?_; rintro z w5 ⟨rfl, rfl⟩)
                | (go_at_call 11; refine KB2.out.mono ?_; rintro z w6 ⟨rfl, H6⟩; have cr6 := HC.out _ _ _ _ _ _ _ _ H6.out))
            all_goals go_wp2_with (fail)
            all_goals refine ⟨⟨i + 1, v3, u4, k, told, least2, rleast2, E2, by go_num, by omega, H6⟩, ?_⟩
            all_goals (simp [intOf]; omega)
          · have KL1 : Hid (Calls Try.prog 6 #[.pointer (some ⟨e, 0, none⟩), .int .i64 nn] wr.drew fun q w1 => q = .returned (.int .i64 1) ∧ wr.drew = w1) := Limit_bad e x t v m told least nn E _ (HT.out.below (Below.refl _ wr).drew).enc hnb
            have KL2 : Hid (Calls Try.prog 7 #[.pointer (some ⟨r, 0, none⟩), .int .i64 nn] wr.drew fun q w1 => q = .returned (.int .i64 1) ∧ wr.drew = w1) := rLimit_bad r s u m told rleast nn E _ (HT.out.below (Below.refl _ wr).drew).ref hnb
            clear hnb
            have H4 : Hid (Two w wr.drew e x t v r s u m E told least rleast) := HT.out.below (Below.refl _ wr).drew
            go_wp2_with (fail)
            go_region_held_law (fun w' => w'.cell? ⟨bb, o + i * 3 + 1, none⟩ = some (.int .i64 nn)) (first | exact e1 | go_keep)
              (first
                | (go_at_call 6; refine KL1.out.mono ?_; rintro z w3 ⟨rfl, rfl⟩)
                | (go_at_call 7; refine KL2.out.mono ?_; rintro z w4 ⟨rfl, rfl⟩))
            all_goals go_wp2_with (fail)
            all_goals have H5 : Hid (Two w wr.drew.drew e x t v r s u m E told least rleast) := H4.out.below (Below.refl _ wr.drew).drew
            all_goals have cr := HC.out _ _ _ _ _ _ _ _ H5.out
            all_goals have KB1 : Hid (Calls Try.prog 10 #[.pointer (some ⟨e, 0, none⟩)] wr.drew.drew fun q w1 => q = .returned (.int .i64 (total E : Int)) ∧ wr.drew.drew = w1) := tBytes1 H5.out
            all_goals have KB2 : Hid (Calls Try.prog 11 #[.pointer (some ⟨s, 0, none⟩)] wr.drew.drew fun q w1 => q = .returned (.int .i64 (total E : Int)) ∧ Hid (Two w w1 e x t v r s u m E told least rleast)) := tBytes2 H5.out
            all_goals go_region_held_law (fun w' => w'.cell? ⟨r, 0, none⟩ = some (.pointer (some ⟨s, 0, none⟩))) (first | exact cr | exact cr6 | go_keep)
              (first
                | (go_at_call 10; refine KB1.out.mono ?_; rintro z w5 ⟨rfl, rfl⟩)
                | (go_at_call 11; refine KB2.out.mono ?_; rintro z w6 ⟨rfl, H6⟩; have cr6 := HC.out _ _ _ _ _ _ _ _ H6.out))
            all_goals go_wp2_with (fail)
            all_goals refine ⟨⟨i + 1, v, u, m, told, least, rleast, E, by go_num, by omega, H6⟩, ?_⟩
            all_goals (simp [intOf]; omega)
        · have hw2 : (wh == 1) = false := by rw [beq_eq_false_iff_ne]; exact hw1
          clear hw1
          obtain ⟨q3, cc3, w3, hr3, hl3, b3, hq3⟩ := copy_run HL0.out
          have HR3 : Hid ((Builtin.append_ #[30, 30] 30 #[.slice (some ⟨wr.heap.size, 0, none⟩) 0 0, .slice ql l.length cl]).run Try.prog (wr.alloc (.cells #[] 59)) = .ok (.slice q3 l.length cc3) w3) := hr3
          have HT3 : Hid (Two w w3 e x t v r s u m E told least rleast) := HT.out.below b3
          have d2 : ∀ w', Below w.heap.size w w' → w'.cell? ⟨bb, o + i * 3 + 2, none⟩ = some (.slice ql l.length cl) := fun w' b => (HOP.out w' b).2.2.1
          have e2 := d2 (wr.alloc (.cells #[] 59)) (HT.out.fr.alloc HT.out.fr.size _)
          have e3 := d2 w3 HT3.out.fr
          have HD2 : Hid (∀ w', Below w.heap.size w w' → w'.cell? ⟨bb, o + i * 3 + 2, none⟩ = some (.slice ql l.length cl)) := d2
          clear d2
          by_cases hlong : LongL l
          · have KE1 : Hid (Calls Try.prog 8 #[.pointer (some ⟨e, 0, none⟩), .slice q3 l.length cc3] w3 fun z w' => z = .returned (.tuple #[.slice none 0 0, .int .i64 2]) ∧ Hid (Below w3.heap.size w3 w')) := Encode_long e x t v m told least E q3 cc3 l w3 HT3.out.enc hl3 hlong
            have KE2 : Hid (∀ w', Below w.heap.size w w' → Calls Try.prog 9 #[.pointer (some ⟨r, 0, none⟩), .slice ql l.length cl] w' fun z w2 => z = .returned (.tuple #[.slice none 0 0, .int .i64 2]) ∧ w' = w2) := fun w' b => rEncode_long r s u m told rleast E ql cl l w' (HOP.out w' b).2.2.2 hlong
            have sn : ∀ w', (convert 35 9 (.slice none 0 0)).run Try.prog w' = .ok (.string ⟨#[]⟩) w' := fun w' => SrcAt.str (SrcAt.nil w' none) rfl 0
            clear hr3 hl3 hq3 b3 hlong
            go_wp2_with (first
              | (at_builtin; refine wpList_append_run rfl (.tmp 67) (.tmp 72) 30 rfl (.slice (some ⟨wr.heap.size, 0, none⟩) 0 0) (.slice ql l.length cl) (.slice q3 l.length cc3) (by go_simp) (by go_simp) HR3.out ?_)
              | (go_at_call 8; refine KE1.out.mono ?_; rintro z w4 ⟨rfl, B4⟩; have H4 : Hid (Two w w4 e x t v r s u m E told least rleast) := HT3.out.below B4.out; have e4 := HD2.out w4 H4.out.fr)
              | (go_at_call 9; refine (KE2.out w4 H4.out.fr).mono ?_; rintro z w7 ⟨rfl, rfl⟩))
            all_goals go_wp2_with (fail)
            all_goals have H5 : Hid (Two w w4.drew e x t v r s u m E told least rleast) := H4.out.below (Below.refl _ w4).drew
            all_goals have cr := HC.out _ _ _ _ _ _ _ _ H5.out
            all_goals have KB1 : Hid (Calls Try.prog 10 #[.pointer (some ⟨e, 0, none⟩)] w4.drew fun q w1 => q = .returned (.int .i64 (total E : Int)) ∧ w4.drew = w1) := tBytes1 H5.out
            all_goals have KB2 : Hid (Calls Try.prog 11 #[.pointer (some ⟨s, 0, none⟩)] w4.drew fun q w1 => q = .returned (.int .i64 (total E : Int)) ∧ Hid (Two w w1 e x t v r s u m E told least rleast)) := tBytes2 H5.out
            all_goals go_region_held_law (fun w' => w'.cell? ⟨r, 0, none⟩ = some (.pointer (some ⟨s, 0, none⟩))) (first | exact cr | exact cr6 | go_keep)
              (first
                | (go_at_call 10; refine KB1.out.mono ?_; rintro z w5 ⟨rfl, rfl⟩)
                | (go_at_call 11; refine KB2.out.mono ?_; rintro z w6 ⟨rfl, H6⟩; have cr6 := HC.out _ _ _ _ _ _ _ _ H6.out))
            all_goals go_wp2_with (fail)
            all_goals refine ⟨⟨i + 1, v, u, m, told, least, rleast, E, by go_num, by omega, H6⟩, ?_⟩
            all_goals (simp [intOf]; omega)
          · have KE1 : Hid (Calls Try.prog 8 #[.pointer (some ⟨e, 0, none⟩), .slice q3 l.length cc3] w3 fun z w1 => ∃ a n cc, z = .returned (.tuple #[.slice a n cc, .int .i64 0]) ∧ ∃ v', Hid (Mid w w3 w1 e x t v v' r s u m E told least rleast m (tabL m E l) m m ∧ OwnAt w1 5 (.slice a n cc) (bv (encB m told least E l)))) := tEnc1 HT3.out hl3 hlong (fun a ha _ hk => by have := hq3 a ha; have := HT.out.enc.lt hk; omega)
            have KE2 : Hid (∀ w1 v' a n cc, Mid w w3 w1 e x t v v' r s u m E told least rleast m (tabL m E l) m m ∧ OwnAt w1 5 (.slice a n cc) (bv (encB m told least E l)) → Calls Try.prog 9 #[.pointer (some ⟨r, 0, none⟩), .slice ql l.length cl] w1 fun z w2 => ∃ a2 n2 c2, z = .returned (.tuple #[.slice a2 n2 c2, .int .i64 0]) ∧ (convert 35 9 (.slice a n cc)).run Try.prog w2 = .ok (.string ⟨(encB m told least E l).toArray⟩) w2 ∧ (convert 35 9 (.slice a2 n2 c2)).run Try.prog w2 = .ok (.string ⟨(encB m told least E l).toArray⟩) w2 ∧ ∃ u', Hid (Two w w2 e x t v' r s u' m (tabL m E l) m m 65537)) := fun w1 v' a n cc h => tEnc2 h.1 h.2 rfl (HOP.out w1 h.1.low).2.2.2 hlong HQ.out
            have HML : Hid (∀ w1 v' a n cc, Mid w w3 w1 e x t v v' r s u m E told least rleast m (tabL m E l) m m ∧ OwnAt w1 5 (.slice a n cc) (bv (encB m told least E l)) → Below w.heap.size w w1) := fun w1 v' a n cc h => h.1.low
            generalize (⟨(encB m told least E l).toArray⟩ : ByteArray) = BB at KE2
            generalize encB m told least E l = BL at KE1 KE2 HML
            generalize tabL m E l = E2 at KE1 KE2 HML
            clear hr3 hl3 hq3 b3 hlong
            go_wp2_with (first
              | (at_builtin; refine wpList_append_run rfl (.tmp 67) (.tmp 72) 30 rfl (.slice (some ⟨wr.heap.size, 0, none⟩) 0 0) (.slice ql l.length cl) (.slice q3 l.length cc3) (by go_simp) (by go_simp) HR3.out ?_)
              | (go_at_call 8; refine KE1.out.mono ?_; rintro z w7 ⟨a7, n7, c7, rfl, v7, H7⟩; have e7 := HD2.out w7 (HML.out _ _ _ _ _ H7.out))
              | (go_at_call 9; refine (KE2.out _ _ _ _ _ H7.out).mono ?_; rintro z w4 ⟨a8, n8, c8, rfl, s1, s2, u8, H4⟩))
            all_goals go_wp2_with (fail)
            all_goals have H5 : Hid (Two w w4.drew e x t v7 r s u8 m E2 m m 65537) := H4.out.below (Below.refl _ w4).drew
            all_goals have cr := HC.out _ _ _ _ _ _ _ _ H5.out
            all_goals have KB1 : Hid (Calls Try.prog 10 #[.pointer (some ⟨e, 0, none⟩)] w4.drew fun q w1 => q = .returned (.int .i64 (total E2 : Int)) ∧ w4.drew = w1) := tBytes1 H5.out
            all_goals have KB2 : Hid (Calls Try.prog 11 #[.pointer (some ⟨s, 0, none⟩)] w4.drew fun q w1 => q = .returned (.int .i64 (total E2 : Int)) ∧ Hid (Two w w1 e x t v7 r s u8 m E2 m m 65537)) := tBytes2 H5.out
            all_goals go_region_held_law (fun w' => w'.cell? ⟨r, 0, none⟩ = some (.pointer (some ⟨s, 0, none⟩))) (first | exact cr | exact cr6 | go_keep)
              (first
                | (go_at_call 10; refine KB1.out.mono ?_; rintro z w5 ⟨rfl, rfl⟩)
                | (go_at_call 11; refine KB2.out.mono ?_; rintro z w6 ⟨rfl, H6⟩; have cr6 := HC.out _ _ _ _ _ _ _ _ H6.out))
            all_goals go_wp2_with (fail)
            all_goals refine ⟨⟨i + 1, v7, u8, m, m, m, 65537, E2, by go_num, by omega, H6⟩, ?_⟩
            all_goals (simp [intOf]; omega)
      · obtain rfl : i = N := by omega
        have K3 : Hid (Calls Try.prog 12 #[] wr fun e w' => e = .returned (.bool true) ∧ Hid (Below wr.heap.size wr w')) := awake_in wr
        go_wp2_with (first
          | (go_at_call 12; refine K3.out.mono ?_; rintro z w3 ⟨rfl, B3⟩))
        go_ret
        exact ⟨rfl, (HT.out.below B3.out).fr⟩
  · exact writes_bad most q _ c w hb
end Go.Proofs.Ytkipeifkfgbkeaa
