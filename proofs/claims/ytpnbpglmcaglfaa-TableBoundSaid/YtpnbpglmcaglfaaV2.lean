/- The walk of TableBound. -/
import Derived.Test.YtpnbpglmcaglfaaV1
namespace Go.Proofs.Ytpnbpglmcaglfaa
open Go.RowKit
set_option maxRecDepth 100000
set_option maxHeartbeats 8000000
set_option linter.unusedVariables false

theorem bound_walk (m0 : Nat) (hm0 : m0 ≤ 65535) (q : Option Addr) (n c b o : Nat) (O : Nat → Int × Int × ByteArray × ByteArray × Bool) (w : World) (hO : OpsAt w q n b o O) :
    Calls Try.prog 6 #[.int .u16 (m0 : Int), .slice q n c] w fun e w' => e = .returned (.bool true) ∧ Below w.heap.size w w' := by
  have KN := New_in m0 w (by omega)
  have H0 : Hid (Tab0 w (w.alloc (.cells #[.bool true, .int .i64 (m0 : Int), .int .i64 0, .slice none 0 0] 55)) w.heap.size (.slice none 0 0) m0 []) := Tab0.new w m0 (by omega)
  have HO : Hid (OpsAt w q n b o O) := hO
  have hn := hO.few
  clear hO
  go_enter Try.func6, Try.ntmps6
  go_wp2_with (go_at_call 14; refine KN.mono ?_; clear KN; rintro e w' ⟨rfl, rfl⟩)
  generalize w.alloc (.cells #[.bool true, .int .i64 (m0 : Int), .int .i64 0, .slice none 0 0] 55) = w1 at H0 ⊢
  obtain ⟨t, ht⟩ : ∃ t, w.heap.size = t := ⟨_, rfl⟩
  rw [ht] at H0 ⊢
  go_loopw [7] (fun x7 wr => ∃ (i : Nat) (v : Value) (m : Nat) (E : List (ByteArray × ByteArray)), x7 = .int .i64 (i : Int) ∧ i ≤ n ∧ Tab0 w wr t v m E)
    (fun x7 wr => n - (intOf x7).toNat)
  case atStart => exact ⟨0, _, _, _, rfl, by omega, H0.out⟩
  case round =>
    obtain ⟨i, v, m, E, rfl, hi, hT⟩ := hrel
    have HT : Hid (Tab0 w wr t v m E) := hT
    clear hT H0
    by_cases hin : i < n
    · obtain ⟨hb, c0, c1, c2, c3, c4, wf0, wf1, s1, s2⟩ := (OpsAt.later HO.out HT.out.fr).cells i hin
      obtain rfl := HO.out.addr (by omega)
      generalize O i = op at c0 c1 c2 c3 c4 wf0 wf1 s1 s2
      obtain ⟨wh, N, nm, vl, sc⟩ := op
      dsimp only at c0 c1 c2 c3 c4 wf0 wf1 s1 s2
      obtain ⟨sz, hsz⟩ : ∃ sz, nm.size + vl.size + 32 = sz := ⟨_, rfl⟩
      have hesz : esz (nm, vl) = sz := hsz
      have KS := fun w' => Size_in nm vl sc w' (by omega) (by omega)
      rw [hsz] at KS
      have hszb : sz < 2 ^ 50 := by omega
      have H1 : Hid (Tab0 w (wr.alloc (.cells #[.int .i64 wh, .int .i64 N, .string nm, .string vl, .bool sc] 42)) t v m E) := HT.out.alloc _
      have HB : Hid (∀ w4, Fr (fun k => k = t ∨ v.ownBlock = some k) (wr.alloc (.cells #[.int .i64 wh, .int .i64 N, .string nm, .string vl, .bool sc] 42)) w4 → w4.heap[wr.heap.size]? = some (.cells #[.int .i64 wh, .int .i64 N, .string nm, .string vl, .bool sc] 42)) := fun w4 f => by
        refine (f.block wr.heap.size (by simp) (fun hk => ?_)).trans (heap_alloc_new wr _)
        have := HT.out.tab.own_lt hk
        omega
      have hm16 : m ≤ 65536 := HT.out.most
      by_cases hw0 : wh = 0
      · subst hw0
        have KA := Add0 H1.out nm vl sc s1 s2
        have KG : Hid (∀ w4 v4, Tab0 w w4 t v4 m (added m E (nm, vl)) → Calls Try.prog 19 #[.pointer (some ⟨t, 0, none⟩), .int .i64 62] w4 fun r w' => r = .returned (.tuple #[.agg #[.string (if m < sz then ⟨#[]⟩ else nm), .string (if m < sz then ⟨#[]⟩ else vl), .bool false], .int .i64 (if m < sz then 50 else 0)]) ∧ Below w4.heap.size w4 w') := fun w4 v4 h4 => by have := Get62 nm vl h4; rwa [hesz] at this
        have KM : Hid (∀ w4 v4, Tab0 w w4 t v4 m (added m E (nm, vl)) → Calls Try.prog 20 #[.pointer (some ⟨t, 0, none⟩)] w4 fun e w' => e = .returned (.int .i64 (m : Int)) ∧ w' = w4) := fun w4 v4 h4 => tMost_in t m _ v4 w4 h4.tab.at_
        generalize added m E (nm, vl) = E' at KA KG KM
        clear hsz hesz
        by_cases hms : m < sz
        case' pos =>
          simp only [if_pos hms] at KG
          have hd : ¬ (sz : Int) ≤ (m : Int) := by omega
        case' neg =>
          simp only [if_neg hms] at KG
          have hd : (sz : Int) ≤ (m : Int) := by omega
        all_goals clear hms
        all_goals go_wp2_with (first
          | (go_at_call 18; refine KA.mono ?_; clear KA; rintro e w4 ⟨rfl, v4, h4, f4, _⟩; have H4 : Hid (Tab0 w w4 t v4 m E') := h4; have B4 : Hid (w4.heap[wr.heap.size]? = some (.cells #[.int .i64 0, .int .i64 N, .string nm, .string vl, .bool sc] 42)) := HB.out w4 f4; clear h4 f4)
          | (go_at_call 19; refine (KG.out w4 v4 H4.out).mono ?_; rintro e w5 ⟨rfl, b5⟩; have H5 : Hid (Tab0 w w5 t v4 m E') := H4.out.below b5; have B5 : Hid (w5.heap[wr.heap.size]? = some (.cells #[.int .i64 0, .int .i64 N, .string nm, .string vl, .bool sc] 42)) := heap_below b5 (lt_of_heap B4.out) B4.out; clear b5; have d2 : ∀ o, (w5.alloc o).cell? ⟨wr.heap.size, 2, none⟩ = some (.string nm) := (fun o => cell_of_heap (heap_of_alloc B5.out o) rfl); have d3 : ∀ o, (w5.alloc o).cell? ⟨wr.heap.size, 3, none⟩ = some (.string vl) := (fun o => cell_of_heap (heap_of_alloc B5.out o) rfl); have d4 : ∀ o, (w5.alloc o).cell? ⟨wr.heap.size, 4, none⟩ = some (.bool sc) := (fun o => cell_of_heap (heap_of_alloc B5.out o) rfl); have g2 : ∀ o o', ((w5.alloc o).alloc o').cell? ⟨wr.heap.size, 2, none⟩ = some (.string nm) := (fun o o' => cell_of_heap (heap_of_alloc (heap_of_alloc B5.out o) o') rfl); have g3 : ∀ o o', ((w5.alloc o).alloc o').cell? ⟨wr.heap.size, 3, none⟩ = some (.string vl) := (fun o o' => cell_of_heap (heap_of_alloc (heap_of_alloc B5.out o) o') rfl))
          | (go_at_call 12; refine (KS _).mono ?_; rintro e w' ⟨rfl, rfl⟩)
          | (go_at_call 20; refine (KM.out _ v4 ((H5.out.alloc _).alloc _)).mono ?_; rintro e w' ⟨rfl, rfl⟩))
        all_goals generalize hw6 : (w5.alloc _).alloc _ = w6
        all_goals have H6 : Hid (Tab0 w w6 t v4 m E') := by rw [← hw6]; exact (H5.out.alloc _).alloc _
        all_goals clear hw6
        all_goals clear d2 d3 d4 g2 g3 B5 H5 B4 H4 KG KM KS
        all_goals
          have H6L : Hid (E'.length ≤ 2048) := H6.out.len
          go_loopw [12, 13] (fun x12 x13 wr2 => ∃ k : Nat, x13 = .int .i64 (k : Int) ∧ x12 = .int .i64 ((total (E'.drop (E'.length - k)) : Nat) : Int) ∧ k ≤ E'.length ∧ Tab0 w wr2 t v4 m E') (fun x12 x13 wr2 => E'.length - (intOf x13).toNat)
          case atStart => exact ⟨0, rfl, by simp [total], by omega, H6.out⟩
          case round =>
            obtain ⟨k, rfl, rfl, hk, hT2⟩ := hrel
            have H7 : Hid (Tab0 w wr t v4 m E') := hT2
            clear hT2
            have KL := Len0 H7.out
            obtain ⟨L, hL⟩ : ∃ L, E'.length = L := ⟨_, rfl⟩
            obtain ⟨tk, htk⟩ : ∃ tk, total (E'.drop (E'.length - k)) = tk := ⟨_, rfl⟩
            rw [htk]
            have htk2 := total_drop_le E' (E'.length - k)
            have hfit := H7.out.fits
            have hmost := H7.out.most
            have hL2 : L ≤ 2048 := by have := H6L.out; omega
            by_cases hkL : k < L
            · obtain ⟨e, he⟩ : ∃ e, E'[E'.length - 1 - k]? = some e := ⟨E'[E'.length - 1 - k]'(by omega), List.getElem?_eq_getElem _⟩
              have KG := Get0 H7.out k e (by omega) he
              have hstep := total_drop he
              rw [show E'.length - 1 - k + 1 = E'.length - k by omega, htk] at hstep
              have hle := total_drop_le E' (E'.length - 1 - k)
              obtain ⟨t1, ht1⟩ : ∃ t1, total (E'.drop (E'.length - 1 - k)) = t1 := ⟨_, rfl⟩
              rw [ht1] at hstep hle
              have hesz : esz e = e.1.size + e.2.size + 32 := rfl
              have KZ := fun w' => Size_in e.1 e.2 false w' (by omega) (by omega)
              rw [← hesz] at KZ
              obtain ⟨sz2, hsz2⟩ : ∃ sz2, esz e = sz2 := ⟨_, rfl⟩
              rw [hsz2] at KZ hstep
              have hsum : (tk : Int) + (sz2 : Int) = (t1 : Int) := by omega
              have ht1b : t1 ≤ 65536 := by omega
              have HT1 : Hid (total (E'.drop (E'.length - (k + 1))) = t1) := by show _ = _; rw [show E'.length - (k + 1) = E'.length - 1 - k by omega]; exact ht1
              rw [hL] at KL
              have HL : Hid (E'.length = L) := hL
              clear hstep hle htk2 hesz hsz2 htk ht1 hL hfit
              go_wp2_with (first
                | (go_at_call 22; refine KL.mono ?_; clear KL; rintro e w' ⟨rfl, rfl⟩)
                | (go_at_call 19; refine KG.mono ?_; clear KG; rintro e w8 ⟨rfl, b8⟩; have H8 : Hid (Tab0 w w8 t v4 m E') := H7.out.below b8; clear b8)
                | (go_at_call 12; refine (KZ _).mono ?_; rintro e w' ⟨rfl, rfl⟩))
              go_roundw
              case rel => exact ⟨k + 1, rfl, by rw [HT1.out], by have := HL.out; omega, (H8.out.alloc _).alloc _⟩
              case measure => have := HL.out; simp [intOf]; omega
            · obtain rfl : k = L := by omega
              rw [hL, Nat.sub_self, List.drop_zero] at htk
              have KB := tBytes_in t m _ v4 wr H7.out.tab.at_
              have KM2 := tMost_in t m _ v4 wr H7.out.tab.at_
              rw [htk] at KB hfit
              rw [hL] at KL
              have hge : ¬ ((m : Nat) : Int) < (tk : Int) := by omega
              clear htk htk2 hL
              go_wp2_with (first
                | (go_at_call 22; refine KL.mono ?_; clear KL; rintro e w' ⟨rfl, rfl⟩)
                | (go_at_call 23; refine KB.mono ?_; clear KB; rintro e w' ⟨rfl, rfl⟩)
                | (go_at_call 20; refine KM2.mono ?_; clear KM2; rintro e w' ⟨rfl, rfl⟩))
              go_roundw
              case rel => exact ⟨i + 1, _, _, _, rfl, by omega, H7.out⟩
              case measure => simp [intOf]; omega
      · have hw1 : (wh == 0) = false := by simp [hw0]
        have KR := Resize0 H1.out N
        generalize (if 0 ≤ N ∧ N ≤ 65536 then (0 : Int) else 1) = er at KR
        generalize (if 0 ≤ N ∧ N ≤ 65536 then N.toNat else m) = m' at KR
        generalize (if 0 ≤ N ∧ N ≤ 65536 then fallen N E else E) = E' at KR
        go_wp2_with (go_at_call 21; refine KR.mono ?_; clear KR; rintro e w6 ⟨rfl, v4, h6, _, _⟩; have H6 : Hid (Tab0 w w6 t v4 m' E') := h6; clear h6)
        rename_i wo
        have H6L : Hid (E'.length ≤ 2048) := H6.out.len
        go_loopw [12, 13] (fun x12 x13 wr2 => ∃ k : Nat, x13 = .int .i64 (k : Int) ∧ x12 = .int .i64 ((total (E'.drop (E'.length - k)) : Nat) : Int) ∧ k ≤ E'.length ∧ Tab0 w wr2 t v4 m' E') (fun x12 x13 wr2 => E'.length - (intOf x13).toNat)
        case atStart => exact ⟨0, rfl, by simp [total], by omega, H6.out⟩
        case round =>
          obtain ⟨k, rfl, rfl, hk, hT2⟩ := hrel
          have H7 : Hid (Tab0 w wr t v4 m' E') := hT2
          clear hT2
          have KL := Len0 H7.out
          obtain ⟨L, hL⟩ : ∃ L, E'.length = L := ⟨_, rfl⟩
          obtain ⟨tk, htk⟩ : ∃ tk, total (E'.drop (E'.length - k)) = tk := ⟨_, rfl⟩
          rw [htk]
          have htk2 := total_drop_le E' (E'.length - k)
          have hfit := H7.out.fits
          have hmost := H7.out.most
          have hL2 : L ≤ 2048 := by have := H6L.out; omega
          by_cases hkL : k < L
          · obtain ⟨e, he⟩ : ∃ e, E'[E'.length - 1 - k]? = some e := ⟨E'[E'.length - 1 - k]'(by omega), List.getElem?_eq_getElem _⟩
            have KG := Get0 H7.out k e (by omega) he
            have hstep := total_drop he
            rw [show E'.length - 1 - k + 1 = E'.length - k by omega, htk] at hstep
            have hle := total_drop_le E' (E'.length - 1 - k)
            obtain ⟨t1, ht1⟩ : ∃ t1, total (E'.drop (E'.length - 1 - k)) = t1 := ⟨_, rfl⟩
            rw [ht1] at hstep hle
            have hesz : esz e = e.1.size + e.2.size + 32 := rfl
            have KZ := fun w' => Size_in e.1 e.2 false w' (by omega) (by omega)
            rw [← hesz] at KZ
            obtain ⟨sz2, hsz2⟩ : ∃ sz2, esz e = sz2 := ⟨_, rfl⟩
            rw [hsz2] at KZ hstep
            have hsum : (tk : Int) + (sz2 : Int) = (t1 : Int) := by omega
            have ht1b : t1 ≤ 65536 := by omega
            have HT1 : Hid (total (E'.drop (E'.length - (k + 1))) = t1) := by show _ = _; rw [show E'.length - (k + 1) = E'.length - 1 - k by omega]; exact ht1
            rw [hL] at KL
            have HL : Hid (E'.length = L) := hL
            clear hstep hle htk2 hesz hsz2 htk ht1 hL hfit
            go_wp2_with (first
              | (go_at_call 22; refine KL.mono ?_; clear KL; rintro e w' ⟨rfl, rfl⟩)
              | (go_at_call 19; refine KG.mono ?_; clear KG; rintro e w8 ⟨rfl, b8⟩; have H8 : Hid (Tab0 w w8 t v4 m' E') := H7.out.below b8; clear b8)
              | (go_at_call 12; refine (KZ _).mono ?_; rintro e w' ⟨rfl, rfl⟩))
            go_roundw
            case rel => exact ⟨k + 1, rfl, by rw [HT1.out], by have := HL.out; omega, (H8.out.alloc _).alloc _⟩
            case measure => have := HL.out; simp [intOf]; omega
          · obtain rfl : k = L := by omega
            rw [hL, Nat.sub_self, List.drop_zero] at htk
            have KB := tBytes_in t m' _ v4 wr H7.out.tab.at_
            have KM2 := tMost_in t m' _ v4 wr H7.out.tab.at_
            rw [htk] at KB hfit
            rw [hL] at KL
            have hge : ¬ ((m' : Nat) : Int) < (tk : Int) := by omega
            clear htk htk2 hL
            go_wp2_with (first
              | (go_at_call 22; refine KL.mono ?_; clear KL; rintro e w' ⟨rfl, rfl⟩)
              | (go_at_call 23; refine KB.mono ?_; clear KB; rintro e w' ⟨rfl, rfl⟩)
              | (go_at_call 20; refine KM2.mono ?_; clear KM2; rintro e w' ⟨rfl, rfl⟩))
            go_roundw
            case rel => exact ⟨i + 1, _, _, _, rfl, by omega, H7.out⟩
            case measure => simp [intOf]; omega
    · obtain rfl : i = n := by omega
      go_wp2_with (go_at_call 11; refine (awake_in _).mono ?_; rintro e w3 ⟨rfl, b3⟩)
      go_ret
      exact ⟨rfl, (HT.out.below b3).fr⟩
end Go.Proofs.Ytpnbpglmcaglfaa
