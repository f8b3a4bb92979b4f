/- The walk of TableFinds. -/
import Derived.Test.YtpnbpglmcaglfaaX4
namespace Go.Proofs.Ytpnbpglmcaglfaa
open Go.RowKit
set_option maxRecDepth 100000
set_option maxHeartbeats 8000000
set_option linter.unusedVariables false

theorem GetE {w0 w : World} {t : Nat} {v : Value} {m : Nat} {E : List (ByteArray × ByteArray)} (h : Tab0 w0 w t v m E) (k : Nat) (hk : k < 61 + E.length) :
    Calls Try.prog 19 #[.pointer (some ⟨t, 0, none⟩), .int .i64 ((k : Int) + 1)] w fun r w' => r = .returned (.tuple #[.agg #[.string (entAt E k).1, .string (entAt E k).2, .bool false], .int .i64 0]) ∧ Below w.heap.size w w' := by
  by_cases h61 : k < 61
  · have hst : statIn ((k : Int) + 1) = true := decide_eq_true (by omega)
    have := Get_static t m v E ((k : Int) + 1) w h.tab (by omega)
    simpa [stN, stV, stE, hst, entAt, h61, show ((k : Int) + 1).toNat - 1 = k by omega] using this
  · obtain ⟨e, he⟩ : ∃ e, E[E.length - 1 - (k - 61)]? = some e := ⟨E[E.length - 1 - (k - 61)]'(by omega), List.getElem?_eq_getElem _⟩
    have := Get_some t m v E (k - 61) e w h.tab (by omega) he (by have := h.len; omega)
    rw [show (((k - 61 : Nat) : Int) + 62) = (k : Int) + 1 by omega] at this
    simpa [entAt, h61, List.getD_eq_getElem?_getD, he] using this
theorem nameAt_pos {E : List (ByteArray × ByteArray)} {n : ByteArray} : ∀ {N : Nat}, 0 < nameAt E n N → nameAt E n N ≤ N ∧ (entAt E (nameAt E n N - 1)).1 = n
  | 0, h => by simp [nameAt] at h
  | N + 1, h => by
    by_cases hc : nameAt E n N = 0 ∧ (entAt E N).1 = n
    · rw [nameAt, if_pos hc]
      exact ⟨Nat.le_refl _, hc.2⟩
    · rw [nameAt, if_neg hc] at h ⊢
      have := nameAt_pos h
      exact ⟨by omega, this.2⟩
theorem nameAt_le {E : List (ByteArray × ByteArray)} {n : ByteArray} {k : Nat} (hn : (entAt E k).1 = n) : ∀ {N : Nat}, k < N → 0 < nameAt E n N ∧ nameAt E n N ≤ k + 1
  | 0, h => by omega
  | N + 1, h => by
    by_cases hk : k < N
    · have := nameAt_le hn hk
      rw [nameAt, if_neg (by omega)]
      exact this
    · obtain rfl : k = N := by omega
      by_cases h0 : nameAt E n k = 0
      · rw [nameAt, if_pos ⟨h0, hn⟩]; omega
      · rw [nameAt, if_neg (fun e => h0 e.1)]
        have := (nameAt_pos (Nat.pos_of_ne_zero h0)).1
        omega

/-- How an entry stands to what Find answered. -/
theorem find_cases {E : List (ByteArray × ByteArray)} {n u : ByteArray} {at_ : Nat} {b : Bool} (h : FindOut E n u at_ b) {k : Nat} (hk : k < 61 + E.length) {en eu : ByteArray} (he : (entAt E k).1 = en ∧ (entAt E k).2 = eu) :
    ((b = true ∧ k + 1 < at_ ∧ ¬ en = n) ∨ (b = true ∧ k + 1 < at_ ∧ n = en ∧ ¬ eu = u) ∨ (b = true ∧ k + 1 = at_ ∧ n = en ∧ u = eu)) ∨ ((b = true ∧ at_ < k + 1 ∧ ¬ en = n) ∨ (b = true ∧ at_ < k + 1 ∧ n = en ∧ ¬ eu = u) ∨ (b = true ∧ at_ < k + 1 ∧ n = en ∧ u = eu)) ∨
    (b = false ∧ n = en ∧ ¬ eu = u ∧ 0 < at_ ∧ at_ < k + 1) ∨ (b = false ∧ n = en ∧ ¬ eu = u ∧ 0 < at_ ∧ at_ = k + 1) ∨ (b = false ∧ ¬ en = n ∧ k + 1 < at_) ∨ (b = false ∧ ¬ en = n ∧ at_ < k + 1) := by
  rcases h with ⟨rfl, h1, h2, h3, h4⟩ | ⟨rfl, rfl, h2⟩
  · rcases Nat.lt_trichotomy (k + 1) at_ with hlt | heq | hgt
    · have hne := h4 k (by omega)
      by_cases h5 : en = n
      · by_cases h6 : eu = u
        · exact absurd (Prod.ext (he.1.trans h5) (he.2.trans h6)) hne
        · exact .inl (.inr (.inl ⟨rfl, hlt, h5.symm, h6⟩))
      · exact .inl (.inl ⟨rfl, hlt, h5⟩)
    · have h7 : entAt E k = (n, u) := by rw [← h3, show at_ - 1 = k by omega]
      rw [h7] at he
      exact .inl (.inr (.inr ⟨rfl, heq, he.1, he.2⟩))
    · by_cases h5 : en = n
      · by_cases h6 : eu = u
        · exact .inr (.inl (.inr (.inr ⟨rfl, hgt, h5.symm, h6.symm⟩)))
        · exact .inr (.inl (.inr (.inl ⟨rfl, hgt, h5.symm, h6⟩)))
      · exact .inr (.inl (.inl ⟨rfl, hgt, h5⟩))
  · have hne := h2 k hk
    by_cases h5 : en = n
    · have h6 : ¬ eu = u := fun h6 => hne (Prod.ext (he.1.trans h5) (he.2.trans h6))
      have h7 := nameAt_le (he.1.trans h5) hk
      rcases Nat.lt_or_ge (nameAt E n (61 + E.length)) (k + 1) with h8 | h8
      · exact .inr (.inr (.inl ⟨rfl, h5.symm, h6, h7.1, h8⟩))
      · exact .inr (.inr (.inr (.inl ⟨rfl, h5.symm, h6, h7.1, by omega⟩)))
    · rcases Nat.lt_trichotomy (nameAt E n (61 + E.length)) (k + 1) with h8 | h8 | h8
      · exact .inr (.inr (.inr (.inr (.inr ⟨rfl, h5, h8⟩))))
      · have := (nameAt_pos (E := E) (n := n) (N := 61 + E.length) (by omega)).2
        rw [h8, show k + 1 - 1 = k by omega] at this
        exact absurd (he.1.symm.trans this) h5
      · exact .inr (.inr (.inr (.inr (.inl ⟨rfl, h5, h8⟩))))
theorem find_end {E : List (ByteArray × ByteArray)} {n u : ByteArray} {at_ : Nat} {b : Bool} (h : FindOut E n u at_ b) : at_ ≤ 61 + E.length ∧ (b = true → 0 < at_) := by
  rcases h with ⟨rfl, h1, h2, h3, h4⟩ | ⟨rfl, rfl, h2⟩
  · exact ⟨h2, fun _ => h1⟩
  · refine ⟨?_, fun h => by cases h⟩
    rcases Nat.eq_zero_or_pos (nameAt E n (61 + E.length)) with h0 | h0
    · omega
    · exact (nameAt_pos h0).1
theorem no_eq {x y : ByteArray} (h : ¬ x = y) : ¬ x.toList = y.toList ∧ (x.toList == y.toList) = false := ⟨fun e => h (toList_inj e), beq_eq_false_iff_ne.2 (fun e => h (toList_inj e))⟩
theorem idx_lt {k a : Nat} (h : k + 1 < a) : ((k : Int) + 1 == (a : Int)) = false ∧ (k : Int) + 1 ≤ (a : Int) ∧ (k : Int) + 1 < (a : Int) ∧ ((a : Int) == 0) = false := ⟨by rw [beq_eq_false_iff_ne]; omega, by omega, by omega, by rw [beq_eq_false_iff_ne]; omega⟩
theorem idx_gt {k a : Nat} (h : a < k + 1) : ((k : Int) + 1 == (a : Int)) = false ∧ ¬ (k : Int) + 1 ≤ (a : Int) ∧ ¬ (k : Int) + 1 < (a : Int) := ⟨by rw [beq_eq_false_iff_ne]; omega, by omega, by omega⟩

theorem idx_eq {k a : Nat} (h : k + 1 = a) : ((k : Int) + 1 == (a : Int)) = true ∧ (k : Int) + 1 ≤ (a : Int) ∧ ¬ (k : Int) + 1 < (a : Int) ∧ ((a : Int) == 0) = false := ⟨by rw [beq_iff_eq]; omega, by omega, by omega, by rw [beq_eq_false_iff_ne]; omega⟩
theorem finds_walk (q : Option Addr) (n c b o : Nat) (O : Nat → Int × Int × ByteArray × ByteArray × Bool) (hn1 hv1 : ByteArray) (hs1 : Bool) (w : World) (hO : OpsAt w q n b o O) :
    Calls Try.prog 7 #[.slice q n c, .agg #[.string hn1, .string hv1, .bool hs1]] w fun e w' => e = .returned (.bool true) ∧ Below w.heap.size w w' := by
  obtain ⟨wb, hwb⟩ : ∃ wb, w.alloc (.cells #[.string hn1, .string hv1, .bool hs1] 23) = wb := ⟨_, rfl⟩
  have hbw : Below w.heap.size w wb := by rw [← hwb]; exact (Below.refl _ w).alloc (Nat.le_refl _) _
  have hbox : wb.heap[w.heap.size]? = some (.cells #[.string hn1, .string hv1, .bool hs1] 23) := by rw [← hwb]; exact heap_alloc_new w _
  have KN := New_in 500 wb (by omega)
  have H0 := Tab0.new wb 500 (by omega)
  rw [show ((500 : Nat) : Int) = 500 from rfl] at KN H0
  have HO : Hid (OpsAt wb q n b o O) := hO.later hbw
  have hn := hO.few
  have HBW : Hid (Below w.heap.size w wb) := hbw
  have HBX : Hid (wb.heap[w.heap.size]? = some (.cells #[.string hn1, .string hv1, .bool hs1] 23)) := hbox
  clear hO hbw hbox
  have HH0 : Hid _ := H0
  clear H0
  go_enter Try.func7, Try.ntmps7
  go_wp2_with (go_at_call 14; refine KN.mono ?_; clear KN; rintro e w' ⟨rfl, rfl⟩)
  generalize wb.alloc (.cells #[.bool true, .int .i64 500, .int .i64 0, .slice none 0 0] 55) = w1 at HH0 ⊢
  obtain ⟨t, ht⟩ : ∃ t, wb.heap.size = t := ⟨_, rfl⟩
  rw [ht] at HH0 ⊢
  clear ht hwb
  go_loopw [7] (fun x7 wr => ∃ (i : Nat) (v : Value) (E : List (ByteArray × ByteArray)), x7 = .int .i64 (i : Int) ∧ i ≤ n ∧ Tab0 wb wr t v 500 E)
    (fun x7 wr => n - (intOf x7).toNat)
  case atStart => exact ⟨0, _, _, rfl, by omega, HH0.out⟩
  case round =>
    obtain ⟨i, v, E, rfl, hi, hT⟩ := hrel
    have HT : Hid (Tab0 wb wr t v 500 E) := hT
    clear hT HH0
    by_cases hin : i < n
    · obtain ⟨hb, c0, c1, c2, c3, c4, wf0, wf1, s1, s2⟩ := (OpsAt.later HO.out HT.out.fr).cells i hin
      obtain rfl := HO.out.addr (by omega)
      generalize O i = op at c0 c1 c2 c3 c4 wf0 wf1 s1 s2
      obtain ⟨wh, N, nm, vl, sc⟩ := op
      dsimp only at c0 c1 c2 c3 c4 wf0 wf1 s1 s2
      by_cases hw0 : wh = 0
      · subst hw0
        have KA := Add0 HT.out nm vl sc s1 s2
        go_wp2_with (go_at_call 18; refine KA.mono ?_; clear KA; rintro e w4 ⟨rfl, v4, h4, _, _⟩; have H4 : Hid (Tab0 wb w4 t v4 500 (added 500 E (nm, vl))) := h4; clear h4)
        go_roundw
        case rel => exact ⟨i + 1, _, _, rfl, by omega, H4.out⟩
        case measure => simp [intOf]; omega
      · have hw1 : (wh == 0) = false := by simp [hw0]
        go_wp2_with (fail)
        go_roundw
        case rel => exact ⟨i + 1, _, _, rfl, by omega, HT.out⟩
        case measure => simp [intOf]; omega
    · obtain rfl : i = n := by omega
      have hbx := HT.out.fr
      have x0 : wr.cell? ⟨w.heap.size, 0, none⟩ = some (.string hn1) := cell_of_heap (heap_below HT.out.fr (lt_of_heap HBX.out) HBX.out) rfl
      have x1 : wr.cell? ⟨w.heap.size, 1, none⟩ = some (.string hv1) := cell_of_heap (heap_below HT.out.fr (lt_of_heap HBX.out) HBX.out) rfl
      have x2 : wr.cell? ⟨w.heap.size, 2, none⟩ = some (.bool hs1) := cell_of_heap (heap_below HT.out.fr (lt_of_heap HBX.out) HBX.out) rfl
      have KF := Find_in t 500 v E hn1 hv1 hs1 wr HT.out.tab HT.out.len
      clear hbx
      go_wp2_with (go_at_call 24; refine KF.mono ?_; clear KF; rintro e w4 ⟨⟨at_, bb, rfl, hFO⟩, hB4⟩; have H4 : Hid (Tab0 wb w4 t v 500 E) := HT.out.below hB4; have HFO : Hid (FindOut E hn1 hv1 at_ bb) := hFO; clear hFO hB4)
      have HL : Hid (E.length ≤ 2048) := H4.out.len
      clear x0 x1 x2
      rename_i wo
      go_loopw [10] (fun x10 wr2 => ∃ k : Nat, x10 = .int .i64 ((k : Int) + 1) ∧ k ≤ 61 + E.length ∧ Tab0 wb wr2 t v 500 E) (fun x10 wr2 => 62 + E.length - (intOf x10).toNat)
      case atStart => exact ⟨0, rfl, by omega, H4.out⟩
      case round =>
        obtain ⟨k, rfl, hk, hT2⟩ := hrel
        have H7 : Hid (Tab0 wb wr t v 500 E) := hT2
        clear hT2
        have KL := Len0 H7.out
        obtain ⟨L, hL⟩ : ∃ L, E.length = L := ⟨_, rfl⟩
        have hL2 : L ≤ 2048 := by have := HL.out; omega
        by_cases hkL : k < 61 + L
        · have KG := GetE H7.out k (by omega)
          obtain ⟨en, hen⟩ : ∃ en, (entAt E k).1 = en := ⟨_, rfl⟩
          obtain ⟨eu, heu⟩ : ∃ eu, (entAt E k).2 = eu := ⟨_, rfl⟩
          have hc := find_cases HFO.out (by omega) ⟨hen, heu⟩
          rw [hen, heu] at KG
          rw [hL] at KL
          have HE : Hid (E.length = L) := hL
          have hbd : (k : Int) + 1 ≤ 61 + (L : Int) := by omega
          clear hL hen heu
          rcases hc with (⟨rfl, ho, h1⟩ | ⟨rfl, ho, rfl, h2⟩ | ⟨rfl, ho, rfl, rfl⟩) | (⟨rfl, ho, h1⟩ | ⟨rfl, ho, rfl, h2⟩ | ⟨rfl, ho, rfl, rfl⟩) | ⟨rfl, rfl, h2, hp, ho⟩ | ⟨rfl, rfl, h2, hp, ho⟩ | ⟨rfl, h1, ho⟩ | ⟨rfl, h1, ho⟩
          case' inl.inl => obtain ⟨e1, e2⟩ := no_eq h1; obtain ⟨i1, i2, i3, i4⟩ := idx_lt ho
          case' inl.inr.inl => obtain ⟨e1, e2⟩ := no_eq h2; obtain ⟨i1, i2, i3, i4⟩ := idx_lt ho
          case' inl.inr.inr => obtain ⟨i1, i2, i3, i4⟩ := idx_eq ho
          case' inr.inl.inl => obtain ⟨e1, e2⟩ := no_eq h1; obtain ⟨i1, i2, i3⟩ := idx_gt ho
          case' inr.inl.inr.inl => obtain ⟨e1, e2⟩ := no_eq h2; obtain ⟨i1, i2, i3⟩ := idx_gt ho
          case' inr.inl.inr.inr => obtain ⟨i1, i2, i3⟩ := idx_gt ho
          case' inr.inr.inl => obtain ⟨e1, e2⟩ := no_eq h2; obtain ⟨i1, i2, i3⟩ := idx_gt ho; have i4 : ((at_ : Int) == 0) = false := by rw [beq_eq_false_iff_ne]; omega
          case' inr.inr.inr.inl => obtain ⟨e1, e2⟩ := no_eq h2; obtain ⟨i1, i2, i3, i4⟩ := idx_eq ho.symm
          case' inr.inr.inr.inr.inl => obtain ⟨e1, e2⟩ := no_eq h1; obtain ⟨i1, i2, i3, i4⟩ := idx_lt ho
          case' inr.inr.inr.inr.inr => obtain ⟨e1, e2⟩ := no_eq h1; obtain ⟨i1, i2, i3⟩ := idx_gt ho
          all_goals try clear ho
          all_goals try clear h1
          all_goals try clear h2
          all_goals try clear hp
          all_goals go_wp2_with (first
            | (go_at_call 22; refine KL.mono ?_; clear KL; rintro e w' ⟨rfl, rfl⟩)
            | (go_at_call 19; refine KG.mono ?_; clear KG; rintro e w8 ⟨rfl, b8⟩; have H8 : Hid (Tab0 wb w8 t v 500 E) := H7.out.below b8; clear b8; have d0 : ∀ o, (w8.alloc o).cell? ⟨w.heap.size, 0, none⟩ = some (.string hn1) := (fun o => cell_of_heap (heap_of_alloc (heap_below H8.out.fr (lt_of_heap HBX.out) HBX.out) o) rfl); have d1 : ∀ o, (w8.alloc o).cell? ⟨w.heap.size, 1, none⟩ = some (.string hv1) := (fun o => cell_of_heap (heap_of_alloc (heap_below H8.out.fr (lt_of_heap HBX.out) HBX.out) o) rfl)))
          all_goals refine ⟨⟨k + 1, rfl, ?_, H8.out.alloc _⟩, ?_⟩
          all_goals have hE := HE.out
          all_goals clear HE
          all_goals first | omega | (simp only [intOf]; omega)
        · obtain rfl : k = 61 + L := by omega
          have hfe := find_end HFO.out
          rw [hL] at KL hfe
          have hdn : ¬ ((61 + L : Nat) : Int) + 1 ≤ 61 + (L : Int) := by omega
          have hd1 : (at_ : Int) ≤ 61 + (L : Int) := by omega
          have hd0 : (0 : Int) ≤ (at_ : Int) := by omega
          have hat : bb = true → (0 : Int) < (at_ : Int) := fun e => by have := hfe.2 e; omega
          clear hL hfe
          by_cases hp : (0 : Int) < (at_ : Int)
          · go_wp2_with (first
              | (go_at_call 22; refine KL.mono ?_; rintro e w' ⟨rfl, rfl⟩)
              | (go_at_call 11; refine (awake_in _).mono ?_; rintro e w3 ⟨rfl, b3⟩))
            go_ret
            exact ⟨rfl, HBW.out.trans ((H7.out.below b3).fr.mono HBW.out.size)⟩
          · obtain rfl : bb = false := by
              cases bb with
              | false => rfl
              | true => exact absurd (hat rfl) hp
            clear hat
            go_wp2_with (first
              | (go_at_call 22; refine KL.mono ?_; rintro e w' ⟨rfl, rfl⟩)
              | (go_at_call 11; refine (awake_in _).mono ?_; rintro e w3 ⟨rfl, b3⟩))
            go_ret
            exact ⟨rfl, HBW.out.trans ((H7.out.below b3).fr.mono HBW.out.size)⟩
end Go.Proofs.Ytpnbpglmcaglfaa
