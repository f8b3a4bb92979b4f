/- The document's Get and Find; both Gets in the same words. -/
import Derived.Test.YtkipeifkfgbkeaaY3
namespace Go.Proofs.Ytkipeifkfgbkeaa
open Go.RowKit
set_option maxRecDepth 100000
set_option maxHeartbeats 8000000
set_option linter.unusedVariables false

/-- What Get answers. -/
def getIn (E : List (ByteArray × ByteArray)) (i : Int) : Bool := decide (1 ≤ i ∧ i ≤ 61 + (E.length : Int))
def gN (E : List (ByteArray × ByteArray)) (i : Int) : ByteArray := if getIn E i then (entAt E (i.toNat - 1)).1 else ⟨#[]⟩
def gV (E : List (ByteArray × ByteArray)) (i : Int) : ByteArray := if getIn E i then (entAt E (i.toNat - 1)).2 else ⟨#[]⟩
def gE (E : List (ByteArray × ByteArray)) (i : Int) : Int := if getIn E i then 0 else 50
theorem rGet_in (t m : Nat) (v : Value) (E : List (ByteArray × ByteArray)) (i : Int) (w : World) (h : RIs w t v m E.reverse) (hL : E.length ≤ 2048) :
    Calls Try.prog 44 #[.pointer (some ⟨t, 0, none⟩), .int .i64 i] w fun e w' => e = .returned (.tuple #[.agg #[.string (gN E i), .string (gV E i), .bool false], .int .i64 (gE E i)]) ∧ Below w.heap.size w w' := by
  obtain ⟨q, cap, rfl⟩ := h.form
  obtain ⟨L, hLe⟩ : ∃ L, E.length = L := ⟨_, rfl⟩
  have hL2 : L ≤ 2048 := by omega
  have c1 : (w.alloc (.cells #[.string ⟨#[]⟩, .string ⟨#[]⟩, .bool false] 59)).cell? ⟨t, 1, none⟩ = some (.slice q L cap) := cell_of_heap (h.laid _).at_ (by simp [hLe])
  by_cases h1 : i < 1
  · have hg : getIn E i = false := decide_eq_false (by omega)
    have hd : decide (i < 1) = true := decide_eq_true h1
    simp only [gN, gV, gE, hg, if_false, Bool.false_eq_true]
    go_enter Try.func44, Try.ntmps44
    go_wp2_with (fail)
    exact bodyPost_ret (v := .tuple #[.agg #[.string ⟨#[]⟩, .string ⟨#[]⟩, .bool false], .int .i64 50]) (by simp [results, Try.results44, go_sem]) rfl ⟨rfl, (Below.refl _ w).alloc (Nat.le_refl _) _⟩
  · have hd : decide (i < 1) = false := decide_eq_false h1
    by_cases h2 : 61 + (L : Int) < i
    · have hg : getIn E i = false := decide_eq_false (by omega)
      simp only [gN, gV, gE, hg, if_false, Bool.false_eq_true]
      clear hLe hg
      go_enter Try.func44, Try.ntmps44
      go_wp2_with (fail)
      exact bodyPost_ret (v := .tuple #[.agg #[.string ⟨#[]⟩, .string ⟨#[]⟩, .bool false], .int .i64 50]) (by simp [results, Try.results44, go_sem]) rfl ⟨rfl, (Below.refl _ w).alloc (Nat.le_refl _) _⟩
    · have hg : getIn E i = true := decide_eq_true (by omega)
      by_cases h3 : i ≤ 61
      · have hst : statIn i = true := decide_eq_true (by omega)
        have KS := rStatic_in i (w.alloc (.cells #[.string ⟨#[]⟩, .string ⟨#[]⟩, .bool false] 59))
        have e1 : stN i = gN E i := by simp [gN, hg, stN, hst, entAt, show i.toNat - 1 < 61 by omega]
        have e2 : stV i = gV E i := by simp [gV, hg, stV, hst, entAt, show i.toNat - 1 < 61 by omega]
        have e3 : stE i = gE E i := by simp [gE, hg, stE, hst]
        rw [e1, e2, e3] at KS
        generalize gN E i = n at *
        generalize gV E i = u at *
        generalize gE E i = x at *
        have HC : Hid (∀ w', Below (w.alloc (.cells #[.string ⟨#[]⟩, .string ⟨#[]⟩, .bool false] 59)).heap.size (w.alloc (.cells #[.string ⟨#[]⟩, .string ⟨#[]⟩, .bool false] 59)) w' → w'.heap[w.heap.size]? = some (.cells #[.string ⟨#[]⟩, .string ⟨#[]⟩, .bool false] 59)) := fun w' b => heap_below b (by simp) (heap_alloc_new w _)
        clear e1 e2 e3 hst hg hLe h
        go_enter Try.func44, Try.ntmps44
        go_wp2_with (go_at_call 50; refine KS.mono ?_; clear KS; rintro e w1 ⟨rfl, b1⟩; have g1 := HC.out w1 b1; have q0 := cell_of_heap g1 (i := 0) rfl; have q1 := cell_of_heap g1 (i := 1) rfl; have q2 := cell_of_heap g1 (i := 2) rfl; have z0 : w1.frozen? ⟨w.heap.size, 0, none⟩ = false := frozen_of_heap g1; have z1 : w1.frozen? ⟨w.heap.size, 1, none⟩ = false := frozen_of_heap g1; have z2 : w1.frozen? ⟨w.heap.size, 2, none⟩ = false := frozen_of_heap g1)
        have g3 : (((w1.setCell ⟨w.heap.size, 0, none⟩ (.string n)).setCell ⟨w.heap.size, 1, none⟩ (.string u)).setCell ⟨w.heap.size, 2, none⟩ (.bool false)).heap[w.heap.size]? = some (.cells #[.string n, .string u, .bool false] 59) := heap_set _ (heap_set _ (heap_set _ g1))
        have r0 := cell_of_heap g3 (i := 0) rfl
        have r1 := cell_of_heap g3 (i := 1) rfl
        have r2 := cell_of_heap g3 (i := 2) rfl
        refine bodyPost_ret (v := .tuple #[.agg #[.string n, .string u, .bool false], .int .i64 x]) (by simp [results, Try.results44, go_sem, r0, r1, r2]) rfl ⟨rfl, ?_⟩
        have hb : Below w.heap.size w w1 := Below.trans ((Below.refl _ w).alloc (Nat.le_refl _) _) (b1.mono (by simp))
        exact ((hb.setCell (p := ⟨w.heap.size, 0, none⟩) (Nat.le_refl _) _).setCell (p := ⟨w.heap.size, 1, none⟩) (Nat.le_refl _) _).setCell (p := ⟨w.heap.size, 2, none⟩) (Nat.le_refl _) _
      · obtain ⟨k, hk⟩ : ∃ k : Nat, i = (k : Int) + 62 := ⟨(i - 62).toNat, by omega⟩
        have hkL : k < L := by omega
        obtain ⟨e, he⟩ : ∃ e, E.reverse[k]? = some e := ⟨E.reverse[k]'(by simp; omega), List.getElem?_eq_getElem _⟩
        obtain ⟨g, cap', hv, k0, k1, k2⟩ := (h.laid (.cells #[.string ⟨#[]⟩, .string ⟨#[]⟩, .bool false] 59)).cells he
        cases hv
        have hent : entAt E (i.toNat - 1) = e := by
          rw [List.getElem?_reverse (by omega)] at he
          simp only [entAt, show ¬ i.toNat - 1 < 61 by omega, if_false, show i.toNat - 1 - 61 = k by omega, List.getD_eq_getElem?_getD, he, Option.getD_some]
        have e1 : gN E i = e.1 := by simp [gN, hg, hent]
        have e2 : gV E i = e.2 := by simp [gV, hg, hent]
        have e3 : gE E i = 0 := by simp [gE, hg]
        rw [e1, e2, e3]
        clear hent e1 e2 e3 hg hLe h he
        subst hk
        have d1 : (k : Int) + 62 - 62 = (k : Int) := by omega
        have d2 : (k : Int) < (L : Int) := by omega
        go_enter Try.func44, Try.ntmps44
        go_wp2_with (fail)
        exact bodyPost_ret (v := .tuple #[.agg #[.string e.1, .string e.2, .bool false], .int .i64 0]) (by simp [results, Try.results44, go_sem]) rfl ⟨rfl, (Below.refl _ w).alloc (Nat.le_refl _) _⟩
theorem rGetE (t m : Nat) (v : Value) (E : List (ByteArray × ByteArray)) (k : Nat) (w : World) (h : RIs w t v m E.reverse) (hL : E.length ≤ 2048) (hk : k < 61 + E.length) :
    Calls Try.prog 44 #[.pointer (some ⟨t, 0, none⟩), .int .i64 ((k : Int) + 1)] w fun e w' => e = .returned (.tuple #[.agg #[.string (entAt E k).1, .string (entAt E k).2, .bool false], .int .i64 0]) ∧ Below w.heap.size w w' := by
  have hg : getIn E ((k : Int) + 1) = true := decide_eq_true (by omega)
  have := rGet_in t m v E ((k : Int) + 1) w h hL
  simpa [gN, gV, gE, hg, show ((k : Int) + 1).toNat - 1 = k by omega] using this
theorem rFind_in (t m : Nat) (v : Value) (E : List (ByteArray × ByteArray)) (n u : ByteArray) (s : Bool) (w : World) (h : RIs w t v m E.reverse) (hL : E.length ≤ 2048) :
    Calls Try.prog 35 #[.pointer (some ⟨t, 0, none⟩), .agg #[.string n, .string u, .bool s]] w fun e w' => (∃ (at_ : Nat) (b : Bool), e = .returned (.tuple #[.int .i64 (at_ : Int), .bool b]) ∧ FindOut E n u at_ b) ∧ Below w.heap.size w w' := by
  obtain ⟨wb, hwb⟩ : ∃ wb, w.alloc (.cells #[.string n, .string u, .bool s] 59) = wb := ⟨_, rfl⟩
  have HBW : Hid (Below w.heap.size w wb) := by rw [← hwb]; exact (Below.refl _ w).alloc (Nat.le_refl _) _
  have HBX : Hid (wb.heap[w.heap.size]? = some (.cells #[.string n, .string u, .bool s] 59)) := by rw [← hwb]; exact heap_alloc_new w _
  have HR : Hid (RIs wb t v m E.reverse) := h.below HBW.out
  have HL : Hid (E.length ≤ 2048) := hL
  clear h hL
  go_enter Try.func35, Try.ntmps35
  go_wp2_with (fail)
  clear hwb
  go_loopw [6, 7] (fun x6 x7 wr => ∃ k : Nat, x7 = .int .i64 ((k : Int) + 1) ∧ x6 = .int .i64 ((nameAt E n k : Nat) : Int) ∧ k ≤ 61 + E.length ∧ (∀ j, j < k → entAt E j ≠ (n, u)) ∧ Below wb.heap.size wb wr)
    (fun x6 x7 wr => 62 + E.length - (intOf x7).toNat)
  case atStart => exact ⟨0, rfl, rfl, by omega, fun j hj => absurd hj (Nat.not_lt_zero _), Below.refl _ _⟩
  case round =>
    obtain ⟨k, rfl, rfl, hk, hne, hB⟩ := hrel
    have HB : Hid (Below wb.heap.size wb wr) := hB
    have HN : Hid (∀ j, j < k → entAt E j ≠ (n, u)) := hne
    have HRr : Hid (RIs wr t v m E.reverse) := HR.out.below hB
    obtain ⟨q, cap, hv⟩ := HRr.out.form
    obtain ⟨L, hL⟩ : ∃ L, E.length = L := ⟨_, rfl⟩
    have hL2 : L ≤ 2048 := by have := HL.out; omega
    have c1 : wr.cell? ⟨t, 1, none⟩ = some (.slice q L cap) := cell_of_heap HRr.out.at_ (by rw [hv]; simp [hL])
    obtain ⟨nk, hnk⟩ : ∃ nk, nameAt E n k = nk := ⟨_, rfl⟩
    have HNk : Hid (nameAt E n k = nk) := hnk
    rw [hnk]
    have HLe : Hid (E.length = L) := hL
    clear hB hne hv hnk
    by_cases hkL : k < 61 + L
    · have KG := rGetE t m v E k wr HRr.out HL.out (by omega)
      have hd1 : (k : Int) + 1 ≤ 61 + (L : Int) := by omega
      obtain ⟨en, hen⟩ : ∃ en, (entAt E k).1 = en := ⟨_, rfl⟩
      obtain ⟨eu, heu⟩ : ∃ eu, (entAt E k).2 = eu := ⟨_, rfl⟩
      have HEn : Hid ((entAt E k).1 = en ∧ (entAt E k).2 = eu) := ⟨hen, heu⟩
      rw [hen, heu] at KG
      clear hen heu hL
      by_cases hen : n = en
      · subst hen
        by_cases heu : u = eu
        · subst heu
          go_wp2_with (go_at_call 44; refine KG.mono ?_; clear KG; rintro e w8 ⟨rfl, b8⟩; have B8 : Hid (Below wb.heap.size wb w8) := HB.out.trans (b8.mono HB.out.size); clear b8; have d0 : ∀ o, (w8.alloc o).cell? ⟨w.heap.size, 0, none⟩ = some (.string n) := (fun o => cell_of_heap (heap_of_alloc (heap_below B8.out (lt_of_heap HBX.out) HBX.out) o) rfl); have d1 : ∀ o, (w8.alloc o).cell? ⟨w.heap.size, 1, none⟩ = some (.string u) := (fun o => cell_of_heap (heap_of_alloc (heap_below B8.out (lt_of_heap HBX.out) HBX.out) o) rfl))
          go_ret2
          exact ⟨⟨k + 1, true, rfl, .inl ⟨rfl, Nat.succ_pos _, by have := HLe.out; omega, Prod.ext HEn.out.1 HEn.out.2, HN.out⟩⟩, HBW.out.trans ((B8.out.alloc B8.out.size _).mono HBW.out.size)⟩
        · have HU : Hid (¬ eu = u) := fun e => heu e.symm
          obtain ⟨e1, e2⟩ := no_eq (x := eu) (y := u) HU.out
          clear heu
          by_cases h0 : nk = 0
          case' pos => have h02 : ((nk : Int) == 0) = true := by rw [beq_iff_eq]; omega
          case' neg => have h02 : ((nk : Int) == 0) = false := by rw [beq_eq_false_iff_ne]; omega
          all_goals have H0 := (show Hid _ from h0)
          all_goals clear h0
          all_goals go_wp2_with (go_at_call 44; refine KG.mono ?_; clear KG; rintro e w8 ⟨rfl, b8⟩; have B8 : Hid (Below wb.heap.size wb w8) := HB.out.trans (b8.mono HB.out.size); clear b8; have d0 : ∀ o, (w8.alloc o).cell? ⟨w.heap.size, 0, none⟩ = some (.string n) := (fun o => cell_of_heap (heap_of_alloc (heap_below B8.out (lt_of_heap HBX.out) HBX.out) o) rfl); have d1 : ∀ o, (w8.alloc o).cell? ⟨w.heap.size, 1, none⟩ = some (.string u) := (fun o => cell_of_heap (heap_of_alloc (heap_below B8.out (lt_of_heap HBX.out) HBX.out) o) rfl))
          · go_roundw
            case rel => exact ⟨k + 1, rfl, by rw [named_miss (fun e => H0.out (HNk.out.symm.trans e.1)), HNk.out], by have := HLe.out; omega, no_hit HN.out (fun e => HU.out (HEn.out.2.symm.trans (congrArg Prod.snd e))), B8.out.alloc B8.out.size _⟩
            case measure => have := HLe.out; simp only [intOf]; omega
          · go_roundw
            case rel => exact ⟨k + 1, rfl, by rw [named_hit (HNk.out.trans H0.out) HEn.out.1], by have := HLe.out; omega, no_hit HN.out (fun e => HU.out (HEn.out.2.symm.trans (congrArg Prod.snd e))), B8.out.alloc B8.out.size _⟩
            case measure => have := HLe.out; simp only [intOf]; omega
      · have HN2 : Hid (¬ en = n) := fun e => hen e.symm
        obtain ⟨e1, e2⟩ := no_eq (x := en) (y := n) HN2.out
        clear hen
        go_wp2_with (go_at_call 44; refine KG.mono ?_; clear KG; rintro e w8 ⟨rfl, b8⟩; have B8 : Hid (Below wb.heap.size wb w8) := HB.out.trans (b8.mono HB.out.size); clear b8; have d0 : ∀ o, (w8.alloc o).cell? ⟨w.heap.size, 0, none⟩ = some (.string n) := (fun o => cell_of_heap (heap_of_alloc (heap_below B8.out (lt_of_heap HBX.out) HBX.out) o) rfl); have d1 : ∀ o, (w8.alloc o).cell? ⟨w.heap.size, 1, none⟩ = some (.string u) := (fun o => cell_of_heap (heap_of_alloc (heap_below B8.out (lt_of_heap HBX.out) HBX.out) o) rfl))
        go_roundw
        case rel => exact ⟨k + 1, rfl, by rw [named_miss (fun e => HN2.out (HEn.out.1.symm.trans e.2)), HNk.out], by have := HLe.out; omega, no_hit HN.out (fun e => HN2.out (HEn.out.1.symm.trans (congrArg Prod.fst e))), B8.out.alloc B8.out.size _⟩
        case measure => have := HLe.out; simp only [intOf]; omega
    · have HKL : Hid (k = 61 + L) := by show _ = _; omega
      have hdn : ¬ (k : Int) + 1 ≤ 61 + (L : Int) := by omega
      clear hL hkL hk
      go_wp2_with (fail)
      go_ret2
      exact ⟨⟨nk, .inl ⟨rfl, .inr ⟨rfl, by rw [HLe.out, ← HKL.out]; exact HNk.out.symm, fun j hj => HN.out j (by rw [HLe.out, ← HKL.out] at hj; exact hj)⟩⟩⟩, HBW.out.trans (HB.out.mono HBW.out.size)⟩
end Go.Proofs.Ytkipeifkfgbkeaa
