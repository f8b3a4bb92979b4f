/- The document's has and via. -/
import Derived.Test.YtplggcfoadjffaaGreatDoorWd
import Derived.Test.YtplggcfoadjffaaGreatDoorXu
namespace Go.Proofs.YtplggcfoadjffaaGreatDoor
open Go.RowKit
set_option linter.unusedVariables false
set_option maxRecDepth 100000
set_option maxHeartbeats 8000000

theorem rxhas14_in (q : Option Addr) (c : Nat) (l : List Hd) (n : ByteArray) (w : World) (hl : HL w q c l) : Calls Tryz.prog 25 #[.slice q l.length c, .string n] w fun e w' => e = .returned (.bool (hasO l (tx n))) ∧ w = w' := by
  have K := rFind_in q c l n w hl
  obtain ⟨a, hv⟩ : ∃ a : ByteArray, findV l (tx n) = .tuple #[.string a, .bool (hasO l (tx n))] := by unfold findV hasO; cases findL l (tx n) <;> exact ⟨_, rfl⟩
  rw [hv] at K
  generalize hasO l (tx n) = b at K ⊢
  clear hv hl
  generalize l.length = len at K ⊢
  go_enter Tryz.func25, Tryz.ntmps25
  go_wp2_with (fail)
  refine K.mono ?_
  rintro e w1 ⟨rfl, rfl⟩
  go_wp2_with (fail)
  go_ret
  exact ⟨rfl, rfl⟩
theorem kept_all (l : List Hd) (n : List UInt8) : keptV l n true = valuesB l n := by
  unfold keptV
  simp
theorem kept_full (l : List Hd) (n : List UInt8) : keptV l n false = (valuesB l n).filter fullB := by
  unfold keptV
  simp
theorem via_yes {l : List Hd} (name : List UInt8) (h : hasO l sVia = true) : joinL commaL ((valuesB l sVia).map tx) ++ commaL ++ twoL ++ name = viaO l name := by
  have h1 : valuesB l sVia ≠ [] := by
    unfold hasO at h
    cases hf : findL l sVia with
    | none => rw [hf] at h; cases h
    | some v => exact valuesB_some hf
  unfold viaO
  rw [joinL_snoc _ _ (by simpa using h1)]
  simp
theorem via_no {l : List Hd} (name : List UInt8) (h : hasO l sVia = false) : joinL commaL ((valuesB l sVia).map tx) ++ twoL ++ name = viaO l name := by
  have h1 : valuesB l sVia = [] := by
    unfold hasO at h
    cases hf : findL l sVia with
    | none => exact valuesB_none hf
    | some v => rw [hf] at h; cases h
  unfold viaO
  rw [h1]
  rfl
theorem join_bulk (sep : List UInt8) (h2 : sep.length = 2) (l : List Hd) (n : List UInt8) : (joinL sep ((valuesB l n).map tx)).length ≤ bulkV l := by
  induction l with
  | nil => simp [valuesB, joinL]
  | cons h t ih =>
    have e : valuesB (h :: t) n = (if tx h.1 = n then [h.2.1] else []) ++ valuesB t n := by
      unfold valuesB
      rw [List.filter_cons]
      by_cases he : tx h.1 = n <;> simp [he]
    rw [e, bulkV]
    by_cases he : tx h.1 = n
    · rw [if_pos he]
      by_cases ht : valuesB t n = []
      · rw [ht]
        simp [joinL, tx_len]
        omega
      · rw [List.map_append, List.map_cons, List.map_nil, List.singleton_append, joinL_cons _ _ (by simpa using ht)]
        simp only [List.length_append, tx_len, h2]
        omega
    · rw [if_neg he, List.nil_append]
      omega
/-- What via answers. -/
def ViaAs (w : World) (l : List Hd) (name : List UInt8) (e : Ending) (w' : World) : Prop := e = .returned (if (viaO l name).length ≤ 16384 then .tuple #[.agg #[.string (mkS sVia), .string (mkS (viaO l name)), .bool false], .int .i64 0] else .tuple #[.agg #[.string ⟨#[]⟩, .string ⟨#[]⟩, .bool false], .int .i64 2]) ∧ Fr (fun _ => False) w w'
theorem rvia_in (q : Option Addr) (c : Nat) (l : List Hd) (name : ByteArray) (w : World) (hl : HL w q c l) (hbk : bulkV l ≤ 2 ^ 60) (hnm : name.size ≤ 2 ^ 60) :
    Calls Tryz.prog 26 #[.slice q l.length c, .string name] w fun e w' => ViaAs w l (tx name) e w' := by
  obtain ⟨W0, hW0⟩ : ∃ W0, w.alloc (.cells #[.string ⟨#[]⟩, .string ⟨#[]⟩, .bool false] 35) = W0 := ⟨_, rfl⟩
  have f0 : Fr (fun _ => False) w W0 := by rw [← hW0]; exact (Fr.refl _ _).alloc _
  have HB0 : W0.heap[w.heap.size]? = some (.cells #[.string ⟨#[]⟩, .string ⟨#[]⟩, .bool false] 35 (0, 0)) := by rw [← hW0]; exact heap_alloc_new _ _
  have KJ := joined_in q c l ⟨#[118, 105, 97]⟩ ⟨#[44, 32]⟩ true W0 (hl.fr f0) rfl hbk
  have KH := rxhas14_in q c l ⟨#[118, 105, 97]⟩ W0 (hl.fr f0)
  have ev : tx ⟨#[118, 105, 97]⟩ = sVia := rfl
  have ec : tx ⟨#[44, 32]⟩ = commaL := rfl
  rw [ev, kept_all, ec] at KJ
  rw [ev] at KH
  have hjb := join_bulk commaL rfl l sVia
  obtain ⟨hb, hhb⟩ : ∃ hb, hasO l sVia = hb := ⟨_, rfl⟩
  rw [hhb] at KH
  obtain ⟨s, hs⟩ : ∃ s, mkS (joinL commaL ((valuesB l sVia).map tx)) = s := ⟨_, rfl⟩
  have hst : tx s = joinL commaL ((valuesB l sVia).map tx) := by rw [← hs]; exact mkS_tx _
  have hss : s.size ≤ bulkV l := by rw [← tx_len, hst]; exact hjb
  rw [hs] at KJ
  have q0 : W0.cell? ⟨w.heap.size, 0, none⟩ = some (.string ⟨#[]⟩) := cell_of_heap HB0 rfl
  have q1 : W0.cell? ⟨w.heap.size, 1, none⟩ = some (.string ⟨#[]⟩) := cell_of_heap HB0 rfl
  have q2 : W0.cell? ⟨w.heap.size, 2, none⟩ = some (.bool false) := cell_of_heap HB0 rfl
  have z0 : W0.frozen? ⟨w.heap.size, 0, none⟩ = false := frozen_of_heap HB0
  have z1 : W0.frozen? ⟨w.heap.size, 1, none⟩ = false := frozen_of_heap HB0
  have z2 : W0.frozen? ⟨w.heap.size, 2, none⟩ = false := frozen_of_heap HB0
  have HF0 : Hid (Fr (fun _ => False) w W0) := f0
  have n2 : (⟨#[44, 32]⟩ : ByteArray).size = 2 := rfl
  have n3 : (⟨#[50, 32]⟩ : ByteArray).size = 2 := rfl
  obtain ⟨len, hlen⟩ : ∃ len, l.length = len := ⟨_, rfl⟩
  rw [hlen] at KJ KH ⊢
  cases hb with
  | true =>
    obtain ⟨s1, hs1⟩ : ∃ s1, s ++ (⟨#[44, 32]⟩ : ByteArray) = s1 := ⟨_, rfl⟩
    obtain ⟨s2, hs2⟩ : ∃ s2, s1 ++ (⟨#[50, 32]⟩ : ByteArray) = s2 := ⟨_, rfl⟩
    have hz1 : (s.size : Int) + (((⟨#[44, 32]⟩ : ByteArray).size : Nat) : Int) ≤ 9223372036854775807 := by rw [n2]; omega
    have k1 : s1.size = s.size + 2 := by rw [← hs1, size_cat, n2]
    have hz2 : (s1.size : Int) + (((⟨#[50, 32]⟩ : ByteArray).size : Nat) : Int) ≤ 9223372036854775807 := by rw [n3]; omega
    have k2 : s2.size = s1.size + 2 := by rw [← hs2, size_cat, n3]
    have hz3 : (s2.size : Int) + (name.size : Int) ≤ 9223372036854775807 := by omega
    have ht : tx (s2 ++ name) = viaO l (tx name) := by
      rw [tx_catD, ← hs2, tx_catD, ← hs1, tx_catD, hst]
      exact via_yes (tx name) hhb
    obtain ⟨T, hT⟩ : ∃ T, s2 ++ name = T := ⟨_, rfl⟩
    rw [hT] at ht
    have HT : Hid (tx T = viaO l (tx name)) := ht
    have hTs : T.size = (viaO l (tx name)).length := by rw [← tx_len, ht]
    by_cases hL : (viaO l (tx name)).length ≤ 16384
    · have HL2 : Hid (¬ 16384 < (viaO l (tx name)).length) := by show ¬ _; omega
      have hL2 : decide ((16384 : Int) < (T.size : Int)) = false := by rw [decide_eq_false_iff_not]; omega
      clear hl hbk hnm hhb hs hst hss hjb ev ec ht hTs hL hlen f0 HB0 n2 n3 k1 k2
      go_enter Tryz.func26, Tryz.ntmps26
      go_wp2_with (fail)
      clear hW0
      refine KJ.mono ?_
      rintro e w1 ⟨rfl, rfl⟩
      go_wp2_with (fail)
      refine KH.mono ?_
      rintro e w1 ⟨rfl, rfl⟩
      go_wp2_with (fail)
      refine bodyPost_ret (v := .tuple #[.agg #[.string ⟨#[118, 105, 97]⟩, .string T, .bool false], .int .i64 0]) (by simp [results, Tryz.results26, go_sem, q0, q1, q2]) rfl ⟨?_, ((HF0.out.setCell _ (fun h => absurd h (by simp)) _).setCell _ (fun h => absurd h (by simp)) _).setCell _ (fun h => absurd h (by simp)) _⟩
      have h5 : mkS (viaO l (tx name)) = T := by rw [← HT.out]; exact mkS_of T
      rw [if_pos (by have := HL2.out; omega), h5]
      rfl
    · have HL2 : Hid (¬ (viaO l (tx name)).length ≤ 16384) := hL
      have hL2 : (16384 : Int) < (T.size : Int) := by omega
      clear hl hbk hnm hhb hs hst hss hjb ev ec ht hTs hL hlen f0 HB0 n2 n3 k1 k2
      go_enter Tryz.func26, Tryz.ntmps26
      go_wp2_with (fail)
      clear hW0
      refine KJ.mono ?_
      rintro e w1 ⟨rfl, rfl⟩
      go_wp2_with (fail)
      refine KH.mono ?_
      rintro e w1 ⟨rfl, rfl⟩
      go_wp2_with (fail)
      refine bodyPost_ret (v := .tuple #[.agg #[.string ⟨#[]⟩, .string ⟨#[]⟩, .bool false], .int .i64 2]) (by simp [results, Tryz.results26, go_sem, q0, q1, q2]) rfl ⟨?_, ((HF0.out.setCell _ (fun h => absurd h (by simp)) _).setCell _ (fun h => absurd h (by simp)) _).setCell _ (fun h => absurd h (by simp)) _⟩
      rw [if_neg HL2.out]
  | false =>
    obtain ⟨s2, hs2⟩ : ∃ s2, s ++ (⟨#[50, 32]⟩ : ByteArray) = s2 := ⟨_, rfl⟩
    have hz2 : (s.size : Int) + (((⟨#[50, 32]⟩ : ByteArray).size : Nat) : Int) ≤ 9223372036854775807 := by rw [n3]; omega
    have k2 : s2.size = s.size + 2 := by rw [← hs2, size_cat, n3]
    have hz3 : (s2.size : Int) + (name.size : Int) ≤ 9223372036854775807 := by omega
    have ht : tx (s2 ++ name) = viaO l (tx name) := by
      rw [tx_catD, ← hs2, tx_catD, hst]
      exact via_no (tx name) hhb
    obtain ⟨T, hT⟩ : ∃ T, s2 ++ name = T := ⟨_, rfl⟩
    rw [hT] at ht
    have HT : Hid (tx T = viaO l (tx name)) := ht
    have hTs : T.size = (viaO l (tx name)).length := by rw [← tx_len, ht]
    by_cases hL : (viaO l (tx name)).length ≤ 16384
    · have HL2 : Hid (¬ 16384 < (viaO l (tx name)).length) := by show ¬ _; omega
      have hL2 : decide ((16384 : Int) < (T.size : Int)) = false := by rw [decide_eq_false_iff_not]; omega
      clear hl hbk hnm hhb hs hst hss hjb ev ec ht hTs hL hlen f0 HB0 n2 n3 k2
      go_enter Tryz.func26, Tryz.ntmps26
      go_wp2_with (fail)
      clear hW0
      refine KJ.mono ?_
      rintro e w1 ⟨rfl, rfl⟩
      go_wp2_with (fail)
      refine KH.mono ?_
      rintro e w1 ⟨rfl, rfl⟩
      go_wp2_with (fail)
      refine bodyPost_ret (v := .tuple #[.agg #[.string ⟨#[118, 105, 97]⟩, .string T, .bool false], .int .i64 0]) (by simp [results, Tryz.results26, go_sem, q0, q1, q2]) rfl ⟨?_, ((HF0.out.setCell _ (fun h => absurd h (by simp)) _).setCell _ (fun h => absurd h (by simp)) _).setCell _ (fun h => absurd h (by simp)) _⟩
      have h5 : mkS (viaO l (tx name)) = T := by rw [← HT.out]; exact mkS_of T
      rw [if_pos (by have := HL2.out; omega), h5]
      rfl
    · have HL2 : Hid (¬ (viaO l (tx name)).length ≤ 16384) := hL
      have hL2 : (16384 : Int) < (T.size : Int) := by omega
      clear hl hbk hnm hhb hs hst hss hjb ev ec ht hTs hL hlen f0 HB0 n2 n3 k2
      go_enter Tryz.func26, Tryz.ntmps26
      go_wp2_with (fail)
      clear hW0
      refine KJ.mono ?_
      rintro e w1 ⟨rfl, rfl⟩
      go_wp2_with (fail)
      refine KH.mono ?_
      rintro e w1 ⟨rfl, rfl⟩
      go_wp2_with (fail)
      refine bodyPost_ret (v := .tuple #[.agg #[.string ⟨#[]⟩, .string ⟨#[]⟩, .bool false], .int .i64 2]) (by simp [results, Tryz.results26, go_sem, q0, q1, q2]) rfl ⟨?_, ((HF0.out.setCell _ (fun h => absurd h (by simp)) _).setCell _ (fun h => absurd h (by simp)) _).setCell _ (fun h => absurd h (by simp)) _⟩
      rw [if_neg HL2.out]
end Go.Proofs.YtplggcfoadjffaaGreatDoor
