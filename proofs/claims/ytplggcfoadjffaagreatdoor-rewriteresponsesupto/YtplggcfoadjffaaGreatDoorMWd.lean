/- The document's joined and via. -/
import Derived.Test.YtplggcfoadjffaaGreatDoorXa
import Derived.Test.YtplggcfoadjffaaGreatDoorOe
import Derived.Test.YtplggcfoadjffaaGreatDoorOm
import Derived.Test.YtplggcfoadjffaaGreatDoorXf
import Derived.Test.YtplggcfoadjffaaGreatDoorXu
namespace Go.Proofs.YtplggcfoadjffaaGreatDoor
open Go.RowKit
set_option linter.unusedVariables false
set_option maxRecDepth 100000
set_option maxHeartbeats 8000000

theorem tx_catD (a b : ByteArray) : tx (a ++ b) = tx a ++ tx b := by
  unfold tx
  simp
theorem size_cat (a b : ByteArray) : (a ++ b).size = a.size + b.size := by rw [← tx_len, tx_catD, List.length_append, tx_len, tx_len]
/-- How much the values of a list are at most, joined. -/
def bulkV : List Hd → Nat
  | [] => 0
  | h :: t => h.2.1.size + 2 + bulkV t
theorem bulkV_append (a b : List Hd) : bulkV (a ++ b) = bulkV a + bulkV b := by
  induction a with
  | nil => simp [bulkV]
  | cons h t ih => simp only [List.cons_append, bulkV, ih]; omega
theorem bulkV_step {l : List Hd} {i : Nat} {h : Hd} (hi : l[i]? = some h) : bulkV (l.take (i + 1)) = bulkV (l.take i) + (h.2.1.size + 2) := by
  rw [List.take_add_one, hi, bulkV_append]
  simp [bulkV]
theorem bulkV_le (l : List Hd) (i : Nat) : bulkV (l.take i) ≤ bulkV l := by
  conv => rhs; rw [← List.take_append_drop i l, bulkV_append]
  omega
def keptV (l : List Hd) (n : List UInt8) (emp : Bool) : List ByteArray := (valuesB l n).filter fun v => emp || fullB v
theorem keptV_step {l : List Hd} {n : List UInt8} {emp : Bool} {i : Nat} {h : Hd} (hi : l[i]? = some h) : keptV (l.take (i + 1)) n emp = keptV (l.take i) n emp ++ (if tx h.1 = n ∧ (emp || fullB h.2.1) = true then [h.2.1] else []) := by
  unfold keptV
  rw [valuesB_step hi, List.filter_append]
  congr 1
  by_cases he : tx h.1 = n
  · by_cases hv : (emp || fullB h.2.1) = true
    · rw [if_pos he, if_pos ⟨he, hv⟩]
      simp only [List.filter_cons, hv, if_true, List.filter_nil]
    · rw [if_pos he, if_neg (fun h => hv h.2)]
      simp only [List.filter_cons, hv, List.filter_nil]
      simp
  · rw [if_neg he, if_neg (fun h => he h.1)]
    rfl
structure JoinS (l : List Hd) (n sep : List UInt8) (emp : Bool) (i : Nat) (s : ByteArray) (fb : Bool) : Prop where
  txt : tx s = joinL sep ((keptV (l.take i) n emp).map tx)
  fst : fb = (keptV (l.take i) n emp).isEmpty
  sz : s.size ≤ bulkV (l.take i)
theorem JoinS.skip {l : List Hd} {n sep : List UInt8} {emp : Bool} {i : Nat} {s : ByteArray} {fb : Bool} {h : Hd} (hj : JoinS l n sep emp i s fb) (hi : l[i]? = some h) (hn : ¬ (tx h.1 = n ∧ (emp || fullB h.2.1) = true)) : JoinS l n sep emp (i + 1) s fb := by
  have e : keptV (l.take (i + 1)) n emp = keptV (l.take i) n emp := by rw [keptV_step hi, if_neg hn, List.append_nil]
  exact ⟨by rw [e]; exact hj.txt, by rw [e]; exact hj.fst, by rw [bulkV_step hi]; have := hj.sz; omega⟩
theorem JoinS.one {l : List Hd} {n sep : List UInt8} {emp : Bool} {i : Nat} {s : ByteArray} {h : Hd} (hj : JoinS l n sep emp i s true) (hi : l[i]? = some h) (hn : tx h.1 = n ∧ (emp || fullB h.2.1) = true) : JoinS l n sep emp (i + 1) (s ++ h.2.1) false := by
  have h0 : keptV (l.take i) n emp = [] := by have := hj.fst; simpa using this.symm
  have hs : tx s = [] := by rw [hj.txt, h0]; rfl
  refine ⟨?_, ?_, ?_⟩
  · rw [keptV_step hi, if_pos hn, h0, tx_catD, hs]; rfl
  · rw [keptV_step hi, if_pos hn, h0]; rfl
  · rw [bulkV_step hi, size_cat]; have := hj.sz; omega
theorem JoinS.more {l : List Hd} {n sep : List UInt8} {emp : Bool} {i : Nat} {s : ByteArray} {h : Hd} {sp : ByteArray} (hsp : tx sp = sep) (h2 : sp.size = 2) (hj : JoinS l n sep emp i s false) (hi : l[i]? = some h) (hn : tx h.1 = n ∧ (emp || fullB h.2.1) = true) : JoinS l n sep emp (i + 1) (s ++ sp ++ h.2.1) false := by
  have h0 : keptV (l.take i) n emp ≠ [] := fun e => by have := hj.fst; rw [e] at this; cases this
  refine ⟨?_, ?_, ?_⟩
  · rw [keptV_step hi, if_pos hn, List.map_append, List.map_cons, List.map_nil, joinL_snoc _ _ (by simpa using h0), ← hj.txt, tx_catD, tx_catD, hsp]
  · rw [keptV_step hi, if_pos hn]; simp
  · rw [bulkV_step hi, size_cat, size_cat]; have := hj.sz; omega
theorem joined_in (q : Option Addr) (c : Nat) (l : List Hd) (n sp : ByteArray) (emp : Bool) (w : World) (hl : HL w q c l) (h2 : sp.size = 2) (hbk : bulkV l ≤ 2 ^ 60) :
    Calls Tryz.prog 24 #[.slice q l.length c, .string n, .string sp, .bool emp] w fun e w' => e = .returned (.string (mkS (joinL (tx sp) ((keptV l (tx n) emp).map tx)))) ∧ w = w' := by
  have HLL : Hid (HL w q c l) := hl
  have hfew := hl.few
  have HBK : Hid (bulkV l ≤ 2 ^ 60) := hbk
  have H2 : Hid (sp.size = 2) := h2
  obtain ⟨len, hlen⟩ : ∃ len, l.length = len := ⟨_, rfl⟩
  have HN : Hid (l.length = len) := hlen
  rw [hlen] at hfew ⊢
  clear hl hlen hbk h2
  obtain ⟨V, hV⟩ : ∃ V, mkS (joinL (tx sp) ((keptV l (tx n) emp).map tx)) = V := ⟨_, rfl⟩
  have HV : Hid (mkS (joinL (tx sp) ((keptV l (tx n) emp).map tx)) = V) := hV
  rw [hV]
  clear hV
  go_enter Tryz.func24, Tryz.ntmps24
  go_wp2_with (fail)
  go_loopw [9, 10, 11] (fun x9 x10 x11 wr => ∃ (i : Nat) (s : ByteArray) (fb : Bool), x9 = .string s ∧ x10 = .bool fb ∧ x11 = .int .i64 (i : Int) ∧ i ≤ len ∧ w = wr ∧ Hid (JoinS l (tx n) (tx sp) emp i s fb)) (fun _ _ x11 _ => len - (intOf x11).toNat)
  case atStart => exact ⟨0, ⟨#[]⟩, true, rfl, rfl, rfl, by omega, rfl, ⟨rfl, rfl, by simp [bulkV]; rfl⟩⟩
  case round =>
    obtain ⟨i, s, fb, rfl, rfl, rfl, hi, rfl, HJ⟩ := hrel
    by_cases hlt : i < len
    · have hlt2 : (i : Int) < (len : Int) := by omega
      obtain ⟨x, hx⟩ : ∃ x, l[i]? = some x := ⟨_, List.getElem?_eq_getElem (by rw [HN.out]; exact hlt)⟩
      obtain ⟨b, o, rfl, hb, c0, c1, c2, -⟩ := HLL.out.cells i x hx
      have HX : Hid (l[i]? = some x) := hx
      have hbi := bulkV_le l (i + 1)
      rw [bulkV_step hx] at hbi
      have hbs := HJ.out.sz
      have hbk := HBK.out
      obtain ⟨xn, xv, xs⟩ := x
      dsimp only at c0 c1 c2 hbi
      have hz1 : (s.size : Int) + (sp.size : Int) ≤ 9223372036854775807 := by have := H2.out; omega
      have hz2 : ((s ++ sp).size : Int) + (xv.size : Int) ≤ 9223372036854775807 := by rw [size_cat]; have := H2.out; omega
      have hz3 : (s.size : Int) + (xv.size : Int) ≤ 9223372036854775807 := by omega
      clear hx hbi hbs hbk
      by_cases he : tx xn = tx n
      · have e1 : (xn.toList == n.toList) = true := by rw [eq_text, decide_eq_true he]
        have e2 : xn.toList = n.toList := by rw [tx_toList, tx_toList, he]
        obtain ⟨fv, hfv⟩ : ∃ fv, fullB xv = fv := ⟨_, rfl⟩
        have e3 : xv.toList.isEmpty = !fv := by rw [← hfv]; unfold fullB; rw [tx_toList]; simp
        by_cases hk : (emp || fv) = true
        · have hkk : tx xn = tx n ∧ (emp || fullB xv) = true := ⟨he, by rw [hfv]; exact hk⟩
          cases fb with
          | true =>
            have HJ2 : Hid (JoinS l (tx n) (tx sp) emp (i + 1) (s ++ xv) false) := HJ.out.one HX.out hkk
            clear hkk hfv he
            cases fv with
            | true =>
              go_wp2_with (fail)
              go_roundw
              case rel => exact ⟨i + 1, _, _, rfl, rfl, by go_num, by omega, trivial, HJ2.out⟩
              case measure => simp [intOf]; omega
            | false =>
              obtain rfl : emp = true := by simpa using hk
              go_wp2_with (fail)
              go_roundw
              case rel => exact ⟨i + 1, _, _, rfl, rfl, by go_num, by omega, trivial, HJ2.out⟩
              case measure => simp [intOf]; omega
          | false =>
            have HJ2 : Hid (JoinS l (tx n) (tx sp) emp (i + 1) (s ++ sp ++ xv) false) := HJ.out.more rfl H2.out HX.out hkk
            clear hkk hfv he
            cases fv with
            | true =>
              go_wp2_with (fail)
              go_roundw
              case rel => exact ⟨i + 1, _, _, rfl, rfl, by go_num, by omega, trivial, HJ2.out⟩
              case measure => simp [intOf]; omega
            | false =>
              obtain rfl : emp = true := by simpa using hk
              go_wp2_with (fail)
              go_roundw
              case rel => exact ⟨i + 1, _, _, rfl, rfl, by go_num, by omega, trivial, HJ2.out⟩
              case measure => simp [intOf]; omega
        · have HJ2 : Hid (JoinS l (tx n) (tx sp) emp (i + 1) s fb) := HJ.out.skip HX.out (fun h => hk (by rw [← hfv]; exact h.2))
          have hk2 : (emp || fv) = false := by simpa using hk
          simp only [Bool.or_eq_false_iff] at hk2
          obtain ⟨rfl, rfl⟩ := hk2
          clear hk hfv he
          go_wp2_with (fail)
          go_roundw
          case rel => exact ⟨i + 1, s, fb, rfl, rfl, by go_num, by omega, trivial, HJ2.out⟩
          case measure => simp [intOf]; omega
      · have e2 : ¬ xn.toList = n.toList := by rw [tx_toList, tx_toList]; exact he
        have e1 : (xn.toList == n.toList) = false := beq_eq_false_iff_ne.2 e2
        have HJ2 : Hid (JoinS l (tx n) (tx sp) emp (i + 1) s fb) := HJ.out.skip HX.out (fun h => he h.1)
        clear he
        go_wp2_with (fail)
        go_roundw
        case rel => exact ⟨i + 1, s, fb, rfl, rfl, by go_num, by omega, trivial, HJ2.out⟩
        case measure => simp [intOf]; omega
    · have hlt2 : ¬ (i : Int) < (len : Int) := by omega
      have hv : V = s := by
        have h := HJ.out.txt
        rw [List.take_of_length_le (by rw [HN.out]; omega)] at h
        rw [← HV.out, ← h]
        exact mkS_of s
      clear HV
      subst hv
      go_wp2_with (fail)
      go_ret
      exact ⟨rfl, rfl⟩
end Go.Proofs.YtplggcfoadjffaaGreatDoor
/- The document's has and via. -/
namespace Go.Proofs.YtplggcfoadjffaaGreatDoor
open Go.RowKit
set_option linter.unusedVariables false
set_option maxRecDepth 100000
set_option maxHeartbeats 8000000

theorem rxhas14_in (q : Option Addr) (c : Nat) (l : List Hd) (n : ByteArray) (w : World) (hl : HL w q c l) : Calls Tryz.prog 25 #[.slice q l.length c, .string n] w fun e w' => e = .returned (.bool (hasO l (tx n))) ∧ w = w' := by
  have K := rFind_in q c l n w hl
  obtain ⟨a, hv⟩ : ∃ a : ByteArray, findV l (tx n) = .tuple #[.string a, .bool (hasO l (tx n))] := by unfold findV hasO; cases findL l (tx n) <;> exact ⟨_, rfl⟩
  rw [hv] at K
  generalize hasO l (tx n) = b at K ⊢
  clear hv hl
  generalize l.length = len at K ⊢
  go_enter Tryz.func25, Tryz.ntmps25
  go_wp2_with (fail)
  refine K.mono ?_
  rintro e w1 ⟨rfl, rfl⟩
  go_wp2_with (fail)
  go_ret
  exact ⟨rfl, rfl⟩
theorem kept_all (l : List Hd) (n : List UInt8) : keptV l n true = valuesB l n := by
  unfold keptV
  simp
theorem kept_full (l : List Hd) (n : List UInt8) : keptV l n false = (valuesB l n).filter fullB := by
  unfold keptV
  simp
theorem via_yes {l : List Hd} (name : List UInt8) (h : hasO l sVia = true) : joinL commaL ((valuesB l sVia).map tx) ++ commaL ++ twoL ++ name = viaO l name := by
  have h1 : valuesB l sVia ≠ [] := by
    unfold hasO at h
    cases hf : findL l sVia with
    | none => rw [hf] at h; cases h
    | some v => exact valuesB_some hf
  unfold viaO
  rw [joinL_snoc _ _ (by simpa using h1)]
  simp
theorem via_no {l : List Hd} (name : List UInt8) (h : hasO l sVia = false) : joinL commaL ((valuesB l sVia).map tx) ++ twoL ++ name = viaO l name := by
  have h1 : valuesB l sVia = [] := by
    unfold hasO at h
    cases hf : findL l sVia with
    | none => exact valuesB_none hf
    | some v => rw [hf] at h; cases h
  unfold viaO
  rw [h1]
  rfl
theorem join_bulk (sep : List UInt8) (h2 : sep.length = 2) (l : List Hd) (n : List UInt8) : (joinL sep ((valuesB l n).map tx)).length ≤ bulkV l := by
  induction l with
  | nil => simp [valuesB, joinL]
  | cons h t ih =>
    have e : valuesB (h :: t) n = (if tx h.1 = n then [h.2.1] else []) ++ valuesB t n := by
      unfold valuesB
      rw [List.filter_cons]
      by_cases he : tx h.1 = n <;> simp [he]
    rw [e, bulkV]
    by_cases he : tx h.1 = n
    · rw [if_pos he]
      by_cases ht : valuesB t n = []
      · rw [ht]
        simp [joinL, tx_len]
        omega
      · rw [List.map_append, List.map_cons, List.map_nil, List.singleton_append, joinL_cons _ _ (by simpa using ht)]
        simp only [List.length_append, tx_len, h2]
        omega
    · rw [if_neg he, List.nil_append]
      omega
/-- What via answers. -/
def ViaAs (w : World) (l : List Hd) (name : List UInt8) (e : Ending) (w' : World) : Prop := e = .returned (if (viaO l name).length ≤ 16384 then .tuple #[.agg #[.string (mkS sVia), .string (mkS (viaO l name)), .bool false], .int .i64 0] else .tuple #[.agg #[.string ⟨#[]⟩, .string ⟨#[]⟩, .bool false], .int .i64 2]) ∧ Fr (fun _ => False) w w'
theorem rvia_in (q : Option Addr) (c : Nat) (l : List Hd) (name : ByteArray) (w : World) (hl : HL w q c l) (hbk : bulkV l ≤ 2 ^ 60) (hnm : name.size ≤ 2 ^ 60) :
    Calls Tryz.prog 26 #[.slice q l.length c, .string name] w fun e w' => ViaAs w l (tx name) e w' := by
  obtain ⟨W0, hW0⟩ : ∃ W0, w.alloc (.cells #[.string ⟨#[]⟩, .string ⟨#[]⟩, .bool false] 35) = W0 := ⟨_, rfl⟩
  have f0 : Fr (fun _ => False) w W0 := by rw [← hW0]; exact (Fr.refl _ _).alloc _
  have HB0 : W0.heap[w.heap.size]? = some (.cells #[.string ⟨#[]⟩, .string ⟨#[]⟩, .bool false] 35 (0, 0)) := by rw [← hW0]; exact heap_alloc_new _ _
  have KJ := joined_in q c l ⟨#[118, 105, 97]⟩ ⟨#[44, 32]⟩ true W0 (hl.fr f0) rfl hbk
  have KH := rxhas14_in q c l ⟨#[118, 105, 97]⟩ W0 (hl.fr f0)
  have ev : tx ⟨#[118, 105, 97]⟩ = sVia := rfl
  have ec : tx ⟨#[44, 32]⟩ = commaL := rfl
  rw [ev, kept_all, ec] at KJ
  rw [ev] at KH
  have hjb := join_bulk commaL rfl l sVia
  obtain ⟨hb, hhb⟩ : ∃ hb, hasO l sVia = hb := ⟨_, rfl⟩
  rw [hhb] at KH
  obtain ⟨s, hs⟩ : ∃ s, mkS (joinL commaL ((valuesB l sVia).map tx)) = s := ⟨_, rfl⟩
  have hst : tx s = joinL commaL ((valuesB l sVia).map tx) := by rw [← hs]; exact mkS_tx _
  have hss : s.size ≤ bulkV l := by rw [← tx_len, hst]; exact hjb
  rw [hs] at KJ
  have q0 : W0.cell? ⟨w.heap.size, 0, none⟩ = some (.string ⟨#[]⟩) := cell_of_heap HB0 rfl
  have q1 : W0.cell? ⟨w.heap.size, 1, none⟩ = some (.string ⟨#[]⟩) := cell_of_heap HB0 rfl
  have q2 : W0.cell? ⟨w.heap.size, 2, none⟩ = some (.bool false) := cell_of_heap HB0 rfl
  have z0 : W0.frozen? ⟨w.heap.size, 0, none⟩ = false := frozen_of_heap HB0
  have z1 : W0.frozen? ⟨w.heap.size, 1, none⟩ = false := frozen_of_heap HB0
  have z2 : W0.frozen? ⟨w.heap.size, 2, none⟩ = false := frozen_of_heap HB0
  have HF0 : Hid (Fr (fun _ => False) w W0) := f0
  have n2 : (⟨#[44, 32]⟩ : ByteArray).size = 2 := rfl
  have n3 : (⟨#[50, 32]⟩ : ByteArray).size = 2 := rfl
  obtain ⟨len, hlen⟩ : ∃ len, l.length = len := ⟨_, rfl⟩
  rw [hlen] at KJ KH ⊢
  cases hb with
  | true =>
    obtain ⟨s1, hs1⟩ : ∃ s1, s ++ (⟨#[44, 32]⟩ : ByteArray) = s1 := ⟨_, rfl⟩
    obtain ⟨s2, hs2⟩ : ∃ s2, s1 ++ (⟨#[50, 32]⟩ : ByteArray) = s2 := ⟨_, rfl⟩
    have hz1 : (s.size : Int) + (((⟨#[44, 32]⟩ : ByteArray).size : Nat) : Int) ≤ 9223372036854775807 := by rw [n2]; omega
    have k1 : s1.size = s.size + 2 := by rw [← hs1, size_cat, n2]
    have hz2 : (s1.size : Int) + (((⟨#[50, 32]⟩ : ByteArray).size : Nat) : Int) ≤ 9223372036854775807 := by rw [n3]; omega
    have k2 : s2.size = s1.size + 2 := by rw [← hs2, size_cat, n3]
    have hz3 : (s2.size : Int) + (name.size : Int) ≤ 9223372036854775807 := by omega
    have ht : tx (s2 ++ name) = viaO l (tx name) := by
      rw [tx_catD, ← hs2, tx_catD, ← hs1, tx_catD, hst]
      exact via_yes (tx name) hhb
    obtain ⟨T, hT⟩ : ∃ T, s2 ++ name = T := ⟨_, rfl⟩
    rw [hT] at ht
    have HT : Hid (tx T = viaO l (tx name)) := ht
    have hTs : T.size = (viaO l (tx name)).length := by rw [← tx_len, ht]
    by_cases hL : (viaO l (tx name)).length ≤ 16384
    · have HL2 : Hid (¬ 16384 < (viaO l (tx name)).length) := by show ¬ _; omega
      have hL2 : decide ((16384 : Int) < (T.size : Int)) = false := by rw [decide_eq_false_iff_not]; omega
      clear hl hbk hnm hhb hs hst hss hjb ev ec ht hTs hL hlen f0 HB0 n2 n3 k1 k2
      go_enter Tryz.func26, Tryz.ntmps26
      go_wp2_with (fail)
      clear hW0
      refine KJ.mono ?_
      rintro e w1 ⟨rfl, rfl⟩
      go_wp2_with (fail)
      refine KH.mono ?_
      rintro e w1 ⟨rfl, rfl⟩
      go_wp2_with (fail)
      refine bodyPost_ret (v := .tuple #[.agg #[.string ⟨#[118, 105, 97]⟩, .string T, .bool false], .int .i64 0]) (by simp [results, Tryz.results26, go_sem, q0, q1, q2]) rfl ⟨?_, ((HF0.out.setCell _ (fun h => absurd h (by simp)) _).setCell _ (fun h => absurd h (by simp)) _).setCell _ (fun h => absurd h (by simp)) _⟩
      have h5 : mkS (viaO l (tx name)) = T := by rw [← HT.out]; exact mkS_of T
      rw [if_pos (by have := HL2.out; omega), h5]
      rfl
    · have HL2 : Hid (¬ (viaO l (tx name)).length ≤ 16384) := hL
      have hL2 : (16384 : Int) < (T.size : Int) := by omega
      clear hl hbk hnm hhb hs hst hss hjb ev ec ht hTs hL hlen f0 HB0 n2 n3 k1 k2
      go_enter Tryz.func26, Tryz.ntmps26
      go_wp2_with (fail)
      clear hW0
      refine KJ.mono ?_
      rintro e w1 ⟨rfl, rfl⟩
      go_wp2_with (fail)
      refine KH.mono ?_
      rintro e w1 ⟨rfl, rfl⟩
      go_wp2_with (fail)
      refine bodyPost_ret (v := .tuple #[.agg #[.string ⟨#[]⟩, .string ⟨#[]⟩, .bool false], .int .i64 2]) (by simp [results, Tryz.results26, go_sem, q0, q1, q2]) rfl ⟨?_, ((HF0.out.setCell _ (fun h => absurd h (by simp)) _).setCell _ (fun h => absurd h (by simp)) _).setCell _ (fun h => absurd h (by simp)) _⟩
      rw [if_neg HL2.out]
  | false =>
    obtain ⟨s2, hs2⟩ : ∃ s2, s ++ (⟨#[50, 32]⟩ : ByteArray) = s2 := ⟨_, rfl⟩
    have hz2 : (s.size : Int) + (((⟨#[50, 32]⟩ : ByteArray).size : Nat) : Int) ≤ 9223372036854775807 := by rw [n3]; omega
    have k2 : s2.size = s.size + 2 := by rw [← hs2, size_cat, n3]
    have hz3 : (s2.size : Int) + (name.size : Int) ≤ 9223372036854775807 := by omega
    have ht : tx (s2 ++ name) = viaO l (tx name) := by
      rw [tx_catD, ← hs2, tx_catD, hst]
      exact via_no (tx name) hhb
    obtain ⟨T, hT⟩ : ∃ T, s2 ++ name = T := ⟨_, rfl⟩
    rw [hT] at ht
    have HT : Hid (tx T = viaO l (tx name)) := ht
    have hTs : T.size = (viaO l (tx name)).length := by rw [← tx_len, ht]
    by_cases hL : (viaO l (tx name)).length ≤ 16384
    · have HL2 : Hid (¬ 16384 < (viaO l (tx name)).length) := by show ¬ _; omega
      have hL2 : decide ((16384 : Int) < (T.size : Int)) = false := by rw [decide_eq_false_iff_not]; omega
      clear hl hbk hnm hhb hs hst hss hjb ev ec ht hTs hL hlen f0 HB0 n2 n3 k2
      go_enter Tryz.func26, Tryz.ntmps26
      go_wp2_with (fail)
      clear hW0
      refine KJ.mono ?_
      rintro e w1 ⟨rfl, rfl⟩
      go_wp2_with (fail)
      refine KH.mono ?_
      rintro e w1 ⟨rfl, rfl⟩
      go_wp2_with (fail)
      refine bodyPost_ret (v := .tuple #[.agg #[.string ⟨#[118, 105, 97]⟩, .string T, .bool false], .int .i64 0]) (by simp [results, Tryz.results26, go_sem, q0, q1, q2]) rfl ⟨?_, ((HF0.out.setCell _ (fun h => absurd h (by simp)) _).setCell _ (fun h => absurd h (by simp)) _).setCell _ (fun h => absurd h (by simp)) _⟩
      have h5 : mkS (viaO l (tx name)) = T := by rw [← HT.out]; exact mkS_of T
      rw [if_pos (by have := HL2.out; omega), h5]
      rfl
    · have HL2 : Hid (¬ (viaO l (tx name)).length ≤ 16384) := hL
      have hL2 : (16384 : Int) < (T.size : Int) := by omega
      clear hl hbk hnm hhb hs hst hss hjb ev ec ht hTs hL hlen f0 HB0 n2 n3 k2
      go_enter Tryz.func26, Tryz.ntmps26
      go_wp2_with (fail)
      clear hW0
      refine KJ.mono ?_
      rintro e w1 ⟨rfl, rfl⟩
      go_wp2_with (fail)
      refine KH.mono ?_
      rintro e w1 ⟨rfl, rfl⟩
      go_wp2_with (fail)
      refine bodyPost_ret (v := .tuple #[.agg #[.string ⟨#[]⟩, .string ⟨#[]⟩, .bool false], .int .i64 2]) (by simp [results, Tryz.results26, go_sem, q0, q1, q2]) rfl ⟨?_, ((HF0.out.setCell _ (fun h => absurd h (by simp)) _).setCell _ (fun h => absurd h (by simp)) _).setCell _ (fun h => absurd h (by simp)) _⟩
      rw [if_neg HL2.out]
end Go.Proofs.YtplggcfoadjffaaGreatDoor
