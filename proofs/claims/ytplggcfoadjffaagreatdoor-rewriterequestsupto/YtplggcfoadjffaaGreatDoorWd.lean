/- The document's joined and via. -/
import Derived.Test.YtplggcfoadjffaaGreatDoorXa
import Derived.Test.YtplggcfoadjffaaGreatDoorOe
import Derived.Test.YtplggcfoadjffaaGreatDoorOm
import Derived.Test.YtplggcfoadjffaaGreatDoorXf
namespace Go.Proofs.YtplggcfoadjffaaGreatDoor
open Go.RowKit
set_option linter.unusedVariables false
set_option maxRecDepth 100000
set_option maxHeartbeats 8000000

theorem tx_catD (a b : ByteArray) : tx (a ++ b) = tx a ++ tx b := by
  unfold tx
  simp
theorem size_cat (a b : ByteArray) : (a ++ b).size = a.size + b.size := by rw [← tx_len, tx_catD, List.length_append, tx_len, tx_len]
/-- How much the values of a list are at most, joined. -/
def bulkV : List Hd → Nat
  | [] => 0
  | h :: t => h.2.1.size + 2 + bulkV t
theorem bulkV_append (a b : List Hd) : bulkV (a ++ b) = bulkV a + bulkV b := by
  induction a with
  | nil => simp [bulkV]
  | cons h t ih => simp only [List.cons_append, bulkV, ih]; omega
theorem bulkV_step {l : List Hd} {i : Nat} {h : Hd} (hi : l[i]? = some h) : bulkV (l.take (i + 1)) = bulkV (l.take i) + (h.2.1.size + 2) := by
  rw [List.take_add_one, hi, bulkV_append]
  simp [bulkV]
theorem bulkV_le (l : List Hd) (i : Nat) : bulkV (l.take i) ≤ bulkV l := by
  conv => rhs; rw [← List.take_append_drop i l, bulkV_append]
  omega
def keptV (l : List Hd) (n : List UInt8) (emp : Bool) : List ByteArray := (valuesB l n).filter fun v => emp || fullB v
theorem keptV_step {l : List Hd} {n : List UInt8} {emp : Bool} {i : Nat} {h : Hd} (hi : l[i]? = some h) : keptV (l.take (i + 1)) n emp = keptV (l.take i) n emp ++ (if tx h.1 = n ∧ (emp || fullB h.2.1) = true then [h.2.1] else []) := by
  unfold keptV
  rw [valuesB_step hi, List.filter_append]
  congr 1
  by_cases he : tx h.1 = n
  · by_cases hv : (emp || fullB h.2.1) = true
    · rw [if_pos he, if_pos ⟨he, hv⟩]
      simp only [List.filter_cons, hv, if_true, List.filter_nil]
    · rw [if_pos he, if_neg (fun h => hv h.2)]
      simp only [List.filter_cons, hv, List.filter_nil]
      simp
  · rw [if_neg he, if_neg (fun h => he h.1)]
    rfl
structure JoinS (l : List Hd) (n sep : List UInt8) (emp : Bool) (i : Nat) (s : ByteArray) (fb : Bool) : Prop where
  txt : tx s = joinL sep ((keptV (l.take i) n emp).map tx)
  fst : fb = (keptV (l.take i) n emp).isEmpty
  sz : s.size ≤ bulkV (l.take i)
theorem JoinS.skip {l : List Hd} {n sep : List UInt8} {emp : Bool} {i : Nat} {s : ByteArray} {fb : Bool} {h : Hd} (hj : JoinS l n sep emp i s fb) (hi : l[i]? = some h) (hn : ¬ (tx h.1 = n ∧ (emp || fullB h.2.1) = true)) : JoinS l n sep emp (i + 1) s fb := by
  have e : keptV (l.take (i + 1)) n emp = keptV (l.take i) n emp := by rw [keptV_step hi, if_neg hn, List.append_nil]
  exact ⟨by rw [e]; exact hj.txt, by rw [e]; exact hj.fst, by rw [bulkV_step hi]; have := hj.sz; omega⟩
theorem JoinS.one {l : List Hd} {n sep : List UInt8} {emp : Bool} {i : Nat} {s : ByteArray} {h : Hd} (hj : JoinS l n sep emp i s true) (hi : l[i]? = some h) (hn : tx h.1 = n ∧ (emp || fullB h.2.1) = true) : JoinS l n sep emp (i + 1) (s ++ h.2.1) false := by
  have h0 : keptV (l.take i) n emp = [] := by have := hj.fst; simpa using this.symm
  have hs : tx s = [] := by rw [hj.txt, h0]; rfl
  refine ⟨?_, ?_, ?_⟩
  · rw [keptV_step hi, if_pos hn, h0, tx_catD, hs]; rfl
  · rw [keptV_step hi, if_pos hn, h0]; rfl
  · rw [bulkV_step hi, size_cat]; have := hj.sz; omega
theorem JoinS.more {l : List Hd} {n sep : List UInt8} {emp : Bool} {i : Nat} {s : ByteArray} {h : Hd} {sp : ByteArray} (hsp : tx sp = sep) (h2 : sp.size = 2) (hj : JoinS l n sep emp i s false) (hi : l[i]? = some h) (hn : tx h.1 = n ∧ (emp || fullB h.2.1) = true) : JoinS l n sep emp (i + 1) (s ++ sp ++ h.2.1) false := by
  have h0 : keptV (l.take i) n emp ≠ [] := fun e => by have := hj.fst; rw [e] at this; cases this
  refine ⟨?_, ?_, ?_⟩
  · rw [keptV_step hi, if_pos hn, List.map_append, List.map_cons, List.map_nil, joinL_snoc _ _ (by simpa using h0), ← hj.txt, tx_catD, tx_catD, hsp]
  · rw [keptV_step hi, if_pos hn]; simp
  · rw [bulkV_step hi, size_cat, size_cat]; have := hj.sz; omega
theorem joined_in (q : Option Addr) (c : Nat) (l : List Hd) (n sp : ByteArray) (emp : Bool) (w : World) (hl : HL w q c l) (h2 : sp.size = 2) (hbk : bulkV l ≤ 2 ^ 60) :
    Calls Tryz.prog 24 #[.slice q l.length c, .string n, .string sp, .bool emp] w fun e w' => e = .returned (.string (mkS (joinL (tx sp) ((keptV l (tx n) emp).map tx)))) ∧ w = w' := by
  have HLL : Hid (HL w q c l) := hl
  have hfew := hl.few
  have HBK : Hid (bulkV l ≤ 2 ^ 60) := hbk
  have H2 : Hid (sp.size = 2) := h2
  obtain ⟨len, hlen⟩ : ∃ len, l.length = len := ⟨_, rfl⟩
  have HN : Hid (l.length = len) := hlen
  rw [hlen] at hfew ⊢
  clear hl hlen hbk h2
  obtain ⟨V, hV⟩ : ∃ V, mkS (joinL (tx sp) ((keptV l (tx n) emp).map tx)) = V := ⟨_, rfl⟩
  have HV : Hid (mkS (joinL (tx sp) ((keptV l (tx n) emp).map tx)) = V) := hV
  rw [hV]
  clear hV
  go_enter Tryz.func24, Tryz.ntmps24
  go_wp2_with (fail)
  go_loopw [9, 10, 11] (fun x9 x10 x11 wr => ∃ (i : Nat) (s : ByteArray) (fb : Bool), x9 = .string s ∧ x10 = .bool fb ∧ x11 = .int .i64 (i : Int) ∧ i ≤ len ∧ w = wr ∧ Hid (JoinS l (tx n) (tx sp) emp i s fb)) (fun _ _ x11 _ => len - (intOf x11).toNat)
  case atStart => exact ⟨0, ⟨#[]⟩, true, rfl, rfl, rfl, by omega, rfl, ⟨rfl, rfl, by simp [bulkV]; rfl⟩⟩
  case round =>
    obtain ⟨i, s, fb, rfl, rfl, rfl, hi, rfl, HJ⟩ := hrel
    by_cases hlt : i < len
    · have hlt2 : (i : Int) < (len : Int) := by omega
      obtain ⟨x, hx⟩ : ∃ x, l[i]? = some x := ⟨_, List.getElem?_eq_getElem (by rw [HN.out]; exact hlt)⟩
      obtain ⟨b, o, rfl, hb, c0, c1, c2, -⟩ := HLL.out.cells i x hx
      have HX : Hid (l[i]? = some x) := hx
      have hbi := bulkV_le l (i + 1)
      rw [bulkV_step hx] at hbi
      have hbs := HJ.out.sz
      have hbk := HBK.out
      obtain ⟨xn, xv, xs⟩ := x
      dsimp only at c0 c1 c2 hbi
      have hz1 : (s.size : Int) + (sp.size : Int) ≤ 9223372036854775807 := by have := H2.out; omega
      have hz2 : ((s ++ sp).size : Int) + (xv.size : Int) ≤ 9223372036854775807 := by rw [size_cat]; have := H2.out; omega
      have hz3 : (s.size : Int) + (xv.size : Int) ≤ 9223372036854775807 := by omega
      clear hx hbi hbs hbk
      by_cases he : tx xn = tx n
      · have e1 : (xn.toList == n.toList) = true := by rw [eq_text, decide_eq_true he]
        have e2 : xn.toList = n.toList := by rw [tx_toList, tx_toList, he]
        obtain ⟨fv, hfv⟩ : ∃ fv, fullB xv = fv := ⟨_, rfl⟩
        have e3 : xv.toList.isEmpty = !fv := by rw [← hfv]; unfold fullB; rw [tx_toList]; simp
        by_cases hk : (emp || fv) = true
        · have hkk : tx xn = tx n ∧ (emp || fullB xv) = true := ⟨he, by rw [hfv]; exact hk⟩
          cases fb with
          | true =>
            have HJ2 : Hid (JoinS l (tx n) (tx sp) emp (i + 1) (s ++ xv) false) := HJ.out.one HX.out hkk
            clear hkk hfv he
            cases fv with
            | true =>
              go_wp2_with (fail)
              go_roundw
              case rel => exact ⟨i + 1, _, _, rfl, rfl, by go_num, by omega, trivial, HJ2.out⟩
              case measure => simp [intOf]; omega
            | false =>
              obtain rfl : emp = true := by simpa using hk
              go_wp2_with (fail)
              go_roundw
              case rel => exact ⟨i + 1, _, _, rfl, rfl, by go_num, by omega, trivial, HJ2.out⟩
              case measure => simp [intOf]; omega
          | false =>
            have HJ2 : Hid (JoinS l (tx n) (tx sp) emp (i + 1) (s ++ sp ++ xv) false) := HJ.out.more rfl H2.out HX.out hkk
            clear hkk hfv he
            cases fv with
            | true =>
              go_wp2_with (fail)
              go_roundw
              case rel => exact ⟨i + 1, _, _, rfl, rfl, by go_num, by omega, trivial, HJ2.out⟩
              case measure => simp [intOf]; omega
            | false =>
              obtain rfl : emp = true := by simpa using hk
              go_wp2_with (fail)
              go_roundw
              case rel => exact ⟨i + 1, _, _, rfl, rfl, by go_num, by omega, trivial, HJ2.out⟩
              case measure => simp [intOf]; omega
        · have HJ2 : Hid (JoinS l (tx n) (tx sp) emp (i + 1) s fb) := HJ.out.skip HX.out (fun h => hk (by rw [← hfv]; exact h.2))
          have hk2 : (emp || fv) = false := by simpa using hk
          simp only [Bool.or_eq_false_iff] at hk2
          obtain ⟨rfl, rfl⟩ := hk2
          clear hk hfv he
          go_wp2_with (fail)
          go_roundw
          case rel => exact ⟨i + 1, s, fb, rfl, rfl, by go_num, by omega, trivial, HJ2.out⟩
          case measure => simp [intOf]; omega
      · have e2 : ¬ xn.toList = n.toList := by rw [tx_toList, tx_toList]; exact he
        have e1 : (xn.toList == n.toList) = false := beq_eq_false_iff_ne.2 e2
        have HJ2 : Hid (JoinS l (tx n) (tx sp) emp (i + 1) s fb) := HJ.out.skip HX.out (fun h => he h.1)
        clear he
        go_wp2_with (fail)
        go_roundw
        case rel => exact ⟨i + 1, s, fb, rfl, rfl, by go_num, by omega, trivial, HJ2.out⟩
        case measure => simp [intOf]; omega
    · have hlt2 : ¬ (i : Int) < (len : Int) := by omega
      have hv : V = s := by
        have h := HJ.out.txt
        rw [List.take_of_length_le (by rw [HN.out]; omega)] at h
        rw [← HV.out, ← h]
        exact mkS_of s
      clear HV
      subst hv
      go_wp2_with (fail)
      go_ret
      exact ⟨rfl, rfl⟩
end Go.Proofs.YtplggcfoadjffaaGreatDoor
