/- Was a header secret wherever it stood? -/
import Derived.Test.YtplggcfoadjffaaGreatDoorXb
import Derived.Test.YtplggcfoadjffaaGreatDoorXf
import Derived.Test.YtplggcfoadjffaaGreatDoorOe
namespace Go.Proofs.YtplggcfoadjffaaGreatDoor
open Go.RowKit
set_option linter.unusedVariables false
set_option maxRecDepth 100000
set_option maxHeartbeats 4000000

def cntS (l : List Hd) (h : Hd) : Nat := (l.filter fun y => sameH y h).length
def secB (l : List Hd) (h : Hd) : Bool := l.all fun y => !sameH y h || y.2.2
theorem was_cnt (l : List Hd) (h : Hd) : wasB l h = (decide (0 < cntS l h) && secB l h) := by
  unfold wasB secB cntS
  congr 1
  rw [Bool.eq_iff_iff]
  simp only [List.any_eq_true, decide_eq_true_eq, List.length_pos_iff, ne_eq, List.filter_eq_nil_iff]
  constructor
  · rintro ⟨y, hy, hs⟩ h2
    exact h2 y hy hs
  · intro h2
    apply Classical.byContradiction
    intro h3
    exact h2 (fun y hy hs => h3 ⟨y, hy, hs⟩)
theorem cntS_step {l : List Hd} {i : Nat} {y h : Hd} (hi : l[i]? = some y) : cntS (l.take (i + 1)) h = cntS (l.take i) h + (if sameH y h = true then 1 else 0) := by
  unfold cntS
  rw [List.take_add_one, hi, List.filter_append, List.length_append]
  congr 1
  simp only [Option.toList_some, List.filter_cons, List.filter_nil]
  split <;> simp_all
theorem secB_step {l : List Hd} {i : Nat} {y h : Hd} (hi : l[i]? = some y) : secB (l.take (i + 1)) h = (secB (l.take i) h && (!sameH y h || y.2.2)) := by
  unfold secB
  rw [List.take_add_one, hi, List.all_append]
  simp
theorem secB_not {l : List Hd} {i : Nat} {y h : Hd} (hi : l[i]? = some y) (hs : sameH y h = true) (hn : y.2.2 = false) : secB l h = false := by
  unfold secB
  rw [List.all_eq_false]
  exact ⟨y, List.mem_of_getElem? hi, by simp [hs, hn]⟩
theorem cntS_le (l : List Hd) (h : Hd) : cntS l h ≤ l.length := List.length_filter_le _ _
theorem was_in (q : Option Addr) (c : Nat) (l : List Hd) (hn hv : ByteArray) (hs : Bool) (w : World) (hl : HL w q c l) :
    Calls Tryz.prog 16 #[.slice q l.length c, .agg #[.string hn, .string hv, .bool hs]] w fun e w' => e = .returned (.bool (wasB l (hn, hv, hs))) ∧ Fr (fun _ => False) w w' := by
  have HLL : Hid (HL w q c l) := hl
  have hfew := hl.few
  obtain ⟨len, hlen⟩ : ∃ len, l.length = len := ⟨_, rfl⟩
  have HN : Hid (l.length = len) := hlen
  rw [hlen] at hfew ⊢
  clear hl hlen
  obtain ⟨V, hV⟩ : ∃ V, wasB l (hn, hv, hs) = V := ⟨_, rfl⟩
  have HV : Hid (wasB l (hn, hv, hs) = V) := hV
  rw [hV]
  clear hV
  obtain ⟨W0, hW0⟩ : ∃ W0, w.alloc (.cells #[.string hn, .string hv, .bool hs] 35) = W0 := ⟨_, rfl⟩
  have HF0 : Hid (Fr (fun _ => False) w W0) := by rw [← hW0]; exact (Fr.refl _ _).alloc _
  have HB0 : Hid (W0.heap[w.heap.size]? = some (.cells #[.string hn, .string hv, .bool hs] 35 (0, 0))) := by rw [← hW0]; exact heap_alloc_new _ _
  go_enter Tryz.func16, Tryz.ntmps16
  go_wp2_with (fail)
  clear hW0
  go_loopw [5, 6] (fun x5 x6 wr => ∃ i n : Nat, x5 = .int .i64 (n : Int) ∧ x6 = .int .i64 (i : Int) ∧ i ≤ len ∧ n ≤ i ∧ Fr (fun _ => False) W0 wr ∧ Hid (cntS (l.take i) (hn, hv, hs) = n ∧ secB (l.take i) (hn, hv, hs) = true)) (fun _ x6 _ => len - (intOf x6).toNat)
  case atStart => exact ⟨0, 0, rfl, rfl, by omega, by omega, Fr.refl _ _, rfl, rfl⟩
  case round =>
    obtain ⟨i, n, rfl, rfl, hi, hni, hf, HC⟩ := hrel
    have HFR : Hid (Fr (fun _ => False) w wr) := HF0.out.trans hf
    have HF : Hid (Fr (fun _ => False) W0 wr) := hf
    by_cases hlt : i < len
    · have hlt2 : (i : Int) < (len : Int) := by omega
      obtain ⟨x, hx⟩ : ∃ x, l[i]? = some x := ⟨_, List.getElem?_eq_getElem (by rw [HN.out]; exact hlt)⟩
      obtain ⟨b, o, rfl, hb, c0, c1, c2, -⟩ := (HLL.out.fr HFR.out).cells i x hx
      have HX : Hid (l[i]? = some x) := hx
      obtain ⟨xn, xv, xs⟩ := x
      dsimp only at c0 c1 c2
      have hB : wr.heap[w.heap.size]? = some (.cells #[.string hn, .string hv, .bool hs] 35 (0, 0)) := (hf.block _ (lt_of_heap HB0.out) id).trans HB0.out
      have g0 : wr.cell? ⟨w.heap.size, 0, none⟩ = some (.string hn) := cell_of_heap hB rfl
      have g1 : wr.cell? ⟨w.heap.size, 1, none⟩ = some (.string hv) := cell_of_heap hB rfl
      have ec := cntS_step (h := (hn, hv, hs)) HX.out
      have es := secB_step (h := (hn, hv, hs)) HX.out
      clear hx hf hB
      by_cases he : tx xn = tx hn
      · have e1 : (xn.toList == hn.toList) = true := by rw [eq_text, decide_eq_true he]
        have e2 : xn.toList = hn.toList := by rw [tx_toList, tx_toList, he]
        by_cases hv2 : tx xv = tx hv
        · have f1 : (xv.toList == hv.toList) = true := by rw [eq_text, decide_eq_true hv2]
          have f2 : xv.toList = hv.toList := by rw [tx_toList, tx_toList, hv2]
          have hsame : sameH (xn, xv, xs) (hn, hv, hs) = true := by unfold sameH; simp [he, hv2]
          cases xs with
          | true =>
            have HC2 : Hid (cntS (l.take (i + 1)) (hn, hv, hs) = n + 1 ∧ secB (l.take (i + 1)) (hn, hv, hs) = true) := ⟨by rw [ec, HC.out.1, if_pos hsame], by rw [es, HC.out.2, hsame]; rfl⟩
            clear he hv2 hsame ec es
            go_wp2_with (fail)
            go_region
            go_wp2_with (fail)
            go_roundw
            case rel => exact ⟨i + 1, n + 1, by go_num, by go_num, by omega, by omega, HF.out.drew, HC2.out⟩
            case measure => simp [intOf]; omega
          | false =>
            have hv0 : V = false := by rw [← HV.out, was_cnt, secB_not HX.out hsame rfl]; simp
            clear he hv2 hsame ec es HV
            subst hv0
            go_wp2_with (fail)
            go_region
            go_wp2_with (fail)
            go_ret
            exact ⟨rfl, HFR.out.drew⟩
        · have f2 : ¬ xv.toList = hv.toList := by rw [tx_toList, tx_toList]; exact hv2
          have f1 : (xv.toList == hv.toList) = false := beq_eq_false_iff_ne.2 f2
          have hsame : sameH (xn, xv, xs) (hn, hv, hs) = false := by unfold sameH; simp [hv2]
          have HC2 : Hid (cntS (l.take (i + 1)) (hn, hv, hs) = n ∧ secB (l.take (i + 1)) (hn, hv, hs) = true) := ⟨by rw [ec, HC.out.1, hsame]; rfl, by rw [es, HC.out.2, hsame]; rfl⟩
          clear he hv2 hsame ec es
          go_wp2_with (fail)
          go_region
          go_wp2_with (fail)
          go_roundw
          case rel => exact ⟨i + 1, n, rfl, by go_num, by omega, by omega, HF.out.drew, HC2.out⟩
          case measure => simp [intOf]; omega
      · have e2 : ¬ xn.toList = hn.toList := by rw [tx_toList, tx_toList]; exact he
        have e1 : (xn.toList == hn.toList) = false := beq_eq_false_iff_ne.2 e2
        have hsame : sameH (xn, xv, xs) (hn, hv, hs) = false := by unfold sameH; simp [he]
        have HC2 : Hid (cntS (l.take (i + 1)) (hn, hv, hs) = n ∧ secB (l.take (i + 1)) (hn, hv, hs) = true) := ⟨by rw [ec, HC.out.1, hsame]; rfl, by rw [es, HC.out.2, hsame]; rfl⟩
        clear he hsame ec es
        go_wp2_with (fail)
        go_region
        go_wp2_with (fail)
        go_roundw
        case rel => exact ⟨i + 1, n, rfl, by go_num, by omega, by omega, HF.out.drew, HC2.out⟩
        case measure => simp [intOf]; omega
    · have hlt2 : ¬ (i : Int) < (len : Int) := by omega
      have hv0 : V = decide (0 < n) := by
        have := HC.out
        rw [List.take_of_length_le (by rw [HN.out]; omega)] at this
        rw [← HV.out, was_cnt, this.1, this.2]
        simp
      clear HV
      subst hv0
      go_wp2_with (fail)
      go_ret
      exact ⟨by simp, HFR.out⟩
end Go.Proofs.YtplggcfoadjffaaGreatDoor
