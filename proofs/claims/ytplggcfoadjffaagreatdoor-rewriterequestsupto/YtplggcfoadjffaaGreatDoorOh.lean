/- Lengths: the program's and the document's. -/
import Derived.Test.YtplggcfoadjffaaGreatDoorOg
namespace Go.Proofs.YtplggcfoadjffaaGreatDoor
open Go.RowKit
set_option maxRecDepth 100000
set_option maxHeartbeats 4000000
set_option linter.unusedVariables false

def clS : ByteArray := ⟨#[99, 111, 110, 116, 101, 110, 116, 45, 108, 101, 110, 103, 116, 104]⟩
/-- What Length answers. -/
def lengthV (l : List Hd) : Value := .tuple #[.int .i64 ((lengthO l).1 : Nat), .bool (lengthO l).2.1, .int .i64 (lengthO l).2.2]
theorem length_none {l : List Hd} (h : findL l sCL = none) : lengthV l = .tuple #[.int .i64 0, .bool false, .int .i64 0] := by
  unfold lengthV lengthO; rw [h]; rfl
theorem length_bad {l : List Hd} {f : ByteArray} (h : findL l sCL = some f) (hb : (alikeB l (tx f) && digsB 9 (tx f)) = false) : lengthV l = .tuple #[.int .i64 0, .bool false, .int .i64 134] := by
  unfold lengthV lengthO; rw [h]; simp [hb]
theorem length_good {l : List Hd} {f : ByteArray} (h : findL l sCL = some f) (hb : (alikeB l (tx f) && digsB 9 (tx f)) = true) : lengthV l = .tuple #[.int .i64 ((numL (tx f) : Nat) : Int), .bool true, .int .i64 0] := by
  unfold lengthV lengthO; rw [h]; simp [hb]
theorem alike_step {l : List Hd} {f : List UInt8} {i : Nat} {x : Hd} (hx : l[i]? = some x) (h : alikeB (l.take i) f = true) (hc : tx x.1 = sCL → tx x.2.1 = f) : alikeB (l.take (i + 1)) f = true := by
  unfold alikeB at h ⊢
  rw [List.take_add_one, hx, List.all_append, h]
  simp only [Option.toList_some, List.all_cons, List.all_nil, Bool.and_true, Bool.true_and]
  by_cases e : tx x.1 = sCL
  · rw [hc e]; simp
  · simp [e]
theorem alike_not {l : List Hd} {f : List UInt8} {i : Nat} {x : Hd} (hx : l[i]? = some x) (h1 : tx x.1 = sCL) (h2 : ¬ tx x.2.1 = f) : alikeB l f = false := by
  unfold alikeB
  rw [List.all_eq_false]
  exact ⟨x, List.mem_of_getElem? hx, by simp [h1, h2]⟩
theorem alike_end {l : List Hd} {f : List UInt8} {i : Nat} (hi : l.length ≤ i) (h : alikeB (l.take i) f = true) : alikeB l f = true := by rwa [List.take_of_length_le hi] at h
theorem Length_in (q : Option Addr) (c : Nat) (l : List Hd) (w : World) (hl : HL w q c l) (hE : ErrAt w) :
    Calls Tryz.prog 37 #[.slice q l.length c] w fun e w' => e = .returned (lengthV l) ∧ Fr (fun _ => False) w w' := by
  have HLL : Hid (HL w q c l) := hl
  have HE : Hid (ErrAt w) := hE
  have KF : Calls Tryz.prog 44 #[.slice q l.length c, .string ⟨#[99, 111, 110, 116, 101, 110, 116, 45, 108, 101, 110, 103, 116, 104]⟩] w fun e w' => e = .returned (findV l sCL) ∧ Fr (fun _ => False) w w' := Find_in q c l clS w hl
  have hfew := hl.few
  obtain ⟨len, hlen⟩ : ∃ len, l.length = len := ⟨_, rfl⟩
  have HN : Hid (l.length = len) := hlen
  rw [hlen] at hfew KF ⊢
  clear hl hlen hE
  obtain ⟨V, hV⟩ : ∃ V, lengthV l = V := ⟨_, rfl⟩
  rw [hV]
  have HV : Hid (lengthV l = V) := hV
  clear hV
  cases hfl : findL l sCL with
  | none =>
    have hv : V = .tuple #[.int .i64 0, .bool false, .int .i64 0] := by rw [← HV.out]; exact length_none hfl
    have hfv : findV l sCL = .tuple #[.string ⟨#[]⟩, .bool false] := by unfold findV; rw [hfl]
    rw [hfv] at KF
    clear HV
    subst hv
    go_enter Tryz.func37, Tryz.ntmps37
    go_wp2_with (fail)
    refine KF.mono ?_
    rintro e w1 ⟨rfl, f1⟩
    go_wp2_with (fail)
    go_ret3
    exact ⟨rfl, f1⟩
  | some f =>
    have hfv : findV l sCL = .tuple #[.string f, .bool true] := by unfold findV; rw [hfl]
    have HFL : Hid (findL l sCL = some f) := hfl
    rw [hfv] at KF
    clear hfv hfl
    go_enter Tryz.func37, Tryz.ntmps37
    go_wp2_with (fail)
    refine KF.mono ?_
    rintro e w1 ⟨rfl, f1⟩
    go_wp2_with (fail)
    go_loopw [20] (fun v wr => ∃ i : Nat, v = .int .i64 (i : Int) ∧ i ≤ len ∧ Fr (fun _ => False) w wr ∧ Hid (alikeB (l.take i) (tx f) = true)) (fun v _ => len - (intOf v).toNat)
    case atStart => exact ⟨0, rfl, by omega, f1, by show _ = _; simp [alikeB]⟩
    case round =>
      obtain ⟨i, rfl, hi, hf, HF⟩ := hrel
      by_cases hlt : i < len
      · have hlt2 : (i : Int) < (len : Int) := by omega
        obtain ⟨x, hx⟩ : ∃ x, l[i]? = some x := ⟨_, List.getElem?_eq_getElem (by rw [HN.out]; exact hlt)⟩
        obtain ⟨b, o, rfl, hb, c0, c1, c2, hs⟩ := (HLL.out.fr hf).cells i x hx
        have HX : Hid (l[i]? = some x) := hx
        obtain ⟨xn, xv, xs⟩ := x
        dsimp only at c0 c1 c2
        clear hx hs
        have hf2 : Fr (fun _ => False) w (wr.alloc (.cells #[.string xn, .string xv, .bool xs] 35)) := hf.alloc _
        by_cases he : tx xn = sCL
        · have he2 : xn.toList = [99, 111, 110, 116, 101, 110, 116, 45, 108, 101, 110, 103, 116, 104] := by rw [tx_toList]; exact he
          by_cases hv : tx xv = tx f
          · have hv2 : xv.toList = f.toList := by rw [tx_toList, tx_toList]; exact hv
            have HF2 : Hid (alikeB (l.take (i + 1)) (tx f) = true) := alike_step HX.out HF.out (fun _ => hv)
            clear he hv
            go_wp2_with (fail)
            go_roundw
            case rel => exact ⟨i + 1, by go_num, by omega, hf2, HF2.out⟩
            case measure => simp [intOf]; omega
          · have hv2 : ¬ xv.toList = f.toList := by rw [tx_toList, tx_toList]; exact hv
            have hv3 : (xv.toList == f.toList) = false := beq_eq_false_iff_ne.2 hv2
            have hv4 : (xv.toList != f.toList) = true := by unfold bne; rw [hv3]; rfl
            have hV2 : V = .tuple #[.int .i64 0, .bool false, .int .i64 134] := by
              rw [← HV.out]
              exact length_bad HFL.out (by rw [alike_not HX.out he hv]; rfl)
            clear HV he hv
            subst hV2
            go_wp2_with (fail)
            go_ret3
            exact ⟨rfl, hf2⟩
        · have he2 : ¬ xn.toList = [99, 111, 110, 116, 101, 110, 116, 45, 108, 101, 110, 103, 116, 104] := by rw [tx_toList]; exact he
          have HF2 : Hid (alikeB (l.take (i + 1)) (tx f) = true) := alike_step HX.out HF.out (fun e => absurd e he)
          clear he
          go_wp2_with (fail)
          go_roundw
          case rel => exact ⟨i + 1, by go_num, by omega, hf2, HF2.out⟩
          case measure => simp [intOf]; omega
      · have hlt2 : ¬ (i : Int) < (len : Int) := by omega
        have hal : alikeB l (tx f) = true := alike_end (by rw [HN.out]; omega) HF.out
        have K : Calls Tryz.prog 68 #[.string f, .int .i64 9] wr fun e w' => e = .returned (numV 9 (tx f)) ∧ Fr (fun _ => False) wr w' := number_in f 9 wr (by omega) (HE.out.fr hf)
        obtain ⟨d, hd⟩ : ∃ d, digsB 9 (tx f) = d := ⟨_, rfl⟩
        unfold numV at K
        rw [hd] at K
        cases d with
        | true =>
          have hV2 := length_good HFL.out (by rw [hal, hd]; rfl)
          rw [HV.out] at hV2
          generalize ((numL (tx f) : Nat) : Int) = n at hV2 K
          clear HV hal hd HF HE
          subst hV2
          go_wp2_with (fail)
          refine K.mono ?_
          rintro e w1 ⟨rfl, f1⟩
          go_wp2_with (fail)
          go_ret3
          exact ⟨rfl, hf.trans f1⟩
        | false =>
          have hV2 := length_bad HFL.out (by rw [hal, hd]; rfl)
          rw [HV.out] at hV2
          clear HV hal hd HF HE
          subst hV2
          go_wp2_with (fail)
          refine K.mono ?_
          rintro e w1 ⟨rfl, f1⟩
          go_wp2_with (fail)
          go_ret3
          exact ⟨rfl, hf.trans f1⟩
theorem num_snoc (l : List UInt8) (c : UInt8) : numL (l ++ [c]) = 10 * numL l + (c.toNat - 48) := by unfold numL; rw [List.foldl_append]; rfl
theorem num_take {l : List UInt8} {i : Nat} {c : UInt8} (h : l[i]? = some c) : numL (l.take (i + 1)) = 10 * numL (l.take i) + (c.toNat - 48) := by rw [List.take_add_one, h]; exact num_snoc _ _
theorem num_lt {l : List UInt8} (h : l.all digB = true) : ∀ i, numL (l.take i) < 10 ^ i
  | 0 => by simp [numL]
  | i + 1 => by
    have ih := num_lt h i
    cases hc : l[i]? with
    | none => rw [List.take_add_one, hc]; simp; rw [Nat.pow_succ]; omega
    | some c =>
      have hd : digB c = true := List.all_eq_true.1 h c (List.mem_of_getElem? hc)
      unfold digB at hd
      have := of_decide_eq_true hd
      rw [num_take hc, Nat.pow_succ]
      omega
theorem num_small {l : List UInt8} (h : l.all digB = true) {i : Nat} (hi : i ≤ 9) : numL (l.take i) < 1000000000 := by
  have h1 := num_lt h i
  have h2 : 10 ^ i ≤ 10 ^ 9 := Nat.pow_le_pow_right (by omega) hi
  omega
theorem wrap_u8 {d : Nat} (h : d < 256) : IntKind.u8.wrap (d : Int) = (d : Int) := by
  unfold IntKind.wrap
  simp [IntKind.bits, IntKind.signed]
  omega
theorem rLength_in (q : Option Addr) (c : Nat) (l : List Hd) (w : World) (hl : HL w q c l) :
    Calls Tryz.prog 32 #[.slice q l.length c] w fun e w' => e = .returned (lengthV l) ∧ w = w' := by
  have HLL : Hid (HL w q c l) := hl
  have KF : Calls Tryz.prog 33 #[.slice q l.length c, .string ⟨#[99, 111, 110, 116, 101, 110, 116, 45, 108, 101, 110, 103, 116, 104]⟩] w fun e w' => e = .returned (findV l sCL) ∧ w = w' := rFind_in q c l clS w hl
  have hfew := hl.few
  obtain ⟨len, hlen⟩ : ∃ len, l.length = len := ⟨_, rfl⟩
  have HN : Hid (l.length = len) := hlen
  rw [hlen] at hfew KF ⊢
  clear hl hlen
  obtain ⟨V, hV⟩ : ∃ V, lengthV l = V := ⟨_, rfl⟩
  rw [hV]
  have HV : Hid (lengthV l = V) := hV
  clear hV
  cases hfl : findL l sCL with
  | none =>
    have hv : V = .tuple #[.int .i64 0, .bool false, .int .i64 0] := by rw [← HV.out]; exact length_none hfl
    have hfv : findV l sCL = .tuple #[.string ⟨#[]⟩, .bool false] := by unfold findV; rw [hfl]
    rw [hfv] at KF
    clear HV
    subst hv
    go_enter Tryz.func32, Tryz.ntmps32
    go_wp2_with (fail)
    refine KF.mono ?_
    rintro e w1 ⟨rfl, rfl⟩
    go_wp2_with (fail)
    go_ret3
    exact ⟨rfl, rfl⟩
  | some f =>
    have hfv : findV l sCL = .tuple #[.string f, .bool true] := by unfold findV; rw [hfl]
    have HFL : Hid (findL l sCL = some f) := hfl
    rw [hfv] at KF
    clear hfv hfl
    go_enter Tryz.func32, Tryz.ntmps32
    go_wp2_with (fail)
    refine KF.mono ?_
    rintro e w1 ⟨rfl, rfl⟩
    go_wp2_with (fail)
    go_loopw [7] (fun v wr => ∃ i : Nat, v = .int .i64 (i : Int) ∧ i ≤ len ∧ w = wr ∧ Hid (alikeB (l.take i) (tx f) = true ∧ ∀ x ∈ l.take i, tx x.1 = sCL → digsB 9 (tx x.2.1) = true)) (fun v _ => len - (intOf v).toNat)
    case atStart => exact ⟨0, rfl, by omega, rfl, by show _ ∧ _; simp [alikeB]⟩
    case round =>
      obtain ⟨i, rfl, hi, rfl, HF⟩ := hrel
      by_cases hlt : i < len
      · have hlt2 : (i : Int) < (len : Int) := by omega
        obtain ⟨x, hx⟩ : ∃ x, l[i]? = some x := ⟨_, List.getElem?_eq_getElem (by rw [HN.out]; exact hlt)⟩
        obtain ⟨b, o, rfl, hb, c0, c1, c2, hs⟩ := HLL.out.cells i x hx
        have HX : Hid (l[i]? = some x) := hx
        obtain ⟨xn, xv, xs⟩ := x
        dsimp only at c0 c1 c2
        have KD := digits_in xv w (by have := hs.2; dsimp only at this; omega)
        clear hx hs
        by_cases he : tx xn = sCL
        · have he2 : xn.toList = [99, 111, 110, 116, 101, 110, 116, 45, 108, 101, 110, 103, 116, 104] := by rw [tx_toList]; exact he
          by_cases hv : tx xv = tx f
          · have hv2 : xv.toList = f.toList := by rw [tx_toList, tx_toList]; exact hv
            obtain ⟨d, hd⟩ : ∃ d, digsB 9 (tx xv) = d := ⟨_, rfl⟩
            rw [hd] at KD
            cases d with
            | true =>
              have HF2 : Hid (alikeB (l.take (i + 1)) (tx f) = true ∧ ∀ x ∈ l.take (i + 1), tx x.1 = sCL → digsB 9 (tx x.2.1) = true) := ⟨alike_step HX.out HF.out.1 (fun _ => hv), fun y hy hn => by
                rw [List.take_add_one, HX.out] at hy
                rcases List.mem_append.1 hy with hy | hy
                · exact HF.out.2 y hy hn
                · simp at hy; subst hy; exact hd⟩
              clear he hv hd
              go_wp2_with (go_at_call 34; refine KD.mono ?_; rintro e w' ⟨rfl, rfl⟩)
              go_roundw
              case rel => exact ⟨i + 1, by go_num, by omega, trivial, HF2.out⟩
              case measure => simp [intOf]; omega
            | false =>
              have hV2 : V = .tuple #[.int .i64 0, .bool false, .int .i64 134] := by
                rw [← HV.out]
                exact length_bad HFL.out (by rw [← hv, hd, Bool.and_false])
              clear HV he hv hd
              subst hV2
              go_wp2_with (go_at_call 34; refine KD.mono ?_; rintro e w' ⟨rfl, rfl⟩)
              go_ret3
              exact ⟨rfl, rfl⟩
          · have hv2 : ¬ xv.toList = f.toList := by rw [tx_toList, tx_toList]; exact hv
            have hv3 : (xv.toList == f.toList) = false := beq_eq_false_iff_ne.2 hv2
            have hv4 : (xv.toList != f.toList) = true := by unfold bne; rw [hv3]; rfl
            have hV2 : V = .tuple #[.int .i64 0, .bool false, .int .i64 134] := by
              rw [← HV.out]
              exact length_bad HFL.out (by rw [alike_not HX.out he hv]; rfl)
            clear HV he hv KD
            subst hV2
            go_wp2_with (fail)
            go_ret3
            exact ⟨rfl, rfl⟩
        · have he2 : ¬ xn.toList = [99, 111, 110, 116, 101, 110, 116, 45, 108, 101, 110, 103, 116, 104] := by rw [tx_toList]; exact he
          have HF2 : Hid (alikeB (l.take (i + 1)) (tx f) = true ∧ ∀ x ∈ l.take (i + 1), tx x.1 = sCL → digsB 9 (tx x.2.1) = true) := ⟨alike_step HX.out HF.out.1 (fun e => absurd e he), fun y hy hn => by
            rw [List.take_add_one, HX.out] at hy
            rcases List.mem_append.1 hy with hy | hy
            · exact HF.out.2 y hy hn
            · simp at hy; subst hy; exact absurd hn he⟩
          clear he KD
          go_wp2_with (fail)
          go_roundw
          case rel => exact ⟨i + 1, by go_num, by omega, trivial, HF2.out⟩
          case measure => simp [intOf]; omega
      · have hlt2 : ¬ (i : Int) < (len : Int) := by omega
        have hle : l.length ≤ i := by rw [HN.out]; omega
        have hal : alikeB l (tx f) = true := alike_end hle HF.out.1
        have hd : digsB 9 (tx f) = true := by
          obtain ⟨x, hx, hn, hv⟩ := findL_mem HFL.out
          rw [← hv]
          exact HF.out.2 x (by rw [List.take_of_length_le hle]; exact hx) hn
        have hV2 := length_good HFL.out (by rw [hal, hd]; rfl)
        rw [HV.out] at hV2
        have hsz : 1 ≤ f.size ∧ f.size ≤ 9 ∧ (tx f).all digB = true := by
          unfold digsB at hd
          simp only [Bool.and_eq_true, decide_eq_true_eq, tx_len] at hd
          exact ⟨hd.1.2, hd.2, hd.1.1⟩
        obtain ⟨hs1, hs2, hs3⟩ := hsz
        have HD : Hid ((tx f).all digB = true) := hs3
        obtain ⟨N, hN⟩ : ∃ N, numL (tx f) = N := ⟨_, rfl⟩
        have HNN : Hid (numL (tx f) = N) := hN
        rw [hN] at hV2
        clear HV hal hd HF hs3 hN
        subst hV2
        go_wp2_with (fail)
        go_loopw [8, 9] (fun v8 v9 wr => ∃ j : Nat, v8 = .int .i64 ((numL ((tx f).take j) : Nat) : Int) ∧ v9 = .int .i64 (j : Int) ∧ j ≤ f.size ∧ w = wr) (fun _ v9 _ => f.size - (intOf v9).toNat)
        case atStart => exact ⟨0, by simp [numL], rfl, by omega, rfl⟩
        case round =>
          obtain ⟨j, rfl, rfl, hj, rfl⟩ := hrel
          by_cases hjt : j < f.size
          · have hjt2 : (j : Int) < (f.size : Int) := by omega
            have HT : Hid ((tx f)[j]? = some (f[j]'hjt)) := tx_at f j hjt
            have hix := index_tx f j hjt
            generalize (f[j]'hjt) = ch at HT hix
            have hdig : 48 ≤ ch.toNat ∧ ch.toNat ≤ 57 := by
              have := List.all_eq_true.1 HD.out ch (List.mem_of_getElem? HT.out)
              unfold digB at this
              exact of_decide_eq_true this
            have HNX : Hid (numL ((tx f).take (j + 1)) = 10 * numL ((tx f).take j) + (ch.toNat - 48)) := num_take HT.out
            have hsm := num_small HD.out (i := j) (by omega)
            generalize ch.toNat = cn at hix hdig HNX
            obtain ⟨d, hd⟩ : ∃ d : Nat, cn = d + 48 := ⟨cn - 48, by omega⟩
            subst hd
            have hsub : IntKind.u8.wrap (((d + 48 : Nat) : Int) - 48) = (d : Int) := by
              have : ((d + 48 : Nat) : Int) - 48 = (d : Int) := by omega
              rw [this]
              exact wrap_u8 (by omega)
            generalize numL ((tx f).take j) = n at hsm HNX
            go_wp2_with (fail)
            go_roundw
            case rel => exact ⟨j + 1, by rw [HNX.out]; go_num, by go_num, by omega, trivial⟩
            case measure => simp [intOf]; omega
          · have hjt2 : ¬ (j : Int) < (f.size : Int) := by omega
            have hnj : numL ((tx f).take j) = N := by rw [List.take_of_length_le (by rw [tx_len]; omega)]; exact HNN.out
            rw [hnj]
            clear hnj HNN
            go_wp2_with (fail)
            go_ret3
            exact ⟨rfl, rfl⟩
end Go.Proofs.YtplggcfoadjffaaGreatDoor
