/- The first header of a name, as closures ask for it; the rules' functions. -/
import Derived.Test.YtplggcfoadjffaaGreatDoorXa
import Derived.Test.YtplggcfoadjffaaGreatDoorOm
import Derived.Shelf.Abstract
namespace Go.Proofs.YtplggcfoadjffaaGreatDoor
open Go.RowKit
set_option linter.unusedVariables false
set_option maxRecDepth 100000
set_option maxHeartbeats 4000000

theorem eq_list (s : ByteArray) (n : List UInt8) : (s.toList == n) = decide (tx s = n) := by
  rw [tx_toList]
  by_cases h : tx s = n
  · simp [h]
  · rw [decide_eq_false h, beq_eq_false_iff_ne]
    exact h
theorem eq_text (s t : ByteArray) : (s.toList == t.toList) = decide (tx s = tx t) := by rw [tx_toList t]; exact eq_list s _
theorem xrules1_in (xn xv : ByteArray) (xs : Bool) (w : World) : Calls Tryz.prog 46 #[.agg #[.string xn, .string xv, .bool xs]] w fun e w' => e = .returned (.bool (decide (tx xn = sCookie))) ∧ Fr (fun _ => False) w w' := by
  have hb := eq_list xn sCookie
  have hf : Fr (fun _ => False) w (w.alloc (.cells #[.string xn, .string xv, .bool xs] 35)) := (Fr.refl _ _).alloc _
  have ch0 : (w.alloc (.cells #[.string xn, .string xv, .bool xs] 35)).cell? ⟨w.heap.size, 0, none⟩ = some (.string xn) := by simp
  generalize decide (tx xn = sCookie) = V at hb ⊢
  unfold sCookie at hb
  go_enter Tryz.func46, Tryz.ntmps46
  go_wp2_with (fail)
  go_ret
  exact ⟨by subst hb; rfl, hf⟩
theorem xpseu11_in (xn xv n : ByteArray) (xs : Bool) (g : Nat) (w : World) (hg : w.cell? ⟨g, 0, none⟩ = some (.string n)) : Calls Tryz.prog 71 #[.agg #[.string xn, .string xv, .bool xs], .pointer (some ⟨g, 0, none⟩)] w fun e w' => e = .returned (.bool (decide (tx xn = tx n))) ∧ Fr (fun _ => False) w w' := by
  have hb := eq_text xn n
  have hf : Fr (fun _ => False) w (w.alloc (.cells #[.string xn, .string xv, .bool xs] 35)) := (Fr.refl _ _).alloc _
  have ch0 : (w.alloc (.cells #[.string xn, .string xv, .bool xs] 35)).cell? ⟨w.heap.size, 0, none⟩ = some (.string xn) := by simp
  have chg : (w.alloc (.cells #[.string xn, .string xv, .bool xs] 35)).cell? ⟨g, 0, none⟩ = some (.string n) := (hf.cell (p := ⟨g, 0, none⟩) (World.block_lt_of_cell? _ _ hg) id).trans hg
  generalize decide (tx xn = tx n) = V at hb ⊢
  go_enter Tryz.func71, Tryz.ntmps71
  go_wp2_with (fail)
  go_ret
  exact ⟨by subst hb; rfl, hf⟩
/-- Where it stands. -/
def IdxH (l : List Hd) (n : List UInt8) (e : Ending) : Prop := (e = .returned (.int .i64 (-1)) ∧ findL l n = none) ∨ ∃ (i : Nat) (h : Hd), e = .returned (.int .i64 (i : Int)) ∧ l[i]? = some h ∧ tx h.1 = n ∧ findL (l.take i) n = none
theorem indexC_in (q : Option Addr) (c : Nat) (l : List Hd) (w : World) (hl : HL w q c l) :
    Calls Tryz.prog 45 #[.slice q l.length c, .func (.func 46) #[] #[]] w fun e w' => IdxH l sCookie e ∧ Fr (fun _ => False) w w' := by
  have HLL : Hid (HL w q c l) := hl
  have hfew := hl.few
  obtain ⟨len, hlen⟩ : ∃ len, l.length = len := ⟨_, rfl⟩
  have HN : Hid (l.length = len) := hlen
  rw [hlen] at hfew ⊢
  clear hl hlen
  go_enter Tryz.func45, Tryz.ntmps45
  go_wp2_with (fail)
  go_loopw [8] (fun v wr => ∃ i : Nat, v = .int .i64 (i : Int) ∧ i ≤ len ∧ Fr (fun _ => False) w wr ∧ Hid (findL (l.take i) sCookie = none)) (fun v _ => len - (intOf v).toNat)
  case atStart => exact ⟨0, rfl, by omega, Fr.refl _ _, by show _ = _; simp [findL]⟩
  case round =>
    obtain ⟨i, rfl, hi, hf, HF⟩ := hrel
    by_cases hlt : i < len
    · have hlt2 : (i : Int) < (len : Int) := by omega
      obtain ⟨x, hx⟩ : ∃ x, l[i]? = some x := ⟨_, List.getElem?_eq_getElem (by rw [HN.out]; exact hlt)⟩
      obtain ⟨b, o, rfl, hb, c0, c1, c2, hs⟩ := (HLL.out.fr hf).cells i x hx
      have HX : Hid (l[i]? = some x) := hx
      obtain ⟨xn, xv, xs⟩ := x
      dsimp only at c0 c1 c2
      clear hx hs
      have K := xrules1_in xn xv xs wr
      have HFR : Hid (Fr (fun _ => False) w wr) := hf
      clear hf
      by_cases he : tx xn = sCookie
      · rw [decide_eq_true he] at K
        have HE : Hid (tx xn = sCookie) := he
        clear he
        go_wp2_with (fail)
        refine K.mono ?_
        rintro e w2 ⟨rfl, f2⟩
        have HF2 : Hid (Fr (fun _ => False) wr w2) := f2
        clear f2
        go_wp2_with (fail)
        go_ret
        exact ⟨.inr ⟨i, (xn, xv, xs), rfl, HX.out, HE.out, HF.out⟩, HFR.out.trans HF2.out⟩
      · rw [decide_eq_false he] at K
        have HF3 : Hid (findL (l.take (i + 1)) sCookie = none) := findL_step HX.out HF.out he
        clear he
        go_wp2_with (fail)
        refine K.mono ?_
        rintro e w2 ⟨rfl, f2⟩
        have HF2 : Hid (Fr (fun _ => False) w w2) := HFR.out.trans f2
        clear f2
        go_wp2_with (fail)
        go_roundw
        case rel => exact ⟨i + 1, by go_num, by omega, HF2.out, HF3.out⟩
        case measure => simp [intOf]; omega
    · have hlt2 : ¬ (i : Int) < (len : Int) := by omega
      go_wp2_with (fail)
      go_ret
      exact ⟨.inl ⟨rfl, findL_end (by rw [HN.out]; omega) HF.out⟩, hf⟩
theorem indexN_in (q : Option Addr) (c : Nat) (l : List Hd) (n : ByteArray) (g : Nat) (w : World) (hl : HL w q c l) (hg : w.cell? ⟨g, 0, none⟩ = some (.string n)) :
    Calls Tryz.prog 45 #[.slice q l.length c, .func (.func 71) #[] #[.pointer (some ⟨g, 0, none⟩)]] w fun e w' => IdxH l (tx n) e ∧ Fr (fun _ => False) w w' := by
  have HLL : Hid (HL w q c l) := hl
  have HG : Hid (w.cell? ⟨g, 0, none⟩ = some (.string n)) := hg
  clear hg
  have hfew := hl.few
  obtain ⟨len, hlen⟩ : ∃ len, l.length = len := ⟨_, rfl⟩
  have HN : Hid (l.length = len) := hlen
  rw [hlen] at hfew ⊢
  clear hl hlen
  go_enter Tryz.func45, Tryz.ntmps45
  go_wp2_with (fail)
  go_loopw [8] (fun v wr => ∃ i : Nat, v = .int .i64 (i : Int) ∧ i ≤ len ∧ Fr (fun _ => False) w wr ∧ Hid (findL (l.take i) (tx n) = none)) (fun v _ => len - (intOf v).toNat)
  case atStart => exact ⟨0, rfl, by omega, Fr.refl _ _, by show _ = _; simp [findL]⟩
  case round =>
    obtain ⟨i, rfl, hi, hf, HF⟩ := hrel
    by_cases hlt : i < len
    · have hlt2 : (i : Int) < (len : Int) := by omega
      obtain ⟨x, hx⟩ : ∃ x, l[i]? = some x := ⟨_, List.getElem?_eq_getElem (by rw [HN.out]; exact hlt)⟩
      obtain ⟨b, o, rfl, hb, c0, c1, c2, hs⟩ := (HLL.out.fr hf).cells i x hx
      have HX : Hid (l[i]? = some x) := hx
      obtain ⟨xn, xv, xs⟩ := x
      dsimp only at c0 c1 c2
      clear hx hs
      have K := xpseu11_in xn xv n xs g wr ((hf.cell (p := ⟨g, 0, none⟩) (World.block_lt_of_cell? _ _ HG.out) id).trans HG.out)
      have HFR : Hid (Fr (fun _ => False) w wr) := hf
      clear hf
      by_cases he : tx xn = (tx n)
      · rw [decide_eq_true he] at K
        have HE : Hid (tx xn = (tx n)) := he
        clear he
        go_wp2_with (fail)
        refine K.mono ?_
        rintro e w2 ⟨rfl, f2⟩
        have HF2 : Hid (Fr (fun _ => False) wr w2) := f2
        clear f2
        go_wp2_with (fail)
        go_ret
        exact ⟨.inr ⟨i, (xn, xv, xs), rfl, HX.out, HE.out, HF.out⟩, HFR.out.trans HF2.out⟩
      · rw [decide_eq_false he] at K
        have HF3 : Hid (findL (l.take (i + 1)) (tx n) = none) := findL_step HX.out HF.out he
        clear he
        go_wp2_with (fail)
        refine K.mono ?_
        rintro e w2 ⟨rfl, f2⟩
        have HF2 : Hid (Fr (fun _ => False) w w2) := HFR.out.trans f2
        clear f2
        go_wp2_with (fail)
        go_roundw
        case rel => exact ⟨i + 1, by go_num, by omega, HF2.out, HF3.out⟩
        case measure => simp [intOf]; omega
    · have hlt2 : ¬ (i : Int) < (len : Int) := by omega
      go_wp2_with (fail)
      go_ret
      exact ⟨.inl ⟨rfl, findL_end (by rw [HN.out]; omega) HF.out⟩, hf⟩

/-- What a rule answers. -/
def TurnAs (w : World) (x : Hd) (b : Bool) (e : Ending) (w' : World) : Prop := e = .returned (.tuple #[hdrV x, .bool b]) ∧ Fr (fun _ => False) w w'
theorem hide_in (z : Int) (xn xv : ByteArray) (xs : Bool) (w : World) : Calls Tryz.prog 48 #[.int .i64 z, .agg #[.string xn, .string xv, .bool xs]] w fun e w' => TurnAs w (xn, xv, true) true e w' := by
  go_enter Tryz.func48, Tryz.ntmps48
  go_wp2_with (fail)
  refine bodyPost_ret (v := .tuple #[.agg #[.string xn, .string xv, .bool true], .bool true]) (by simp [results, Tryz.results48, go_sem]) rfl ⟨rfl, ((Fr.refl _ _).alloc _).alloc _⟩
theorem leave_in (z : Int) (xn xv : ByteArray) (xs : Bool) (w : World) : Calls Tryz.prog 50 #[.int .i64 z, .agg #[.string xn, .string xv, .bool xs]] w fun e w' => TurnAs w zeroHd false e w' := by
  go_enter Tryz.func50, Tryz.ntmps50
  go_wp2_with (fail)
  refine bodyPost_ret (v := .tuple #[.agg #[.string ⟨#[]⟩, .string ⟨#[]⟩, .bool false], .bool false]) (by simp [results, Tryz.results50, go_sem]) rfl ⟨rfl, ((Fr.refl _ _).alloc _).alloc _⟩
theorem host_in (z : Int) (xn xv : ByteArray) (xs au : Bool) (g : Nat) (w : World) (hg : w.cell? ⟨g, 0, none⟩ = some (.bool au)) : Calls Tryz.prog 47 #[.int .i64 z, .agg #[.string xn, .string xv, .bool xs], .pointer (some ⟨g, 0, none⟩)] w fun e w' => TurnAs w (xn, xv, xs) (!au) e w' := by
  have hlt : g < w.heap.size := World.block_lt_of_cell? _ _ hg
  have hc : ∀ o1 o2, ((w.alloc o1).alloc o2).cell? ⟨g, 0, none⟩ = some (.bool au) := fun o1 o2 => ((((Fr.refl (fun _ => False) w).alloc o1).alloc o2).cell (p := ⟨g, 0, none⟩) hlt id).trans hg
  go_enter Tryz.func47, Tryz.ntmps47
  go_wp2_with (fail)
  go_region
  go_wp2_with (fail)
  refine bodyPost_ret (v := .tuple #[.agg #[.string xn, .string xv, .bool xs], .bool (!au)]) (by simp [results, Tryz.results47, go_sem]) rfl ⟨rfl, (((Fr.refl _ _).alloc _).alloc _).drew⟩
theorem cook_in (z f : Int) (xn xv ck : ByteArray) (xs : Bool) (g k : Nat) (w : World) (hg : w.cell? ⟨g, 0, none⟩ = some (.string ck)) (hk : w.cell? ⟨k, 0, none⟩ = some (.int .i64 f)) : Calls Tryz.prog 49 #[.int .i64 z, .agg #[.string xn, .string xv, .bool xs], .pointer (some ⟨g, 0, none⟩), .pointer (some ⟨k, 0, none⟩)] w fun e w' => TurnAs w (mkS sCookie, ck, true) (z == f) e w' := by
  have hlt : g < w.heap.size := World.block_lt_of_cell? _ _ hg
  have hlk : k < w.heap.size := World.block_lt_of_cell? _ _ hk
  have hc : ∀ o1 o2, ((w.alloc o1).alloc o2).cell? ⟨g, 0, none⟩ = some (.string ck) := fun o1 o2 => ((((Fr.refl (fun _ => False) w).alloc o1).alloc o2).cell (p := ⟨g, 0, none⟩) hlt id).trans hg
  have hd : ∀ o1 o2, ((w.alloc o1).alloc o2).cell? ⟨k, 0, none⟩ = some (.int .i64 f) := fun o1 o2 => ((((Fr.refl (fun _ => False) w).alloc o1).alloc o2).cell (p := ⟨k, 0, none⟩) hlk id).trans hk
  go_enter Tryz.func49, Tryz.ntmps49
  go_wp2_with (fail)
  go_region
  go_wp2_with (fail)
  refine bodyPost_ret (v := .tuple #[.agg #[.string ⟨#[99, 111, 111, 107, 105, 101]⟩, .string ck, .bool true], .bool (z == f)]) (by simp [results, Tryz.results49, go_sem]) rfl ⟨rfl, (((Fr.refl _ _).alloc _).alloc _).drew⟩
end Go.Proofs.YtplggcfoadjffaaGreatDoor
