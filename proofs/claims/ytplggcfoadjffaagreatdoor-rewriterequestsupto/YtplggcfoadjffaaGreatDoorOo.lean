/- A request's pseudo headers, a response's status: the program's. -/
import Derived.Test.YtplggcfoadjffaaGreatDoorOn
import Derived.Test.YtplggcfoadjffaaGreatDoorOh
namespace Go.Proofs.YtplggcfoadjffaaGreatDoor
open Go.RowKit Go.Maps
set_option linter.unusedVariables false
set_option maxRecDepth 100000
set_option maxHeartbeats 8000000

/-- The same as wholeB, over what was asked. -/
def wholeV (me cn pr au sc pa fs fp : Bool) : Bool := if me then false else if cn && !pr then au && !sc && !pa else if pr && (!cn || !au) then false else !fs && !fp
theorem whole_eq (l : List Hd) : wholeB l = wholeV (valO l sMethod).isEmpty (valO l sMethod == sConnect) (hasO l sProto) (hasO l sAuth) (hasO l sScheme) (hasO l sPath) (valO l sScheme).isEmpty (valO l sPath).isEmpty := rfl
theorem Make_in (b n : Nat) (l : List Hd) (w : World) (hm : SMap w b n (gotV l)) :
    Calls Tryz.prog 36 #[.map (some b)] w fun e w' => e = .returned (.bool (wholeB l)) ∧ Fr (fun _ => False) w w' := by
  have KP : Hid (∀ W, Fr (fun _ => False) w W → Calls Tryz.prog 65 #[.map (some b), .string ⟨#[58, 112, 114, 111, 116, 111, 99, 111, 108]⟩] W fun e w' => e = .returned (.bool (hasO l sProto)) ∧ Fr (fun _ => False) W w') := fun W f => by
    have h1 := has_in b n l ⟨#[58, 112, 114, 111, 116, 111, 99, 111, 108]⟩ W (hm.fr f id) (by decide)
    rw [got_has (show pseudoB (tx ⟨#[58, 112, 114, 111, 116, 111, 99, 111, 108]⟩) = true by decide)] at h1
    exact h1
  have KA : Hid (∀ W, Fr (fun _ => False) w W → Calls Tryz.prog 65 #[.map (some b), .string ⟨#[58, 97, 117, 116, 104, 111, 114, 105, 116, 121]⟩] W fun e w' => e = .returned (.bool (hasO l sAuth)) ∧ Fr (fun _ => False) W w') := fun W f => by
    have h1 := has_in b n l ⟨#[58, 97, 117, 116, 104, 111, 114, 105, 116, 121]⟩ W (hm.fr f id) (by decide)
    rw [got_has (show pseudoB (tx ⟨#[58, 97, 117, 116, 104, 111, 114, 105, 116, 121]⟩) = true by decide)] at h1
    exact h1
  have KS : Hid (∀ W, Fr (fun _ => False) w W → Calls Tryz.prog 65 #[.map (some b), .string ⟨#[58, 115, 99, 104, 101, 109, 101]⟩] W fun e w' => e = .returned (.bool (hasO l sScheme)) ∧ Fr (fun _ => False) W w') := fun W f => by
    have h1 := has_in b n l ⟨#[58, 115, 99, 104, 101, 109, 101]⟩ W (hm.fr f id) (by decide)
    rw [got_has (show pseudoB (tx ⟨#[58, 115, 99, 104, 101, 109, 101]⟩) = true by decide)] at h1
    exact h1
  have KQ : Hid (∀ W, Fr (fun _ => False) w W → Calls Tryz.prog 65 #[.map (some b), .string ⟨#[58, 112, 97, 116, 104]⟩] W fun e w' => e = .returned (.bool (hasO l sPath)) ∧ Fr (fun _ => False) W w') := fun W f => by
    have h1 := has_in b n l ⟨#[58, 112, 97, 116, 104]⟩ W (hm.fr f id) (by decide)
    rw [got_has (show pseudoB (tx ⟨#[58, 112, 97, 116, 104]⟩) = true by decide)] at h1
    exact h1
  have FM : Hid (∀ W, Fr (fun _ => False) w W → Calls Tryz.prog 67 #[.map (some b), .string ⟨#[58, 109, 101, 116, 104, 111, 100]⟩] W fun e w' => e = .returned (.bool (!(valO l sMethod).isEmpty)) ∧ Fr (fun _ => False) W w') := fun W f => filled_in b n l ⟨#[58, 109, 101, 116, 104, 111, 100]⟩ W (hm.fr f id) (by decide) (by decide)
  have FS : Hid (∀ W, Fr (fun _ => False) w W → Calls Tryz.prog 67 #[.map (some b), .string ⟨#[58, 115, 99, 104, 101, 109, 101]⟩] W fun e w' => e = .returned (.bool (!(valO l sScheme).isEmpty)) ∧ Fr (fun _ => False) W w') := fun W f => filled_in b n l ⟨#[58, 115, 99, 104, 101, 109, 101]⟩ W (hm.fr f id) (by decide) (by decide)
  have FP : Hid (∀ W, Fr (fun _ => False) w W → Calls Tryz.prog 67 #[.map (some b), .string ⟨#[58, 112, 97, 116, 104]⟩] W fun e w' => e = .returned (.bool (!(valO l sPath).isEmpty)) ∧ Fr (fun _ => False) W w') := fun W f => filled_in b n l ⟨#[58, 112, 97, 116, 104]⟩ W (hm.fr f id) (by decide) (by decide)
  obtain ⟨h, hv, hval⟩ := got_val (l := l) (k := sMethod) (by decide)
  obtain ⟨hn, hvv, hss⟩ := h
  dsimp only at hval
  have hc : (hvv.toList == [67, 79, 78, 78, 69, 67, 84]) = (valO l sMethod == sConnect) := by rw [tx_toList, hval]; rfl
  have hfd := field_val hn hvv hss
  have hz : (⟨#[58, 109, 101, 116, 104, 111, 100]⟩ : ByteArray).size ≤ maxLen := by unfold maxLen; decide
  rw [whole_eq l]
  generalize (valO l sMethod).isEmpty = me at FM ⊢
  generalize (valO l sMethod == sConnect) = cn at hc ⊢
  generalize hasO l sProto = pr at KP ⊢
  generalize hasO l sAuth = au at KA ⊢
  generalize hasO l sScheme = sc at KS ⊢
  generalize hasO l sPath = pa at KQ ⊢
  generalize (valO l sScheme).isEmpty = fs at FS ⊢
  generalize (valO l sPath).isEmpty = fp at FP ⊢
  clear hval
  cases me with
  | true =>
    have hV : wholeV true cn pr au sc pa fs fp = false := by cases cn <;> cases pr <;> cases au <;> cases sc <;> cases pa <;> cases fs <;> cases fp <;> rfl
    rw [hV]
    go_enter Tryz.func36, Tryz.ntmps36
    go_wp2_with (refine wpList_slook rfl (.tmp 5) (.const (.string ⟨#[58, 109, 101, 116, 104, 111, 100]⟩)) 63 rfl 35 Tryz.underlying63 (hdrV zeroHd) zero_hdr b n (gotV l) rfl hm ⟨#[58, 109, 101, 116, 104, 111, 100]⟩ rfl hz _ hv ?_; unfold hdrV)
    refine (KP.out _ (Fr.refl _ _)).mono ?_
    rintro e w1 ⟨rfl, g1⟩
    go_wp2_with (fail)
    refine (FM.out _ g1).mono ?_
    rintro e w2 ⟨rfl, g2⟩
    have f2 := g1.trans g2
    go_wp2_with (fail)
    go_ret
    exact ⟨rfl, f2⟩
  | false =>
    cases cn with
    | true =>
      cases pr with
      | false =>
        cases au with
        | false =>
          have hV : wholeV false true false false sc pa fs fp = false := by cases sc <;> cases pa <;> cases fs <;> cases fp <;> rfl
          rw [hV]
          go_enter Tryz.func36, Tryz.ntmps36
          go_wp2_with (refine wpList_slook rfl (.tmp 5) (.const (.string ⟨#[58, 109, 101, 116, 104, 111, 100]⟩)) 63 rfl 35 Tryz.underlying63 (hdrV zeroHd) zero_hdr b n (gotV l) rfl hm ⟨#[58, 109, 101, 116, 104, 111, 100]⟩ rfl hz _ hv ?_; unfold hdrV)
          refine (KP.out _ (Fr.refl _ _)).mono ?_
          rintro e w1 ⟨rfl, g1⟩
          go_wp2_with (fail)
          refine (FM.out _ g1).mono ?_
          rintro e w2 ⟨rfl, g2⟩
          have f2 := g1.trans g2
          go_wp2_with (fail)
          refine (KA.out _ f2).mono ?_
          rintro e w3 ⟨rfl, g3⟩
          have f3 := f2.trans g3
          go_wp2_with (fail)
          go_ret
          exact ⟨rfl, f3⟩
        | true =>
          cases sc with
          | true =>
            have hV : wholeV false true false true true pa fs fp = false := by cases pa <;> cases fs <;> cases fp <;> rfl
            rw [hV]
            go_enter Tryz.func36, Tryz.ntmps36
            go_wp2_with (refine wpList_slook rfl (.tmp 5) (.const (.string ⟨#[58, 109, 101, 116, 104, 111, 100]⟩)) 63 rfl 35 Tryz.underlying63 (hdrV zeroHd) zero_hdr b n (gotV l) rfl hm ⟨#[58, 109, 101, 116, 104, 111, 100]⟩ rfl hz _ hv ?_; unfold hdrV)
            refine (KP.out _ (Fr.refl _ _)).mono ?_
            rintro e w1 ⟨rfl, g1⟩
            go_wp2_with (fail)
            refine (FM.out _ g1).mono ?_
            rintro e w2 ⟨rfl, g2⟩
            have f2 := g1.trans g2
            go_wp2_with (fail)
            refine (KA.out _ f2).mono ?_
            rintro e w3 ⟨rfl, g3⟩
            have f3 := f2.trans g3
            go_wp2_with (fail)
            refine (KS.out _ f3).mono ?_
            rintro e w4 ⟨rfl, g4⟩
            have f4 := f3.trans g4
            go_wp2_with (fail)
            go_ret
            exact ⟨rfl, f4⟩
          | false =>
            cases pa with
            | true =>
              have hV : wholeV false true false true false true fs fp = false := by cases fs <;> cases fp <;> rfl
              rw [hV]
              go_enter Tryz.func36, Tryz.ntmps36
              go_wp2_with (refine wpList_slook rfl (.tmp 5) (.const (.string ⟨#[58, 109, 101, 116, 104, 111, 100]⟩)) 63 rfl 35 Tryz.underlying63 (hdrV zeroHd) zero_hdr b n (gotV l) rfl hm ⟨#[58, 109, 101, 116, 104, 111, 100]⟩ rfl hz _ hv ?_; unfold hdrV)
              refine (KP.out _ (Fr.refl _ _)).mono ?_
              rintro e w1 ⟨rfl, g1⟩
              go_wp2_with (fail)
              refine (FM.out _ g1).mono ?_
              rintro e w2 ⟨rfl, g2⟩
              have f2 := g1.trans g2
              go_wp2_with (fail)
              refine (KA.out _ f2).mono ?_
              rintro e w3 ⟨rfl, g3⟩
              have f3 := f2.trans g3
              go_wp2_with (fail)
              refine (KS.out _ f3).mono ?_
              rintro e w4 ⟨rfl, g4⟩
              have f4 := f3.trans g4
              go_wp2_with (fail)
              refine (KQ.out _ f4).mono ?_
              rintro e w5 ⟨rfl, g5⟩
              have f5 := f4.trans g5
              go_wp2_with (fail)
              go_ret
              exact ⟨rfl, f5⟩
            | false =>
              have hV : wholeV false true false true false false fs fp = true := by cases fs <;> cases fp <;> rfl
              rw [hV]
              go_enter Tryz.func36, Tryz.ntmps36
              go_wp2_with (refine wpList_slook rfl (.tmp 5) (.const (.string ⟨#[58, 109, 101, 116, 104, 111, 100]⟩)) 63 rfl 35 Tryz.underlying63 (hdrV zeroHd) zero_hdr b n (gotV l) rfl hm ⟨#[58, 109, 101, 116, 104, 111, 100]⟩ rfl hz _ hv ?_; unfold hdrV)
              refine (KP.out _ (Fr.refl _ _)).mono ?_
              rintro e w1 ⟨rfl, g1⟩
              go_wp2_with (fail)
              refine (FM.out _ g1).mono ?_
              rintro e w2 ⟨rfl, g2⟩
              have f2 := g1.trans g2
              go_wp2_with (fail)
              refine (KA.out _ f2).mono ?_
              rintro e w3 ⟨rfl, g3⟩
              have f3 := f2.trans g3
              go_wp2_with (fail)
              refine (KS.out _ f3).mono ?_
              rintro e w4 ⟨rfl, g4⟩
              have f4 := f3.trans g4
              go_wp2_with (fail)
              refine (KQ.out _ f4).mono ?_
              rintro e w5 ⟨rfl, g5⟩
              have f5 := f4.trans g5
              go_wp2_with (fail)
              go_ret
              exact ⟨rfl, f5⟩
      | true =>
        cases au with
        | false =>
          have hV : wholeV false true true false sc pa fs fp = false := by cases sc <;> cases pa <;> cases fs <;> cases fp <;> rfl
          rw [hV]
          go_enter Tryz.func36, Tryz.ntmps36
          go_wp2_with (refine wpList_slook rfl (.tmp 5) (.const (.string ⟨#[58, 109, 101, 116, 104, 111, 100]⟩)) 63 rfl 35 Tryz.underlying63 (hdrV zeroHd) zero_hdr b n (gotV l) rfl hm ⟨#[58, 109, 101, 116, 104, 111, 100]⟩ rfl hz _ hv ?_; unfold hdrV)
          refine (KP.out _ (Fr.refl _ _)).mono ?_
          rintro e w1 ⟨rfl, g1⟩
          go_wp2_with (fail)
          refine (FM.out _ g1).mono ?_
          rintro e w2 ⟨rfl, g2⟩
          have f2 := g1.trans g2
          go_wp2_with (fail)
          refine (KA.out _ f2).mono ?_
          rintro e w3 ⟨rfl, g3⟩
          have f3 := f2.trans g3
          go_wp2_with (fail)
          go_ret
          exact ⟨rfl, f3⟩
        | true =>
          cases fs with
          | true =>
            have hV : wholeV false true true true sc pa true fp = false := by cases sc <;> cases pa <;> cases fp <;> rfl
            rw [hV]
            go_enter Tryz.func36, Tryz.ntmps36
            go_wp2_with (refine wpList_slook rfl (.tmp 5) (.const (.string ⟨#[58, 109, 101, 116, 104, 111, 100]⟩)) 63 rfl 35 Tryz.underlying63 (hdrV zeroHd) zero_hdr b n (gotV l) rfl hm ⟨#[58, 109, 101, 116, 104, 111, 100]⟩ rfl hz _ hv ?_; unfold hdrV)
            refine (KP.out _ (Fr.refl _ _)).mono ?_
            rintro e w1 ⟨rfl, g1⟩
            go_wp2_with (fail)
            refine (FM.out _ g1).mono ?_
            rintro e w2 ⟨rfl, g2⟩
            have f2 := g1.trans g2
            go_wp2_with (fail)
            refine (KA.out _ f2).mono ?_
            rintro e w3 ⟨rfl, g3⟩
            have f3 := f2.trans g3
            go_wp2_with (fail)
            refine (FS.out _ f3).mono ?_
            rintro e w4 ⟨rfl, g4⟩
            have f4 := f3.trans g4
            go_wp2_with (fail)
            go_ret
            exact ⟨rfl, f4⟩
          | false =>
            cases fp with
            | true =>
              have hV : wholeV false true true true sc pa false true = false := by cases sc <;> cases pa <;> rfl
              rw [hV]
              go_enter Tryz.func36, Tryz.ntmps36
              go_wp2_with (refine wpList_slook rfl (.tmp 5) (.const (.string ⟨#[58, 109, 101, 116, 104, 111, 100]⟩)) 63 rfl 35 Tryz.underlying63 (hdrV zeroHd) zero_hdr b n (gotV l) rfl hm ⟨#[58, 109, 101, 116, 104, 111, 100]⟩ rfl hz _ hv ?_; unfold hdrV)
              refine (KP.out _ (Fr.refl _ _)).mono ?_
              rintro e w1 ⟨rfl, g1⟩
              go_wp2_with (fail)
              refine (FM.out _ g1).mono ?_
              rintro e w2 ⟨rfl, g2⟩
              have f2 := g1.trans g2
              go_wp2_with (fail)
              refine (KA.out _ f2).mono ?_
              rintro e w3 ⟨rfl, g3⟩
              have f3 := f2.trans g3
              go_wp2_with (fail)
              refine (FS.out _ f3).mono ?_
              rintro e w4 ⟨rfl, g4⟩
              have f4 := f3.trans g4
              go_wp2_with (fail)
              refine (FP.out _ f4).mono ?_
              rintro e w5 ⟨rfl, g5⟩
              have f5 := f4.trans g5
              go_wp2_with (fail)
              go_ret
              exact ⟨rfl, f5⟩
            | false =>
              have hV : wholeV false true true true sc pa false false = true := by cases sc <;> cases pa <;> rfl
              rw [hV]
              go_enter Tryz.func36, Tryz.ntmps36
              go_wp2_with (refine wpList_slook rfl (.tmp 5) (.const (.string ⟨#[58, 109, 101, 116, 104, 111, 100]⟩)) 63 rfl 35 Tryz.underlying63 (hdrV zeroHd) zero_hdr b n (gotV l) rfl hm ⟨#[58, 109, 101, 116, 104, 111, 100]⟩ rfl hz _ hv ?_; unfold hdrV)
              refine (KP.out _ (Fr.refl _ _)).mono ?_
              rintro e w1 ⟨rfl, g1⟩
              go_wp2_with (fail)
              refine (FM.out _ g1).mono ?_
              rintro e w2 ⟨rfl, g2⟩
              have f2 := g1.trans g2
              go_wp2_with (fail)
              refine (KA.out _ f2).mono ?_
              rintro e w3 ⟨rfl, g3⟩
              have f3 := f2.trans g3
              go_wp2_with (fail)
              refine (FS.out _ f3).mono ?_
              rintro e w4 ⟨rfl, g4⟩
              have f4 := f3.trans g4
              go_wp2_with (fail)
              refine (FP.out _ f4).mono ?_
              rintro e w5 ⟨rfl, g5⟩
              have f5 := f4.trans g5
              go_wp2_with (fail)
              go_ret
              exact ⟨rfl, f5⟩
    | false =>
      cases pr with
      | true =>
        have hV : wholeV false false true au sc pa fs fp = false := by cases au <;> cases sc <;> cases pa <;> cases fs <;> cases fp <;> rfl
        rw [hV]
        go_enter Tryz.func36, Tryz.ntmps36
        go_wp2_with (refine wpList_slook rfl (.tmp 5) (.const (.string ⟨#[58, 109, 101, 116, 104, 111, 100]⟩)) 63 rfl 35 Tryz.underlying63 (hdrV zeroHd) zero_hdr b n (gotV l) rfl hm ⟨#[58, 109, 101, 116, 104, 111, 100]⟩ rfl hz _ hv ?_; unfold hdrV)
        refine (KP.out _ (Fr.refl _ _)).mono ?_
        rintro e w1 ⟨rfl, g1⟩
        go_wp2_with (fail)
        refine (FM.out _ g1).mono ?_
        rintro e w2 ⟨rfl, g2⟩
        have f2 := g1.trans g2
        go_wp2_with (fail)
        go_ret
        exact ⟨rfl, f2⟩
      | false =>
        cases fs with
        | true =>
          have hV : wholeV false false false au sc pa true fp = false := by cases au <;> cases sc <;> cases pa <;> cases fp <;> rfl
          rw [hV]
          go_enter Tryz.func36, Tryz.ntmps36
          go_wp2_with (refine wpList_slook rfl (.tmp 5) (.const (.string ⟨#[58, 109, 101, 116, 104, 111, 100]⟩)) 63 rfl 35 Tryz.underlying63 (hdrV zeroHd) zero_hdr b n (gotV l) rfl hm ⟨#[58, 109, 101, 116, 104, 111, 100]⟩ rfl hz _ hv ?_; unfold hdrV)
          refine (KP.out _ (Fr.refl _ _)).mono ?_
          rintro e w1 ⟨rfl, g1⟩
          go_wp2_with (fail)
          refine (FM.out _ g1).mono ?_
          rintro e w2 ⟨rfl, g2⟩
          have f2 := g1.trans g2
          go_wp2_with (fail)
          refine (FS.out _ f2).mono ?_
          rintro e w3 ⟨rfl, g3⟩
          have f3 := f2.trans g3
          go_wp2_with (fail)
          go_ret
          exact ⟨rfl, f3⟩
        | false =>
          cases fp with
          | true =>
            have hV : wholeV false false false au sc pa false true = false := by cases au <;> cases sc <;> cases pa <;> rfl
            rw [hV]
            go_enter Tryz.func36, Tryz.ntmps36
            go_wp2_with (refine wpList_slook rfl (.tmp 5) (.const (.string ⟨#[58, 109, 101, 116, 104, 111, 100]⟩)) 63 rfl 35 Tryz.underlying63 (hdrV zeroHd) zero_hdr b n (gotV l) rfl hm ⟨#[58, 109, 101, 116, 104, 111, 100]⟩ rfl hz _ hv ?_; unfold hdrV)
            refine (KP.out _ (Fr.refl _ _)).mono ?_
            rintro e w1 ⟨rfl, g1⟩
            go_wp2_with (fail)
            refine (FM.out _ g1).mono ?_
            rintro e w2 ⟨rfl, g2⟩
            have f2 := g1.trans g2
            go_wp2_with (fail)
            refine (FS.out _ f2).mono ?_
            rintro e w3 ⟨rfl, g3⟩
            have f3 := f2.trans g3
            go_wp2_with (fail)
            refine (FP.out _ f3).mono ?_
            rintro e w4 ⟨rfl, g4⟩
            have f4 := f3.trans g4
            go_wp2_with (fail)
            go_ret
            exact ⟨rfl, f4⟩
          | false =>
            have hV : wholeV false false false au sc pa false false = true := by cases au <;> cases sc <;> cases pa <;> rfl
            rw [hV]
            go_enter Tryz.func36, Tryz.ntmps36
            go_wp2_with (refine wpList_slook rfl (.tmp 5) (.const (.string ⟨#[58, 109, 101, 116, 104, 111, 100]⟩)) 63 rfl 35 Tryz.underlying63 (hdrV zeroHd) zero_hdr b n (gotV l) rfl hm ⟨#[58, 109, 101, 116, 104, 111, 100]⟩ rfl hz _ hv ?_; unfold hdrV)
            refine (KP.out _ (Fr.refl _ _)).mono ?_
            rintro e w1 ⟨rfl, g1⟩
            go_wp2_with (fail)
            refine (FM.out _ g1).mono ?_
            rintro e w2 ⟨rfl, g2⟩
            have f2 := g1.trans g2
            go_wp2_with (fail)
            refine (FS.out _ f2).mono ?_
            rintro e w3 ⟨rfl, g3⟩
            have f3 := f2.trans g3
            go_wp2_with (fail)
            refine (FP.out _ f3).mono ?_
            rintro e w4 ⟨rfl, g4⟩
            have f4 := f3.trans g4
            go_wp2_with (fail)
            go_ret
            exact ⟨rfl, f4⟩
/-- What status answers. -/
def statV (l : List Hd) : Value := if statusB (valO l sStatus) then .tuple #[.int .i64 ((numL (valO l sStatus) : Nat) : Int), .bool true] else .tuple #[.int .i64 0, .bool false]
theorem Status_in (b n : Nat) (l : List Hd) (w : World) (hm : SMap w b n (gotV l)) (hE : ErrAt w) :
    Calls Tryz.prog 52 #[.map (some b)] w fun e w' => e = .returned (statV l) ∧ Fr (fun _ => False) w w' := by
  obtain ⟨h, hv, hval⟩ := got_val (l := l) (k := sStatus) (by decide)
  obtain ⟨hn, hvv, hss⟩ := h
  dsimp only at hval
  have hfd := field_val hn hvv hss
  have hz : (⟨#[58, 115, 116, 97, 116, 117, 115]⟩ : ByteArray).size ≤ maxLen := by unfold maxLen; decide
  have K : Calls Tryz.prog 68 #[.string hvv, .int .i64 3] w fun e w' => e = .returned (numV 3 (tx hvv)) ∧ Fr (fun _ => False) w w' := number_in hvv 3 w (by omega) hE
  rw [hval] at K
  unfold statV statusB
  unfold numV at K
  obtain ⟨d, hd⟩ : ∃ d, digsB 3 (valO l sStatus) = d := ⟨_, rfl⟩
  rw [hd] at K ⊢
  have hbig : numL (valO l sStatus) < 1000 ∨ d = false := by
    cases d with
    | false => exact .inr rfl
    | true =>
      left
      unfold digsB at hd
      simp only [Bool.and_eq_true, decide_eq_true_eq] at hd
      have h1 := num_lt hd.1.1 (valO l sStatus).length
      rw [List.take_length] at h1
      have h2 : 10 ^ (valO l sStatus).length ≤ 10 ^ 3 := Nat.pow_le_pow_right (by omega) hd.2
      omega
  generalize numL (valO l sStatus) = N at K hbig ⊢
  clear hval hd hE
  cases d with
  | false =>
    rw [if_neg (by simp)]
    rw [if_neg (by simp)] at K
    clear hbig
    go_enter Tryz.func52, Tryz.ntmps52
    go_wp2_with (refine wpList_slook rfl (.tmp 7) (.const (.string ⟨#[58, 115, 116, 97, 116, 117, 115]⟩)) 63 rfl 35 Tryz.underlying63 (hdrV zeroHd) zero_hdr b n (gotV l) rfl hm ⟨#[58, 115, 116, 97, 116, 117, 115]⟩ rfl hz _ hv ?_; unfold hdrV)
    refine K.mono ?_
    rintro e w1 ⟨rfl, f1⟩
    go_wp2_with (fail)
    go_ret2
    exact ⟨rfl, f1⟩
  | true =>
    rw [if_pos rfl] at K
    have hlt : N < 1000 := by rcases hbig with h | h
                              · exact h
                              · cases h
    clear hbig
    by_cases h1 : N < 100
    · rw [if_neg (by rw [decide_eq_false (by omega : ¬ 100 ≤ N)]; simp)]
      go_enter Tryz.func52, Tryz.ntmps52
      go_wp2_with (refine wpList_slook rfl (.tmp 7) (.const (.string ⟨#[58, 115, 116, 97, 116, 117, 115]⟩)) 63 rfl 35 Tryz.underlying63 (hdrV zeroHd) zero_hdr b n (gotV l) rfl hm ⟨#[58, 115, 116, 97, 116, 117, 115]⟩ rfl hz _ hv ?_; unfold hdrV)
      refine K.mono ?_
      rintro e w1 ⟨rfl, f1⟩
      go_wp2_with (fail)
      go_ret2
      exact ⟨rfl, f1⟩
    · by_cases h2 : 599 < N
      · rw [if_neg (by rw [decide_eq_false (by omega : ¬ N ≤ 599)]; simp)]
        go_enter Tryz.func52, Tryz.ntmps52
        go_wp2_with (refine wpList_slook rfl (.tmp 7) (.const (.string ⟨#[58, 115, 116, 97, 116, 117, 115]⟩)) 63 rfl 35 Tryz.underlying63 (hdrV zeroHd) zero_hdr b n (gotV l) rfl hm ⟨#[58, 115, 116, 97, 116, 117, 115]⟩ rfl hz _ hv ?_; unfold hdrV)
        refine K.mono ?_
        rintro e w1 ⟨rfl, f1⟩
        go_wp2_with (fail)
        go_ret2
        exact ⟨rfl, f1⟩
      · rw [if_pos (by rw [decide_eq_true (by omega : 100 ≤ N), decide_eq_true (by omega : N ≤ 599)]; rfl)]
        go_enter Tryz.func52, Tryz.ntmps52
        go_wp2_with (refine wpList_slook rfl (.tmp 7) (.const (.string ⟨#[58, 115, 116, 97, 116, 117, 115]⟩)) 63 rfl 35 Tryz.underlying63 (hdrV zeroHd) zero_hdr b n (gotV l) rfl hm ⟨#[58, 115, 116, 97, 116, 117, 115]⟩ rfl hz _ hv ?_; unfold hdrV)
        refine K.mono ?_
        rintro e w1 ⟨rfl, f1⟩
        go_wp2_with (fail)
        go_ret2
        exact ⟨rfl, f1⟩
end Go.Proofs.YtplggcfoadjffaaGreatDoor
