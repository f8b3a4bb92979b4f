/- Requests and responses: the document's. -/
import Derived.Test.YtplggcfoadjffaaGreatDoorOr
import Derived.Test.YtplggcfoadjffaaGreatDoorOo
import Derived.Test.YtplggcfoadjffaaGreatDoorOq
namespace Go.Proofs.YtplggcfoadjffaaGreatDoor
open Go.RowKit Go.Maps
set_option linter.unusedVariables false
set_option maxRecDepth 100000
set_option maxHeartbeats 8000000

theorem find_both (l : List Hd) (n : List UInt8) : ∃ v : ByteArray, findV l n = .tuple #[.string v, .bool (hasO l n)] ∧ tx v = valO l n := by
  unfold findV hasO valO
  cases findL l n with
  | none => exact ⟨⟨#[]⟩, rfl, rfl⟩
  | some v => exact ⟨v, rfl, rfl⟩
theorem there_in (q : Option Addr) (c : Nat) (l : List Hd) (s : ByteArray) (w : World) (hl : HL w q c l) :
    Calls Tryz.prog 58 #[.slice q l.length c, .string s] w fun e w' => e = .returned (.bool (hasO l (tx s))) ∧ w = w' := by
  have K := rFind_in q c l s w hl
  obtain ⟨v, hv, _⟩ := find_both l (tx s)
  rw [hv] at K
  generalize hasO l (tx s) = b at K ⊢
  clear hv
  go_enter Tryz.func58, Tryz.ntmps58
  go_wp2_with (fail)
  refine K.mono ?_
  rintro e w1 ⟨rfl, rfl⟩
  go_wp2_with (fail)
  go_ret
  exact ⟨rfl, rfl⟩
theorem val_none {l : List Hd} {n : List UInt8} (h : hasO l n = false) : valO l n = [] := by
  unfold hasO at h
  unfold valO
  cases hf : findL l n with
  | none => rfl
  | some v => rw [hf] at h; cases h
theorem full_in (q : Option Addr) (c : Nat) (l : List Hd) (s : ByteArray) (w : World) (hl : HL w q c l) :
    Calls Tryz.prog 59 #[.slice q l.length c, .string s] w fun e w' => e = .returned (.bool (!(valO l (tx s)).isEmpty)) ∧ w = w' := by
  have K := rFind_in q c l s w hl
  obtain ⟨v, hv, hval⟩ := find_both l (tx s)
  rw [hv] at K
  have he : v.toList.isEmpty = (valO l (tx s)).isEmpty := by rw [tx_toList, hval]
  have hnone : hasO l (tx s) = false → (valO l (tx s)).isEmpty = true := fun h => by rw [val_none h]; rfl
  generalize hasO l (tx s) = b at K hnone
  generalize (valO l (tx s)).isEmpty = t at he hnone ⊢
  clear hv hval
  cases b with
  | false =>
    have ht : t = true := hnone rfl
    clear hnone
    subst ht
    go_enter Tryz.func59, Tryz.ntmps59
    go_wp2_with (fail)
    refine K.mono ?_
    rintro e w1 ⟨rfl, rfl⟩
    go_wp2_with (fail)
    go_ret
    exact ⟨rfl, rfl⟩
  | true =>
    clear hnone
    cases t with
    | true =>
      go_enter Tryz.func59, Tryz.ntmps59
      go_wp2_with (fail)
      refine K.mono ?_
      rintro e w1 ⟨rfl, rfl⟩
      go_wp2_with (fail)
      go_ret
      exact ⟨rfl, rfl⟩
    | false =>
      go_enter Tryz.func59, Tryz.ntmps59
      go_wp2_with (fail)
      refine K.mono ?_
      rintro e w1 ⟨rfl, rfl⟩
      go_wp2_with (fail)
      go_ret
      exact ⟨rfl, rfl⟩
theorem whole_in (q : Option Addr) (c : Nat) (l : List Hd) (w : World) (hl : HL w q c l) :
    Calls Tryz.prog 31 #[.slice q l.length c] w fun e w' => e = .returned (.bool (wholeB l)) ∧ w = w' := by
  have KP : Hid (Calls Tryz.prog 58 #[.slice q l.length c, .string ⟨#[58, 112, 114, 111, 116, 111, 99, 111, 108]⟩] w fun e w' => e = .returned (.bool (hasO l sProto)) ∧ w = w') := there_in q c l ⟨#[58, 112, 114, 111, 116, 111, 99, 111, 108]⟩ w hl
  have KA : Hid (Calls Tryz.prog 58 #[.slice q l.length c, .string ⟨#[58, 97, 117, 116, 104, 111, 114, 105, 116, 121]⟩] w fun e w' => e = .returned (.bool (hasO l sAuth)) ∧ w = w') := there_in q c l ⟨#[58, 97, 117, 116, 104, 111, 114, 105, 116, 121]⟩ w hl
  have KS : Hid (Calls Tryz.prog 58 #[.slice q l.length c, .string ⟨#[58, 115, 99, 104, 101, 109, 101]⟩] w fun e w' => e = .returned (.bool (hasO l sScheme)) ∧ w = w') := there_in q c l ⟨#[58, 115, 99, 104, 101, 109, 101]⟩ w hl
  have KQ : Hid (Calls Tryz.prog 58 #[.slice q l.length c, .string ⟨#[58, 112, 97, 116, 104]⟩] w fun e w' => e = .returned (.bool (hasO l sPath)) ∧ w = w') := there_in q c l ⟨#[58, 112, 97, 116, 104]⟩ w hl
  have FS : Hid (Calls Tryz.prog 59 #[.slice q l.length c, .string ⟨#[58, 115, 99, 104, 101, 109, 101]⟩] w fun e w' => e = .returned (.bool (!(valO l sScheme).isEmpty)) ∧ w = w') := full_in q c l ⟨#[58, 115, 99, 104, 101, 109, 101]⟩ w hl
  have FP : Hid (Calls Tryz.prog 59 #[.slice q l.length c, .string ⟨#[58, 112, 97, 116, 104]⟩] w fun e w' => e = .returned (.bool (!(valO l sPath).isEmpty)) ∧ w = w') := full_in q c l ⟨#[58, 112, 97, 116, 104]⟩ w hl
  have KF : Calls Tryz.prog 33 #[.slice q l.length c, .string ⟨#[58, 109, 101, 116, 104, 111, 100]⟩] w fun e w' => e = .returned (findV l sMethod) ∧ w = w' := rFind_in q c l ⟨#[58, 109, 101, 116, 104, 111, 100]⟩ w hl
  obtain ⟨v, hv, hval⟩ := find_both l sMethod
  rw [hv] at KF
  have hem : v.toList.isEmpty = (valO l sMethod).isEmpty := by rw [tx_toList, hval]
  have hc : (v.toList == [67, 79, 78, 78, 69, 67, 84]) = (valO l sMethod == sConnect) := by rw [tx_toList, hval]; rfl
  have hc2 : (v.toList != [67, 79, 78, 78, 69, 67, 84]) = !(valO l sMethod == sConnect) := by unfold bne; rw [hc]
  rw [whole_eq l]
  generalize hasO l sMethod = mb at KF
  generalize (valO l sMethod).isEmpty = me at hem ⊢
  generalize (valO l sMethod == sConnect) = cn at hc hc2 ⊢
  generalize hasO l sProto = pr at KP ⊢
  generalize hasO l sAuth = au at KA ⊢
  generalize hasO l sScheme = sc at KS ⊢
  generalize hasO l sPath = pa at KQ ⊢
  generalize (valO l sScheme).isEmpty = fs at FS ⊢
  generalize (valO l sPath).isEmpty = fp at FP ⊢
  generalize l.length = len at KP KA KS KQ FS FP KF ⊢
  clear hval hv hl
  cases me with
  | true =>
    have hV : wholeV true cn pr au sc pa fs fp = false := by cases cn <;> cases pr <;> cases au <;> cases sc <;> cases pa <;> cases fs <;> cases fp <;> rfl
    rw [hV]
    go_enter Tryz.func31, Tryz.ntmps31
    go_wp2_with (fail)
    refine KF.mono ?_
    rintro e w1 ⟨rfl, rfl⟩
    go_wp2_with (fail)
    go_ret
    exact ⟨rfl, rfl⟩
  | false =>
    cases cn with
    | true =>
      cases pr with
      | false =>
        cases sc with
        | true =>
          have hV : wholeV false true false au true pa fs fp = false := by cases au <;> cases pa <;> cases fs <;> cases fp <;> rfl
          rw [hV]
          go_enter Tryz.func31, Tryz.ntmps31
          go_wp2_with (fail)
          refine KF.mono ?_
          rintro e w1 ⟨rfl, rfl⟩
          go_wp2_with (fail)
          refine (KP.out).mono ?_
          rintro e w1 ⟨rfl, rfl⟩
          go_wp2_with (fail)
          refine (KS.out).mono ?_
          rintro e w1 ⟨rfl, rfl⟩
          go_wp2_with (fail)
          go_ret
          exact ⟨rfl, rfl⟩
        | false =>
          cases pa with
          | true =>
            have hV : wholeV false true false au false true fs fp = false := by cases au <;> cases fs <;> cases fp <;> rfl
            rw [hV]
            go_enter Tryz.func31, Tryz.ntmps31
            go_wp2_with (fail)
            refine KF.mono ?_
            rintro e w1 ⟨rfl, rfl⟩
            go_wp2_with (fail)
            refine (KP.out).mono ?_
            rintro e w1 ⟨rfl, rfl⟩
            go_wp2_with (fail)
            refine (KS.out).mono ?_
            rintro e w1 ⟨rfl, rfl⟩
            go_wp2_with (fail)
            refine (KQ.out).mono ?_
            rintro e w1 ⟨rfl, rfl⟩
            go_wp2_with (fail)
            go_ret
            exact ⟨rfl, rfl⟩
          | false =>
            cases au with
            | true =>
              have hV : wholeV false true false true false false fs fp = true := by cases fs <;> cases fp <;> rfl
              rw [hV]
              go_enter Tryz.func31, Tryz.ntmps31
              go_wp2_with (fail)
              refine KF.mono ?_
              rintro e w1 ⟨rfl, rfl⟩
              go_wp2_with (fail)
              refine (KP.out).mono ?_
              rintro e w1 ⟨rfl, rfl⟩
              go_wp2_with (fail)
              refine (KS.out).mono ?_
              rintro e w1 ⟨rfl, rfl⟩
              go_wp2_with (fail)
              refine (KQ.out).mono ?_
              rintro e w1 ⟨rfl, rfl⟩
              go_wp2_with (fail)
              refine (KA.out).mono ?_
              rintro e w1 ⟨rfl, rfl⟩
              go_wp2_with (fail)
              go_ret
              exact ⟨rfl, rfl⟩
            | false =>
              have hV : wholeV false true false false false false fs fp = false := by cases fs <;> cases fp <;> rfl
              rw [hV]
              go_enter Tryz.func31, Tryz.ntmps31
              go_wp2_with (fail)
              refine KF.mono ?_
              rintro e w1 ⟨rfl, rfl⟩
              go_wp2_with (fail)
              refine (KP.out).mono ?_
              rintro e w1 ⟨rfl, rfl⟩
              go_wp2_with (fail)
              refine (KS.out).mono ?_
              rintro e w1 ⟨rfl, rfl⟩
              go_wp2_with (fail)
              refine (KQ.out).mono ?_
              rintro e w1 ⟨rfl, rfl⟩
              go_wp2_with (fail)
              refine (KA.out).mono ?_
              rintro e w1 ⟨rfl, rfl⟩
              go_wp2_with (fail)
              go_ret
              exact ⟨rfl, rfl⟩
      | true =>
        cases au with
        | false =>
          have hV : wholeV false true true false sc pa fs fp = false := by cases sc <;> cases pa <;> cases fs <;> cases fp <;> rfl
          rw [hV]
          go_enter Tryz.func31, Tryz.ntmps31
          go_wp2_with (fail)
          refine KF.mono ?_
          rintro e w1 ⟨rfl, rfl⟩
          go_wp2_with (fail)
          refine (KP.out).mono ?_
          rintro e w1 ⟨rfl, rfl⟩
          go_wp2_with (fail)
          refine (KP.out).mono ?_
          rintro e w1 ⟨rfl, rfl⟩
          go_wp2_with (fail)
          refine (KA.out).mono ?_
          rintro e w1 ⟨rfl, rfl⟩
          go_wp2_with (fail)
          go_ret
          exact ⟨rfl, rfl⟩
        | true =>
          cases fs with
          | true =>
            have hV : wholeV false true true true sc pa true fp = false := by cases sc <;> cases pa <;> cases fp <;> rfl
            rw [hV]
            go_enter Tryz.func31, Tryz.ntmps31
            go_wp2_with (fail)
            refine KF.mono ?_
            rintro e w1 ⟨rfl, rfl⟩
            go_wp2_with (fail)
            refine (KP.out).mono ?_
            rintro e w1 ⟨rfl, rfl⟩
            go_wp2_with (fail)
            refine (KP.out).mono ?_
            rintro e w1 ⟨rfl, rfl⟩
            go_wp2_with (fail)
            refine (KA.out).mono ?_
            rintro e w1 ⟨rfl, rfl⟩
            go_wp2_with (fail)
            refine (FS.out).mono ?_
            rintro e w1 ⟨rfl, rfl⟩
            go_wp2_with (fail)
            go_ret
            exact ⟨rfl, rfl⟩
          | false =>
            cases fp with
            | true =>
              have hV : wholeV false true true true sc pa false true = false := by cases sc <;> cases pa <;> rfl
              rw [hV]
              go_enter Tryz.func31, Tryz.ntmps31
              go_wp2_with (fail)
              refine KF.mono ?_
              rintro e w1 ⟨rfl, rfl⟩
              go_wp2_with (fail)
              refine (KP.out).mono ?_
              rintro e w1 ⟨rfl, rfl⟩
              go_wp2_with (fail)
              refine (KP.out).mono ?_
              rintro e w1 ⟨rfl, rfl⟩
              go_wp2_with (fail)
              refine (KA.out).mono ?_
              rintro e w1 ⟨rfl, rfl⟩
              go_wp2_with (fail)
              refine (FS.out).mono ?_
              rintro e w1 ⟨rfl, rfl⟩
              go_wp2_with (fail)
              refine (FP.out).mono ?_
              rintro e w1 ⟨rfl, rfl⟩
              go_wp2_with (fail)
              go_ret
              exact ⟨rfl, rfl⟩
            | false =>
              have hV : wholeV false true true true sc pa false false = true := by cases sc <;> cases pa <;> rfl
              rw [hV]
              go_enter Tryz.func31, Tryz.ntmps31
              go_wp2_with (fail)
              refine KF.mono ?_
              rintro e w1 ⟨rfl, rfl⟩
              go_wp2_with (fail)
              refine (KP.out).mono ?_
              rintro e w1 ⟨rfl, rfl⟩
              go_wp2_with (fail)
              refine (KP.out).mono ?_
              rintro e w1 ⟨rfl, rfl⟩
              go_wp2_with (fail)
              refine (KA.out).mono ?_
              rintro e w1 ⟨rfl, rfl⟩
              go_wp2_with (fail)
              refine (FS.out).mono ?_
              rintro e w1 ⟨rfl, rfl⟩
              go_wp2_with (fail)
              refine (FP.out).mono ?_
              rintro e w1 ⟨rfl, rfl⟩
              go_wp2_with (fail)
              go_ret
              exact ⟨rfl, rfl⟩
    | false =>
      cases pr with
      | true =>
        have hV : wholeV false false true au sc pa fs fp = false := by cases au <;> cases sc <;> cases pa <;> cases fs <;> cases fp <;> rfl
        rw [hV]
        go_enter Tryz.func31, Tryz.ntmps31
        go_wp2_with (fail)
        refine KF.mono ?_
        rintro e w1 ⟨rfl, rfl⟩
        go_wp2_with (fail)
        refine (KP.out).mono ?_
        rintro e w1 ⟨rfl, rfl⟩
        go_wp2_with (fail)
        go_ret
        exact ⟨rfl, rfl⟩
      | false =>
        cases fs with
        | true =>
          have hV : wholeV false false false au sc pa true fp = false := by cases au <;> cases sc <;> cases pa <;> cases fp <;> rfl
          rw [hV]
          go_enter Tryz.func31, Tryz.ntmps31
          go_wp2_with (fail)
          refine KF.mono ?_
          rintro e w1 ⟨rfl, rfl⟩
          go_wp2_with (fail)
          refine (KP.out).mono ?_
          rintro e w1 ⟨rfl, rfl⟩
          go_wp2_with (fail)
          refine (FS.out).mono ?_
          rintro e w1 ⟨rfl, rfl⟩
          go_wp2_with (fail)
          go_ret
          exact ⟨rfl, rfl⟩
        | false =>
          cases fp with
          | true =>
            have hV : wholeV false false false au sc pa false true = false := by cases au <;> cases sc <;> cases pa <;> rfl
            rw [hV]
            go_enter Tryz.func31, Tryz.ntmps31
            go_wp2_with (fail)
            refine KF.mono ?_
            rintro e w1 ⟨rfl, rfl⟩
            go_wp2_with (fail)
            refine (KP.out).mono ?_
            rintro e w1 ⟨rfl, rfl⟩
            go_wp2_with (fail)
            refine (FS.out).mono ?_
            rintro e w1 ⟨rfl, rfl⟩
            go_wp2_with (fail)
            refine (FP.out).mono ?_
            rintro e w1 ⟨rfl, rfl⟩
            go_wp2_with (fail)
            go_ret
            exact ⟨rfl, rfl⟩
          | false =>
            have hV : wholeV false false false au sc pa false false = true := by cases au <;> cases sc <;> cases pa <;> rfl
            rw [hV]
            go_enter Tryz.func31, Tryz.ntmps31
            go_wp2_with (fail)
            refine KF.mono ?_
            rintro e w1 ⟨rfl, rfl⟩
            go_wp2_with (fail)
            refine (KP.out).mono ?_
            rintro e w1 ⟨rfl, rfl⟩
            go_wp2_with (fail)
            refine (FS.out).mono ?_
            rintro e w1 ⟨rfl, rfl⟩
            go_wp2_with (fail)
            refine (FP.out).mono ?_
            rintro e w1 ⟨rfl, rfl⟩
            go_wp2_with (fail)
            go_ret
            exact ⟨rfl, rfl⟩
theorem rRequest_in (q : Option Addr) (c : Nat) (l : List Hd) (w : World) (hl : HL w q c l) :
    Calls Tryz.prog 13 #[.slice q l.length c] w fun e w' => e = .returned (.int .i64 (requestO l)) ∧ Fr (fun _ => False) w w' := by
  obtain ⟨W0, hW0⟩ : ∃ W0, w.alloc (.cells #[.string ⟨#[58, 109, 101, 116, 104, 111, 100]⟩, .string ⟨#[58, 115, 99, 104, 101, 109, 101]⟩, .string ⟨#[58, 97, 117, 116, 104, 111, 114, 105, 116, 121]⟩, .string ⟨#[58, 112, 97, 116, 104]⟩, .string ⟨#[58, 112, 114, 111, 116, 111, 99, 111, 108]⟩] 9) = W0 := ⟨_, rfl⟩
  have f0 : Fr (fun _ => False) w W0 := by rw [← hW0]; exact (Fr.refl _ _).alloc _
  have hz : StrsAt W0 (some ⟨w.heap.size, 0, none⟩) reqS := by rw [← hW0]; exact strs_new w reqS 9 (by decide)
  have KL : Calls Tryz.prog 30 #[.slice q l.length c, .slice (some ⟨w.heap.size, 0, none⟩) 5 5] W0 fun e w' => e = .returned (.int .i64 (eachO mayR [] l)) ∧ Fr (fun _ => False) W0 w' := each_in q _ c 5 l reqS W0 (hl.fr f0) hz
  have KLn : Hid (∀ W, Fr (fun _ => False) w W → Calls Tryz.prog 32 #[.slice q l.length c] W fun e w' => e = .returned (lengthV l) ∧ W = w') := fun W f => rLength_in q c l W (hl.fr f)
  have KM : Hid (∀ W, Fr (fun _ => False) w W → Calls Tryz.prog 31 #[.slice q l.length c] W fun e w' => e = .returned (.bool (wholeB l)) ∧ W = w') := fun W f => whole_in q c l W (hl.fr f)
  have HR : Hid (requestO l = if eachO mayR [] l = 0 then (if wholeB l then (lengthO l).2.2 else 132) else eachO mayR [] l) := rfl
  unfold lengthV at KLn
  generalize requestO l = V at HR ⊢
  generalize eachO mayR [] l = E at HR KL
  generalize wholeB l = wb at HR KM
  generalize (((lengthO l).1 : Nat) : Int) = ln at KLn
  generalize (lengthO l).2.1 = lb at KLn
  generalize (lengthO l).2.2 = le at HR KLn
  generalize l.length = len at KL KLn KM ⊢
  by_cases hE0 : E = 0
  · subst hE0
    have HR2 : Hid (V = if wb then le else 132) := by have := HR.out; rwa [if_pos rfl] at this
    clear HR
    cases wb with
    | false =>
      have hv : V = 132 := HR2.out
      clear HR2 KLn
      subst hv
      go_enter Tryz.func13, Tryz.ntmps13
      go_wp2_with (fail)
      refine KL.mono ?_
      rintro e w1 ⟨rfl, f1⟩
      go_wp2_with (fail)
      refine (KM.out _ (f0.trans f1)).mono ?_
      rintro e w2 ⟨rfl, rfl⟩
      go_wp2_with (fail)
      go_ret
      exact ⟨rfl, f0.trans f1⟩
    | true =>
      have hv : V = le := HR2.out
      clear HR2
      subst hv
      go_enter Tryz.func13, Tryz.ntmps13
      go_wp2_with (fail)
      refine KL.mono ?_
      rintro e w1 ⟨rfl, f1⟩
      go_wp2_with (fail)
      refine (KM.out _ (f0.trans f1)).mono ?_
      rintro e w2 ⟨rfl, rfl⟩
      go_wp2_with (fail)
      refine (KLn.out _ (f0.trans f1)).mono ?_
      rintro e w3 ⟨rfl, rfl⟩
      go_wp2_with (fail)
      go_ret
      exact ⟨rfl, f0.trans f1⟩
  · have hv : V = E := by have := HR.out; rwa [if_neg hE0] at this
    have hne : (E == 0) = false := beq_eq_false_iff_ne.2 hE0
    have hne2 : (E != 0) = true := by unfold bne; rw [hne]; rfl
    clear HR KLn KM
    subst hv
    go_enter Tryz.func13, Tryz.ntmps13
    go_wp2_with (fail)
    refine KL.mono ?_
    rintro e w1 ⟨rfl, f1⟩
    go_wp2_with (fail)
    go_ret
    exact ⟨rfl, f0.trans f1⟩
end Go.Proofs.YtplggcfoadjffaaGreatDoor
