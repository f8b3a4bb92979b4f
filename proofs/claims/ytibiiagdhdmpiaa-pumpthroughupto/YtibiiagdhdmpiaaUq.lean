/- The walk of PumpThrough. -/
import Derived.Test.YtibiiagdhdmpiaaUp
namespace Go.Proofs.Ytibiiagdhdmpiaa
open Go.RowKit
set_option linter.unusedVariables false
set_option maxRecDepth 100000
set_option maxHeartbeats 8000000

theorem SrcAt.flat {w : World} {sp : Option Addr} {X : List UInt8} (h : SrcAt w sp X) (h0 : 0 < X.length) : ∃ tb to, sp = some ⟨tb, to, none⟩ ∧ ∀ j z, X[j]? = some z → tb < w.heap.size ∧ w.cell? ⟨tb, to + j, none⟩ = some (.int .u8 z.toNat) := by
  obtain ⟨ad, e, hc⟩ := h 0 X[0] (List.getElem?_eq_getElem h0)
  obtain ⟨tb, to, spot⟩ := ad
  have hs : spot = none := by simpa [Addr.add] using World.cell?_spot hc
  subst hs
  refine ⟨tb, to, e, fun j z hj => ?_⟩
  obtain ⟨ad2, e2, hc2⟩ := h j z hj
  rw [e] at e2
  cases e2
  rw [add_none] at hc2
  exact ⟨World.block_lt_of_cell? _ _ hc2, hc2⟩
theorem ThX.shutput {w wr : World} {b room : Nat} {vi vo : Value} {L : List UInt8} {T : Option (List Hd)} {inn out : List UInt8} (h : ThX w b room vi vo L false T inn out wr) (sp : Option Addr) (n c : Nat) : Calls Try.prog 15 #[.pointer (some ⟨b, 0, none⟩), .slice sp n c] wr fun e w' => e = .returned (.int .i64 5) ∧ wr = w' := by
  obtain ⟨O, h1, -⟩ := h.pu.ex
  exact uPut_shut O b L room T sp n c wr h1
theorem cat_bytes (X Y : List UInt8) : (⟨X.toArray⟩ : ByteArray) ++ ⟨Y.toArray⟩ = ⟨(X ++ Y).toArray⟩ := by
  apply ByteArray.ext
  simp
/-- What holds ahead of each round. -/
def ThS (w : World) (b room k : Nat) (ai : Option Addr) (n ci : Nat) (ao : Option Addr) (m co : Nat) (wr : World) : Prop :=
  ∃ L inn out, ThX w b room (.slice ai n ci) (.slice ao m co) L true none inn out wr ∧ inn = out ++ L ∧ inn.length = n ∧ out.length = m ∧ n ≤ 255 * k
theorem uthrough_walk (e0 : Nat) (he0 : e0 ≤ 255) (fq1 : Option Addr) (fc1 : Nat) (Ps : List (List UInt8)) (fq2 : Option Addr) (fc2 : Nat) (Z : List UInt8) (q3 : Option Addr) (c3 : Nat) (l3 : List Hd) (a4 : Bool) (w : World) (hP : ChunksAt w fq1 fc1 Ps) (hnp : Ps.length ≤ 1048576) (hZ : SrcAt w fq2 Z) (hnz : Z.length ≤ 1048576) (hO3 : HL w q3 c3 l3) :
    Calls Try.prog 4 #[.int .u8 e0, .slice fq1 Ps.length fc1, .slice fq2 Z.length fc2, .slice q3 l3.length c3, .bool a4] w fun e w' => e = .returned (.bool true) ∧ Below w.heap.size w w' := by
  obtain ⟨np, hnp2⟩ : ∃ np, Ps.length = np := ⟨_, rfl⟩
  obtain ⟨nz, hnz2⟩ : ∃ nz, Z.length = nz := ⟨_, rfl⟩
  obtain ⟨nl, hnl2⟩ : ∃ nl, l3.length = nl := ⟨_, rfl⟩
  have HP : Hid (ChunksAt w fq1 fc1 Ps) := hP
  have HZ : Hid (SrcAt w fq2 Z) := hZ
  have HH : Hid (HL w q3 c3 l3) := hO3
  have HNP : Hid (Ps.length = np) := hnp2
  have HNZ : Hid (Z.length = nz) := hnz2
  have HNL : Hid (l3.length = nl) := hnl2
  rw [hnp2, hnz2, hnl2]
  have hnp1 : (np : Int) ≤ 1048576 := by omega
  have hnz1 : (nz : Int) ≤ 1048576 := by omega
  have hr1 : (e0 : Int) ≤ 255 := by omega
  have KN := ThX.start (n := e0) (by omega) w
  clear hP hZ hO3 hnp hnz hnp2 hnz2 hnl2
  go_enter Try.func4, Try.ntmps4
  go_wp2_with (fail)
  refine KN.mono ?_
  rintro e w1 ⟨b, rfl, h1⟩
  have HST : Hid (ThS w b e0 0 none 0 0 none 0 0 w1) := ⟨[], [], [], h1, rfl, rfl, rfl, by omega⟩
  clear h1 KN
  go_wp2_with (fail)
  go_loopw [13, 14, 15] (fun vi vo i wr => ∃ (k n m : Nat) (ai ao : Option Addr) (ci co : Nat), k ≤ np ∧ i = .int .i64 k ∧ vi = .slice ai n ci ∧ vo = .slice ao m co ∧ Hid (ThS w b e0 k ai n ci ao m co wr)) (fun _ _ i _ => np - (intOf i).toNat)
  case atStart => exact ⟨0, 0, 0, none, none, 0, 0, Nat.zero_le _, rfl, rfl, rfl, HST.out⟩
  case round =>
    clear HST
    obtain ⟨k, n, m, ai, ao, ci, co, hk, rfl, rfl, rfl, HS⟩ := hrel
    by_cases hlt : k < np
    · have hlt' : (k : Int) < (np : Int) := by omega
      obtain ⟨L, inn, out, hX, hE, hn, hm, hnk⟩ := HS.out
      obtain ⟨bk, hbk⟩ : ∃ bk, Ps[k]? = some bk := ⟨Ps[k]'(by rw [HNP.out]; exact hlt), List.getElem?_eq_getElem _⟩
      obtain ⟨gq, oq, bp, bc, rfl, hgq, p0, hs0, hb47, hcap⟩ := HP.out.cells k bk hbk
      obtain ⟨lb, hlb⟩ : ∃ lb, bk.length = lb := ⟨_, rfl⟩
      have hle := hX.pu.le
      have hsum : n = m + L.length := by rw [← hn, ← hm, hE, List.length_append]
      have hF := hX.pu.fr
      have k0 : wr.cell? ⟨gq, oq + k, none⟩ = some (.slice bp lb bc) := by rw [← hlb]; exact (hF.cell (p := ⟨gq, _, none⟩) hgq id).trans p0
      have HC0 : Hid (∀ W, Fr (fun _ => False) w W → W.cell? ⟨gq, oq + k, none⟩ = some (.slice bp lb bc)) := fun W f => by rw [← hlb]; exact (f.cell (p := ⟨gq, _, none⟩) hgq id).trans p0
      have KP := hX.part bp bc bk hs0 hcap
      rw [hlb] at KP
      have HS0 : Hid (SrcAt w bp bk) := hs0
      have HLB : Hid (bk.length = lb) := hlb
      have HE : Hid (inn = out ++ L) := hE
      have HN : Hid (inn.length = n ∧ out.length = m ∧ n ≤ 255 * k) := ⟨hn, hm, hnk⟩
      have b1 : (n : Int) ≤ 1073741824 := by omega
      have b2 : (m : Int) ≤ (n : Int) := by omega
      have b3 : (n : Int) - (m : Int) ≤ (e0 : Int) := by omega
      have hlb2 : (lb : Int) < 140737488355328 := by omega
      have HLE : Hid (L.length ≤ e0 ∧ n = m + L.length) := ⟨hle, hsum⟩
      obtain ⟨i, hi1, hi2', hi3, hi4⟩ := info5
      have J1 : Hid (Try.prog.info? 5 = some i) := hi1
      have J2 : Hid (i.zero = some (.int .u8 0)) := hi2'
      have J3 : Hid (i.size = 1) := hi3
      have J4 : Hid (i.bytes = 1) := hi4
      clear hX hE hn hm hnk hbk p0 hs0 hb47 hcap hlb hle hF hi1 hi2' hi3 hi4 HS
      by_cases hfit : lb ≤ e0 - L.length
      case' pos =>
        have hf1 : (lb : Int) ≤ (e0 : Int) - ((n : Int) - (m : Int)) := by omega
        have e1 : putE true L e0 bk = 0 := by simp [putE, HLB.out, hfit]
        have e2 : putL true L e0 bk = L ++ bk := by simp [putL, HLB.out, hfit]
        rw [e1, e2] at KP
        have HFI : Hid (lb ≤ e0 - L.length) := hfit
        clear e1 e2 hfit hsum
        go_wp2_with (fail)
        refine KP.mono ?_
        rintro e w2 ⟨rfl, h2⟩
        have HX2 : Hid (ThX w b e0 (.slice ai n ci) (.slice ao m co) (L ++ bk) true none inn out w2) := h2
        have i2 := h2.vin
        have k2 := HC0.out w2 h2.pu.fr
        have s2 : SrcAt w2 bp bk := HS0.out.fr h2.pu.fr (fun _ _ _ => id)
        have HBY : Hid (inn.length + lb ≤ 225179981368371) := by show _ ≤ _; have := HN.out; have := HFI.out; omega
        clear h2 KP k0
        go_upto_region 15 with (at_builtin; refine wpList_append_bytes rfl (.tmp 75) (.tmp 79) 31 31 rfl 5 i Try.underlying31 Try.underlying31 J1.out J2.out J3.out J4.out (.slice ai n ci) inn (by go_simp) i2 bp lb bc (by go_simp) bk s2 HLB.out HBY.out ?_; intro ai3 n3 ci3 w3 Hn3 I3 hf3 hk3; refine Hid.out ?_)
        unfold Hid
        have HX3 : Hid (ThX w b e0 (.slice ai3 n3 ci3) (.slice ao m co) (L ++ bk) true none (inn ++ bk) out w3) := HX2.out.more hf3.out hk3.out I3
        have HM3 : Hid (inn ++ bk = out ++ (L ++ bk) ∧ (inn ++ bk).length = n3 ∧ out.length = m ∧ n3 ≤ 255 * (k + 1)) := by
          have q1 := HN.out
          have q2 := HFI.out
          have q3 := Hn3.out
          have q4 := HLB.out
          refine ⟨by rw [HE.out, List.append_assoc], by rw [List.length_append]; omega, q1.2.1, by omega⟩
        obtain ⟨L3, hL3⟩ : ∃ L3, L3 = L ++ bk := ⟨_, rfl⟩
        obtain ⟨inn3, hinn3⟩ : ∃ inn3, inn3 = inn ++ bk := ⟨_, rfl⟩
        rw [← hL3, ← hinn3] at HX3 HM3
        clear i2 k2 s2 I3 hf3 hk3 HX2 Hn3 hL3 hinn3 hf1 HFI HBY
      case' neg =>
        have hf1 : ¬ (lb : Int) ≤ (e0 : Int) - ((n : Int) - (m : Int)) := by omega
        have hf2 : decide ((lb : Int) ≤ (e0 : Int) - ((n : Int) - (m : Int))) = false := decide_eq_false hf1
        have e1 : putE true L e0 bk = 9 := by simp [putE, HLB.out, hfit]
        have e2 : putL true L e0 bk = L := by simp [putL, HLB.out, hfit]
        rw [e1, e2] at KP
        clear e1 e2 hfit hsum
        go_wp2_with (fail)
        refine KP.mono ?_
        rintro e w2 ⟨rfl, h2⟩
        clear KP k0
        go_upto_region 15 with (fail)
        obtain ⟨w3, hw3⟩ : ∃ w3, w3 = w2 := ⟨_, rfl⟩
        obtain ⟨n3, hn3⟩ : ∃ n3, n3 = n := ⟨_, rfl⟩
        obtain ⟨ai3, hai3⟩ : ∃ ai3, ai3 = ai := ⟨_, rfl⟩
        obtain ⟨ci3, hci3⟩ : ∃ ci3, ci3 = ci := ⟨_, rfl⟩
        obtain ⟨L3, hL3⟩ : ∃ L3, L3 = L := ⟨_, rfl⟩
        obtain ⟨inn3, hinn3⟩ : ∃ inn3, inn3 = inn := ⟨_, rfl⟩
        have HX3 : Hid (ThX w b e0 (.slice ai3 n3 ci3) (.slice ao m co) L3 true none inn3 out w3) := by rw [hai3, hn3, hci3, hL3, hinn3, hw3]; exact h2
        have HM3 : Hid (inn3 = out ++ L3 ∧ inn3.length = n3 ∧ out.length = m ∧ n3 ≤ 255 * (k + 1)) := by
          have q1 := HN.out
          rw [hn3, hL3, hinn3]
          exact ⟨HE.out, q1.1, q1.2.1, by omega⟩
        rw [← hw3, ← hn3, ← hai3, ← hci3]
        clear hw3 hn3 hai3 hci3 hL3 hinn3 h2 hf1 hf2
      all_goals
        clear HE HN HLE HS0 HLB HC0 b1 b2 b3
        by_cases htk : k < nz
        case pos =>
          have htk' : (k : Int) < (nz : Int) := by omega
          obtain ⟨tb, to, hfq2, hz⟩ := HZ.out.flat (by rw [HNZ.out]; omega)
          subst hfq2
          obtain ⟨z, hzk⟩ : ∃ z, Z[k]? = some z := ⟨Z[k]'(by rw [HNZ.out]; exact htk), List.getElem?_eq_getElem _⟩
          obtain ⟨t0, t1⟩ := hz k z hzk
          have hzb : (z.toNat : Int) ≤ 255 := by have := UInt8.toNat_lt z; omega
          obtain ⟨zn, hzn⟩ : ∃ zn, z.toNat = zn := ⟨_, rfl⟩
          rw [hzn] at t1 hzb
          have tc : w3.cell? ⟨tb, to + k, none⟩ = some (.int .u8 zn) := (HX3.out.pu.fr.cell (p := ⟨tb, _, none⟩) t0 id).trans t1
          obtain ⟨m1, hm1⟩ : ∃ m1 : Nat, (m1 : Int) = max 0 (min (zn : Int) L3.length) := ⟨min zn L3.length, by omega⟩
          have KN := HX3.out.next zn m1 hm1
          rw [show endB m1 L3 true none = false by simp [endB]] at KN
          have HM1 : Hid (m1 ≤ L3.length ∧ m1 ≤ 255) := ⟨by omega, by omega⟩
          obtain ⟨X, hXd⟩ : ∃ X, L3.take m1 = X := ⟨_, rfl⟩
          obtain ⟨L5, hL5⟩ : ∃ L5, L3.drop m1 = L5 := ⟨_, rfl⟩
          rw [hXd] at KN
          have HXl : Hid (X.length = m1) := by show _ = _; rw [← hXd, List.length_take]; omega
          have HXL : Hid (X ++ L5 = L3) := by show _ = _; rw [← hXd, ← hL5, List.take_append_drop]
          have HDN : Hid (∀ d wq, ThD w b e0 (.slice ai3 n3 ci3) (.slice ao m co) L3 true none inn3 out d X wq → Calls Try.prog 17 #[.pointer (some ⟨b, 0, none⟩), .int .i64 (m1 : Int)] wq fun e w' => e = .returned (.int .i64 0) ∧ ThD w b e0 (.slice ai3 n3 ci3) (.slice ao m co) L5 true none inn3 out d X w') := fun d wq h => by
            have K := h.done (m1 : Int)
            have hh : ¬ ((m1 : Int) < 0 ∨ (L3.length : Int) < (m1 : Int)) := by have := HM1.out; omega
            rw [doneE, doneL, if_neg hh, if_neg hh, Int.toNat_natCast, hL5] at K
            exact K
          have b4 : (m1 : Int) ≤ 255 := by have := HM1.out; omega
          clear hz hzk hzn t1 hm1 hXd hL5
          go_wp2_with (fail)
          refine KN.mono ?_
          rintro e w4 ⟨d, rfl, h4⟩
          have H4 : Hid (ThD w b e0 (.slice ai3 n3 ci3) (.slice ao m co) L3 true none inn3 out d X w4) := h4
          clear h4 KN tc
          go_wp2_with (fail)
          refine (HDN.out d w4 H4.out).mono ?_
          rintro e w5 ⟨rfl, h5⟩
          have H5 : Hid (ThX w b e0 (.slice ai3 n3 ci3) (.slice ao m co) L5 true none inn3 out w5) := h5.x
          have o5 := h5.vout
          have s5 : SrcAt w5 (some ⟨d, 0, none⟩) X := SrcAt.row h5.row 0
          have HBY : Hid (out.length + m1 ≤ 225179981368371) := by
            have q1 := HM3.out
            have q2 := HM1.out
            have q3 : inn3.length = out.length + L3.length := by rw [q1.1, List.length_append]
            show _ ≤ _
            omega
          clear h5 HDN H4
          go_wp2_with (at_builtin; refine wpList_append_bytes rfl (.tmp 103) (.tmp 104) 31 31 rfl 5 i Try.underlying31 Try.underlying31 J1.out J2.out J3.out J4.out (.slice ao m co) out (by go_simp) o5 (some ⟨d, 0, none⟩) m1 m1 (by go_simp) X s5 HXl.out HBY.out ?_; intro ao6 m6 co6 w6 Hm6 O6 hf6 hk6)
          have HX6 : Hid (ThX w b e0 (.slice ai3 n3 ci3) (.slice ao6 m6 co6) L5 true none inn3 (out ++ X) w6) := H5.out.less hf6.out hk6.out O6
          have HST : Hid (ThS w b e0 (k + 1) ai3 n3 ci3 ao6 m6 co6 w6) := by
            refine ⟨L5, inn3, out ++ X, HX6.out, ?_, HM3.out.2.1, ?_, HM3.out.2.2.2⟩
            · rw [List.append_assoc, HXL.out]; exact HM3.out.1
            · rw [List.length_append, HXl.out]; exact Hm6.out.symm
          clear HX6 O6 hf6 hk6 o5 s5 H5 HX3 HM3 HBY
          go_roundw
          case rel => exact ⟨k + 1, n3, m6, ai3, ao6, ci3, co6, by omega, by go_num, rfl, rfl, HST.out⟩
          case measure => simp [intOf]; omega
        case neg =>
          have htk' : ¬ ((k : Int) < (nz : Int)) := by omega
          have HST : Hid (ThS w b e0 (k + 1) ai3 n3 ci3 ao m co w3) := ⟨L3, inn3, out, HX3.out, HM3.out⟩
          clear HX3 HM3
          go_wp2_with (fail)
          go_roundw
          case rel => exact ⟨k + 1, n3, m, ai3, ao, ci3, co, by omega, by go_num, rfl, rfl, HST.out⟩
          case measure => simp [intOf]; omega
    · obtain rfl : k = np := by omega
      have hlt' : ¬ ((k : Int) < (k : Int)) := by omega
      obtain ⟨L, inn, out, hX, hE, hn, hm, hnk⟩ := HS.out
      have hle := hX.pu.le
      have hsum : n = m + L.length := by rw [← hn, ← hm, hE, List.length_append]
      obtain ⟨LL, hLL⟩ : ∃ LL, L.length = LL := ⟨_, rfl⟩
      obtain ⟨sI, hsI⟩ : ∃ sI : ByteArray, sI = ⟨inn.toArray⟩ := ⟨_, rfl⟩
      obtain ⟨sO, hsO⟩ : ∃ sO : ByteArray, sO = ⟨out.toArray⟩ := ⟨_, rfl⟩
      obtain ⟨sL, hsL⟩ : ∃ sL : ByteArray, sL = ⟨L.toArray⟩ := ⟨_, rfl⟩
      have hcat : sO ++ sL = sI := by rw [hsI, hsO, hsL, cat_bytes, hE]
      have ss := str_same sI
      have HX : Hid (ThX w b e0 (.slice ai n ci) (.slice ao m co) L true none inn out wr) := hX
      have HSI : Hid (sI = ⟨inn.toArray⟩) := hsI
      have HSO : Hid (sO = ⟨out.toArray⟩) := hsO
      have HNM : Hid (inn.length = n ∧ out.length = m) := ⟨hn, hm⟩
      have b1 : (n : Int) ≤ 1073741824 := by omega
      have b2 : (LL : Int) ≤ 255 := by omega
      have hsz : sI.size ≤ 1073741824 := by rw [hsI]; show inn.toArray.size ≤ _; simp; omega
      have hso : sO.size + sL.size ≤ 1073741824 := by rw [hsO, hsL]; show out.toArray.size + L.toArray.size ≤ _; simp; omega
      clear hX hnk HS
      by_cases hL : L = []
      · subst hL
        have hnm : n = m := by simpa using hsum
        subst hnm
        cases a4
        case false =>
          have HSL : Hid (sL = ⟨([] : List UInt8).toArray⟩) := hsL
          have HLL : Hid (([] : List UInt8).length = LL ∧ LL ≤ 255) := ⟨hLL, by omega⟩
          clear hsI hsO hsL hE hn hm hsum hle hLL
          have HLN : True := trivial
          have KT : Hid (Calls Try.prog 19 #[.pointer (some ⟨b, 0, none⟩)] wr fun e w' => e = .returned (.int .i64 0) ∧ ThX w b e0 (.slice ai n ci) (.slice ao n co) [] false none inn out w') := HX.out.shut
          have K1 : Hid (∀ W, ThX w b e0 (.slice ai n ci) (.slice ao n co) [] false none inn out W → Calls Try.prog 20 #[.pointer (some ⟨b, 0, none⟩)] W fun e w' => ∃ q c, e = .returned (.tuple #[.slice q 0 c, .bool false]) ∧ ThX w b e0 (.slice ai n ci) (.slice ao n co) [] false none inn out w') := fun W h => by
            have K := h.last
            rw [show lastO [] none = none by simp [lastO], show lastT [] none = none by simp [lastT]] at K
            refine K.mono ?_
            rintro e w' ⟨q, c, e1, -, h', -⟩
            exact ⟨q, c, e1, h'⟩
          have K2 : Hid (∀ W, ThX w b e0 (.slice ai n ci) (.slice ao n co) [] false none inn out W → Calls Try.prog 16 #[.pointer (some ⟨b, 0, none⟩), .int .i64 1000] W fun e w' => ∃ d, e = .returned (.tuple #[.slice (some ⟨d, 0, none⟩) LL LL, .bool true]) ∧ ThD w b e0 (.slice ai n ci) (.slice ao n co) [] false none inn out d [] w') := fun W h => by
            have K := h.next 1000 LL (by have := HLL.out; omega)
            rw [show endB LL [] false none = true by simp [endB, HLL.out.1], List.take_of_length_le (by have := HLL.out; omega)] at K
            exact K
          have K3 : Hid (∀ d W, ThD w b e0 (.slice ai n ci) (.slice ao n co) [] false none inn out d [] W → Calls Try.prog 17 #[.pointer (some ⟨b, 0, none⟩), .int .i64 (LL : Int)] W fun e w' => e = .returned (.int .i64 0) ∧ ThD w b e0 (.slice ai n ci) (.slice ao n co) [] false none inn out d [] w') := fun d W h => by
            have K := h.done (LL : Int)
            have hh : ¬ ((LL : Int) < 0 ∨ (([] : List UInt8).length : Int) < (LL : Int)) := by have := HLL.out; omega
            rw [doneE, doneL, if_neg hh, if_neg hh, Int.toNat_natCast, List.drop_of_length_le (by have := HLL.out; omega)] at K
            exact K
          have KC : Hid (∀ d W, ThD w b e0 (.slice ai n ci) (.slice ao n co) [] false none inn out d [] W → (convert 31 9 (.slice ai n ci)).run Try.prog W = .ok (.string sI) W ∧ (convert 31 9 (.slice ao n co)).run Try.prog W = .ok (.string sO) W ∧ (convert 31 9 (.slice (some ⟨d, 0, none⟩) LL LL)).run Try.prog W = .ok (.string sL) W) := fun d W h => by
            refine ⟨?_, ?_, ?_⟩
            · rw [string_of 31 9 5 Try.underlying31 Try.underlying9 Try.underlying5 (own_src h.vin) n ci HNM.out.1, sv8, HSI.out]
            · rw [string_of 31 9 5 Try.underlying31 Try.underlying9 Try.underlying5 (own_src h.vout) n co HNM.out.2, sv8, HSO.out]
            · rw [string_of 31 9 5 Try.underlying31 Try.underlying9 Try.underlying5 (SrcAt.row h.row 0) LL LL HLL.out.1, sv8, HSL.out]
              rfl
          have K4 : Hid (∀ W, ThX w b e0 (.slice ai n ci) (.slice ao n co) [] false none inn out W → Calls Try.prog 20 #[.pointer (some ⟨b, 0, none⟩)] W fun e w' => ∃ q c, e = .returned (.tuple #[.slice q 0 c, .bool false]) ∧ HL w' q c [] ∧ ThX w b e0 (.slice ai n ci) (.slice ao n co) [] false none inn out w') := fun W h => by
            have K := h.last
            rw [show lastO [] none = none from rfl, show lastT [] none = none from rfl] at K
            refine K.mono ?_
            rintro e w' ⟨q, c, e1, hl, h', -⟩
            exact ⟨q, c, e1, hl, h'⟩
          have K5 : Hid (∀ W, ThX w b e0 (.slice ai n ci) (.slice ao n co) [] false none inn out W → Calls Try.prog 20 #[.pointer (some ⟨b, 0, none⟩)] W fun e w' => ∃ q c, e = .returned (.tuple #[.slice q 0 c, .bool false]) ∧ ThX w b e0 (.slice ai n ci) (.slice ao n co) [] false none inn out w' ∧ ∀ q c l, HL W q c l → HL w' q c l) := fun W h => by
            have K := h.last
            rw [show lastO [] none = none from rfl, show lastT [] none = none from rfl] at K
            refine K.mono ?_
            rintro e w' ⟨q, c, e1, hl, h', f⟩
            exact ⟨q, c, e1, h', f⟩
          clear HX HLL HSI HSO HSL HNM
          go_wp2_with (fail)
          refine KT.out.mono ?_
          rintro e w2 ⟨rfl, h2⟩
          have H2 : Hid (ThX w b e0 (.slice ai n ci) (.slice ao n co) [] false none inn out w2) := h2
          clear h2 KT
          go_wp2_with (fail)
          refine (K1.out w2 H2.out).mono ?_
          rintro e w3 ⟨qa, ca, rfl, h3⟩
          have H3 : Hid (ThX w b e0 (.slice ai n ci) (.slice ao n co) [] false none inn out w3) := h3
          clear h3 K1 H2
          go_wp2_with (fail)
          refine (K2.out w3 H3.out).mono ?_
          rintro e w4 ⟨d, rfl, h4⟩
          have H4 : Hid (ThD w b e0 (.slice ai n ci) (.slice ao n co) [] false none inn out d [] w4) := h4
          clear h4 K2 H3
          go_wp2_with (fail)
          refine (K3.out d w4 H4.out).mono ?_
          rintro e w5 ⟨rfl, h5⟩
          have H5 : Hid (ThX w b e0 (.slice ai n ci) (.slice ao n co) [] false none inn out w5) := h5.x
          obtain ⟨v1, v2, v3⟩ := KC.out d w5 h5
          clear h5 K3 H4 KC
          go_wp2_with (fail)
          refine (K4.out w5 H5.out).mono ?_
          rintro e w6 ⟨qb, cb, rfl, hl6, h6⟩
          have H6 : Hid (ThX w b e0 (.slice ai n ci) (.slice ao n co) [] false none inn out w6) := h6
          have HL6 : Hid (HL w6 qb cb []) := hl6
          clear h6 hl6 K4 H5 v1 v2 v3
          go_wp2_with (fail)
          refine (K5.out w6 H6.out).mono ?_
          rintro e w7 ⟨qc, cc, rfl, h7, f7⟩
          have H7 : Hid (ThX w b e0 (.slice ai n ci) (.slice ao n co) [] false none inn out w7) := h7
          clear h7 f7 K5 H6 HL6
          obtain ⟨w8, hw8⟩ : ∃ w8, w8 = w7 := ⟨_, rfl⟩
          rw [← hw8] at H7 ⊢
          have H8 : Hid (ThX w b e0 (.slice ai n ci) (.slice ao n co) [] false none inn out w8) := H7.out
          clear hw8 H7
          obtain ⟨W9, hW9⟩ : ∃ W9, w8.alloc (.cells #[.int .u8 1] 5) = W9 := ⟨_, rfl⟩
          have H9 : Hid (ThX w b e0 (.slice ai n ci) (.slice ao n co) [] false none inn out W9) := by rw [← hW9]; exact H8.out.later ((Fr.refl _ _).alloc _)
          clear H8
          go_wp2_with (fail)
          clear hW9
          refine (H9.out.shutput _ 1 1).mono ?_
          rintro e w10 ⟨rfl, rfl⟩
          go_wp2_with (fail)
          refine H9.out.len.mono ?_
          rintro e w11 ⟨rfl, rfl⟩
          go_wp2
          go_ret
          exact ⟨rfl, H9.out.pu.fr.below (fun _ _ => id)⟩
        case true =>
          have HSL : Hid (sL = ⟨([] : List UInt8).toArray⟩) := hsL
          have HLL : Hid (([] : List UInt8).length = LL ∧ LL ≤ 255) := ⟨hLL, by omega⟩
          clear hsI hsO hsL hE hn hm hsum hle hLL
          have KT : Hid (Calls Try.prog 18 #[.pointer (some ⟨b, 0, none⟩), .slice q3 nl c3] wr fun e w' => e = .returned (.int .i64 0) ∧ ThX w b e0 (.slice ai n ci) (.slice ao n co) [] false (some l3) inn out w') := by
            have K := HX.out.tail q3 c3 l3 HH.out
            rw [HNL.out] at K
            exact K
          have K1 : Hid (∀ W, ThX w b e0 (.slice ai n ci) (.slice ao n co) [] false (some l3) inn out W → Calls Try.prog 20 #[.pointer (some ⟨b, 0, none⟩)] W fun e w' => ∃ q c, e = .returned (.tuple #[.slice q nl c, .bool true]) ∧ ThX w b e0 (.slice ai n ci) (.slice ao n co) [] false none inn out w') := fun W h => by
            have K := h.last
            rw [show lastO [] (some l3) = some l3 from rfl, show lastT [] (some l3) = none from rfl] at K
            rw [show (Option.getD (some l3) []).length = nl from HNL.out] at K
            refine K.mono ?_
            rintro e w' ⟨q, c, e1, -, h', -⟩
            exact ⟨q, c, e1, h'⟩
          have K2 : Hid (∀ W, ThX w b e0 (.slice ai n ci) (.slice ao n co) [] false none inn out W → Calls Try.prog 16 #[.pointer (some ⟨b, 0, none⟩), .int .i64 1000] W fun e w' => ∃ d, e = .returned (.tuple #[.slice (some ⟨d, 0, none⟩) 0 0, .bool true]) ∧ ThD w b e0 (.slice ai n ci) (.slice ao n co) [] false none inn out d [] w') := fun W h => by
            have K := h.next 1000 0 (by have := HLL.out; simp only [List.length_nil]; omega)
            rw [show endB 0 [] false none = true by simp [endB]] at K
            exact K
          have K3 : Hid (∀ d W, ThD w b e0 (.slice ai n ci) (.slice ao n co) [] false none inn out d [] W → Calls Try.prog 17 #[.pointer (some ⟨b, 0, none⟩), .int .i64 0] W fun e w' => e = .returned (.int .i64 0) ∧ ThD w b e0 (.slice ai n ci) (.slice ao n co) [] false none inn out d [] w') := fun d W h => by
            have K := h.done 0
            exact K
          have KC : Hid (∀ d W, ThD w b e0 (.slice ai n ci) (.slice ao n co) [] false none inn out d [] W → (convert 31 9 (.slice ai n ci)).run Try.prog W = .ok (.string sI) W ∧ (convert 31 9 (.slice ao n co)).run Try.prog W = .ok (.string sO) W ∧ (convert 31 9 (.slice (some ⟨d, 0, none⟩) 0 0)).run Try.prog W = .ok (.string sL) W) := fun d W h => by
            refine ⟨?_, ?_, ?_⟩
            · rw [string_of 31 9 5 Try.underlying31 Try.underlying9 Try.underlying5 (own_src h.vin) n ci HNM.out.1, sv8, HSI.out]
            · rw [string_of 31 9 5 Try.underlying31 Try.underlying9 Try.underlying5 (own_src h.vout) n co HNM.out.2, sv8, HSO.out]
            · rw [string_of 31 9 5 Try.underlying31 Try.underlying9 Try.underlying5 (SrcAt.row h.row 0) 0 0 rfl, sv8, HSL.out]
              rfl
          have K4 : Hid (∀ W, ThX w b e0 (.slice ai n ci) (.slice ao n co) [] false none inn out W → Calls Try.prog 20 #[.pointer (some ⟨b, 0, none⟩)] W fun e w' => ∃ q c, e = .returned (.tuple #[.slice q 0 c, .bool false]) ∧ HL w' q c [] ∧ ThX w b e0 (.slice ai n ci) (.slice ao n co) [] false none inn out w') := fun W h => by
            have K := h.last
            rw [show lastO [] none = none from rfl, show lastT [] none = none from rfl] at K
            refine K.mono ?_
            rintro e w' ⟨q, c, e1, hl, h', -⟩
            exact ⟨q, c, e1, hl, h'⟩
          have K5 : Hid (∀ W, ThX w b e0 (.slice ai n ci) (.slice ao n co) [] false none inn out W → Calls Try.prog 20 #[.pointer (some ⟨b, 0, none⟩)] W fun e w' => ∃ q c, e = .returned (.tuple #[.slice q 0 c, .bool false]) ∧ ThX w b e0 (.slice ai n ci) (.slice ao n co) [] false none inn out w' ∧ ∀ q c l, HL W q c l → HL w' q c l) := fun W h => by
            have K := h.last
            rw [show lastO [] none = none from rfl, show lastT [] none = none from rfl] at K
            refine K.mono ?_
            rintro e w' ⟨q, c, e1, hl, h', f⟩
            exact ⟨q, c, e1, h', f⟩
          clear HX HLL HSI HSO HSL HNM
          go_wp2_with (fail)
          refine KT.out.mono ?_
          rintro e w2 ⟨rfl, h2⟩
          have H2 : Hid (ThX w b e0 (.slice ai n ci) (.slice ao n co) [] false (some l3) inn out w2) := h2
          clear h2 KT
          go_wp2_with (fail)
          refine (K1.out w2 H2.out).mono ?_
          rintro e w3 ⟨qa, ca, rfl, h3⟩
          have H3 : Hid (ThX w b e0 (.slice ai n ci) (.slice ao n co) [] false none inn out w3) := h3
          clear h3 K1 H2
          go_wp2_with (fail)
          refine (K2.out w3 H3.out).mono ?_
          rintro e w4 ⟨d, rfl, h4⟩
          have H4 : Hid (ThD w b e0 (.slice ai n ci) (.slice ao n co) [] false none inn out d [] w4) := h4
          clear h4 K2 H3
          go_wp2_with (fail)
          refine (K3.out d w4 H4.out).mono ?_
          rintro e w5 ⟨rfl, h5⟩
          have H5 : Hid (ThX w b e0 (.slice ai n ci) (.slice ao n co) [] false none inn out w5) := h5.x
          obtain ⟨v1, v2, v3⟩ := KC.out d w5 h5
          clear h5 K3 H4 KC
          go_wp2_with (fail)
          refine (K4.out w5 H5.out).mono ?_
          rintro e w6 ⟨qb, cb, rfl, hl6, h6⟩
          have H6 : Hid (ThX w b e0 (.slice ai n ci) (.slice ao n co) [] false none inn out w6) := h6
          have HL6 : Hid (HL w6 qb cb []) := hl6
          clear h6 hl6 K4 H5 v1 v2 v3
          go_wp2_with (fail)
          refine (K5.out w6 H6.out).mono ?_
          rintro e w7 ⟨qc, cc, rfl, h7, f7⟩
          have H7 : Hid (ThX w b e0 (.slice ai n ci) (.slice ao n co) [] false none inn out w7) := h7
          clear h7 f7 K5 H6 HL6
          obtain ⟨w8, hw8⟩ : ∃ w8, w8 = w7 := ⟨_, rfl⟩
          rw [← hw8] at H7 ⊢
          have H8 : Hid (ThX w b e0 (.slice ai n ci) (.slice ao n co) [] false none inn out w8) := H7.out
          clear hw8 H7
          obtain ⟨W9, hW9⟩ : ∃ W9, w8.alloc (.cells #[.int .u8 1] 5) = W9 := ⟨_, rfl⟩
          have H9 : Hid (ThX w b e0 (.slice ai n ci) (.slice ao n co) [] false none inn out W9) := by rw [← hW9]; exact H8.out.later ((Fr.refl _ _).alloc _)
          clear H8
          go_wp2_with (fail)
          clear hW9
          refine (H9.out.shutput _ 1 1).mono ?_
          rintro e w10 ⟨rfl, rfl⟩
          go_wp2_with (fail)
          refine H9.out.len.mono ?_
          rintro e w11 ⟨rfl, rfl⟩
          go_wp2
          go_ret
          exact ⟨rfl, H9.out.pu.fr.below (fun _ _ => id)⟩
      · have hnm : ¬ (n : Int) = (m : Int) := by have := List.length_pos_iff.2 hL; omega
        have hnm2 : ((n : Int) == (m : Int)) = false := beq_eq_false_iff_ne.2 hnm
        cases a4
        case false =>
          have HSL : Hid (sL = ⟨L.toArray⟩) := hsL
          have HLL : Hid (L.length = LL ∧ LL ≤ 255) := ⟨hLL, by omega⟩
          clear hsI hsO hsL hE hn hm hsum hle hLL hL
          have KT : Hid (Calls Try.prog 19 #[.pointer (some ⟨b, 0, none⟩)] wr fun e w' => e = .returned (.int .i64 0) ∧ ThX w b e0 (.slice ai n ci) (.slice ao m co) L false none inn out w') := HX.out.shut
          have K1 : Hid (∀ W, ThX w b e0 (.slice ai n ci) (.slice ao m co) L false none inn out W → Calls Try.prog 20 #[.pointer (some ⟨b, 0, none⟩)] W fun e w' => ∃ q c, e = .returned (.tuple #[.slice q 0 c, .bool false]) ∧ ThX w b e0 (.slice ai n ci) (.slice ao m co) L false none inn out w') := fun W h => by
            have K := h.last
            rw [show lastO L none = none by simp [lastO], show lastT L none = none by simp [lastT]] at K
            refine K.mono ?_
            rintro e w' ⟨q, c, e1, -, h', -⟩
            exact ⟨q, c, e1, h'⟩
          have K2 : Hid (∀ W, ThX w b e0 (.slice ai n ci) (.slice ao m co) L false none inn out W → Calls Try.prog 16 #[.pointer (some ⟨b, 0, none⟩), .int .i64 1000] W fun e w' => ∃ d, e = .returned (.tuple #[.slice (some ⟨d, 0, none⟩) LL LL, .bool true]) ∧ ThD w b e0 (.slice ai n ci) (.slice ao m co) L false none inn out d L w') := fun W h => by
            have K := h.next 1000 LL (by have := HLL.out; omega)
            rw [show endB LL L false none = true by simp [endB, HLL.out.1], List.take_of_length_le (by have := HLL.out; omega)] at K
            exact K
          have K3 : Hid (∀ d W, ThD w b e0 (.slice ai n ci) (.slice ao m co) L false none inn out d L W → Calls Try.prog 17 #[.pointer (some ⟨b, 0, none⟩), .int .i64 (LL : Int)] W fun e w' => e = .returned (.int .i64 0) ∧ ThD w b e0 (.slice ai n ci) (.slice ao m co) [] false none inn out d L w') := fun d W h => by
            have K := h.done (LL : Int)
            have hh : ¬ ((LL : Int) < 0 ∨ (L.length : Int) < (LL : Int)) := by have := HLL.out; omega
            rw [doneE, doneL, if_neg hh, if_neg hh, Int.toNat_natCast, List.drop_of_length_le (by have := HLL.out; omega)] at K
            exact K
          have KC : Hid (∀ d W, ThD w b e0 (.slice ai n ci) (.slice ao m co) [] false none inn out d L W → (convert 31 9 (.slice ai n ci)).run Try.prog W = .ok (.string sI) W ∧ (convert 31 9 (.slice ao m co)).run Try.prog W = .ok (.string sO) W ∧ (convert 31 9 (.slice (some ⟨d, 0, none⟩) LL LL)).run Try.prog W = .ok (.string sL) W) := fun d W h => by
            refine ⟨?_, ?_, ?_⟩
            · rw [string_of 31 9 5 Try.underlying31 Try.underlying9 Try.underlying5 (own_src h.vin) n ci HNM.out.1, sv8, HSI.out]
            · rw [string_of 31 9 5 Try.underlying31 Try.underlying9 Try.underlying5 (own_src h.vout) m co HNM.out.2, sv8, HSO.out]
            · rw [string_of 31 9 5 Try.underlying31 Try.underlying9 Try.underlying5 (SrcAt.row h.row 0) LL LL HLL.out.1, sv8, HSL.out]
              rfl
          have K4 : Hid (∀ W, ThX w b e0 (.slice ai n ci) (.slice ao m co) [] false none inn out W → Calls Try.prog 20 #[.pointer (some ⟨b, 0, none⟩)] W fun e w' => ∃ q c, e = .returned (.tuple #[.slice q 0 c, .bool false]) ∧ HL w' q c [] ∧ ThX w b e0 (.slice ai n ci) (.slice ao m co) [] false none inn out w') := fun W h => by
            have K := h.last
            rw [show lastO [] none = none from rfl, show lastT [] none = none from rfl] at K
            refine K.mono ?_
            rintro e w' ⟨q, c, e1, hl, h', -⟩
            exact ⟨q, c, e1, hl, h'⟩
          have K5 : Hid (∀ W, ThX w b e0 (.slice ai n ci) (.slice ao m co) [] false none inn out W → Calls Try.prog 20 #[.pointer (some ⟨b, 0, none⟩)] W fun e w' => ∃ q c, e = .returned (.tuple #[.slice q 0 c, .bool false]) ∧ ThX w b e0 (.slice ai n ci) (.slice ao m co) [] false none inn out w' ∧ ∀ q c l, HL W q c l → HL w' q c l) := fun W h => by
            have K := h.last
            rw [show lastO [] none = none from rfl, show lastT [] none = none from rfl] at K
            refine K.mono ?_
            rintro e w' ⟨q, c, e1, hl, h', f⟩
            exact ⟨q, c, e1, h', f⟩
          clear HX HLL HSI HSO HSL HNM
          go_wp2_with (fail)
          refine KT.out.mono ?_
          rintro e w2 ⟨rfl, h2⟩
          have H2 : Hid (ThX w b e0 (.slice ai n ci) (.slice ao m co) L false none inn out w2) := h2
          clear h2 KT
          go_wp2_with (fail)
          refine (K1.out w2 H2.out).mono ?_
          rintro e w3 ⟨qa, ca, rfl, h3⟩
          have H3 : Hid (ThX w b e0 (.slice ai n ci) (.slice ao m co) L false none inn out w3) := h3
          clear h3 K1 H2
          go_wp2_with (fail)
          refine (K2.out w3 H3.out).mono ?_
          rintro e w4 ⟨d, rfl, h4⟩
          have H4 : Hid (ThD w b e0 (.slice ai n ci) (.slice ao m co) L false none inn out d L w4) := h4
          clear h4 K2 H3
          go_wp2_with (fail)
          refine (K3.out d w4 H4.out).mono ?_
          rintro e w5 ⟨rfl, h5⟩
          have H5 : Hid (ThX w b e0 (.slice ai n ci) (.slice ao m co) [] false none inn out w5) := h5.x
          obtain ⟨v1, v2, v3⟩ := KC.out d w5 h5
          clear h5 K3 H4 KC
          go_wp2_with (fail)
          refine (K4.out w5 H5.out).mono ?_
          rintro e w6 ⟨qb, cb, rfl, hl6, h6⟩
          have H6 : Hid (ThX w b e0 (.slice ai n ci) (.slice ao m co) [] false none inn out w6) := h6
          have HL6 : Hid (HL w6 qb cb []) := hl6
          clear h6 hl6 K4 H5 v1 v2 v3
          go_wp2_with (fail)
          refine (K5.out w6 H6.out).mono ?_
          rintro e w7 ⟨qc, cc, rfl, h7, f7⟩
          have H7 : Hid (ThX w b e0 (.slice ai n ci) (.slice ao m co) [] false none inn out w7) := h7
          clear h7 f7 K5 H6 HL6
          obtain ⟨w8, hw8⟩ : ∃ w8, w8 = w7 := ⟨_, rfl⟩
          rw [← hw8] at H7 ⊢
          have H8 : Hid (ThX w b e0 (.slice ai n ci) (.slice ao m co) [] false none inn out w8) := H7.out
          clear hw8 H7
          obtain ⟨W9, hW9⟩ : ∃ W9, w8.alloc (.cells #[.int .u8 1] 5) = W9 := ⟨_, rfl⟩
          have H9 : Hid (ThX w b e0 (.slice ai n ci) (.slice ao m co) [] false none inn out W9) := by rw [← hW9]; exact H8.out.later ((Fr.refl _ _).alloc _)
          clear H8
          go_wp2_with (fail)
          clear hW9
          refine (H9.out.shutput _ 1 1).mono ?_
          rintro e w10 ⟨rfl, rfl⟩
          go_wp2_with (fail)
          refine H9.out.len.mono ?_
          rintro e w11 ⟨rfl, rfl⟩
          go_wp2
          go_ret
          exact ⟨rfl, H9.out.pu.fr.below (fun _ _ => id)⟩
        case true =>
          have HSL : Hid (sL = ⟨L.toArray⟩) := hsL
          have HLL : Hid (L.length = LL ∧ LL ≤ 255) := ⟨hLL, by omega⟩
          have HLN : Hid (¬ L = []) := hL
          clear hsI hsO hsL hE hn hm hsum hle hLL hL
          have KT : Hid (Calls Try.prog 18 #[.pointer (some ⟨b, 0, none⟩), .slice q3 nl c3] wr fun e w' => e = .returned (.int .i64 0) ∧ ThX w b e0 (.slice ai n ci) (.slice ao m co) L false (some l3) inn out w') := by
            have K := HX.out.tail q3 c3 l3 HH.out
            rw [HNL.out] at K
            exact K
          have K1 : Hid (∀ W, ThX w b e0 (.slice ai n ci) (.slice ao m co) L false (some l3) inn out W → Calls Try.prog 20 #[.pointer (some ⟨b, 0, none⟩)] W fun e w' => ∃ q c, e = .returned (.tuple #[.slice q 0 c, .bool false]) ∧ ThX w b e0 (.slice ai n ci) (.slice ao m co) L false (some l3) inn out w') := fun W h => by
            have K := h.last
            rw [show lastO L (some l3) = none from if_neg HLN.out, show lastT L (some l3) = some l3 from if_neg HLN.out] at K
            refine K.mono ?_
            rintro e w' ⟨q, c, e1, -, h', -⟩
            exact ⟨q, c, e1, h'⟩
          have K2 : Hid (∀ W, ThX w b e0 (.slice ai n ci) (.slice ao m co) L false (some l3) inn out W → Calls Try.prog 16 #[.pointer (some ⟨b, 0, none⟩), .int .i64 1000] W fun e w' => ∃ d, e = .returned (.tuple #[.slice (some ⟨d, 0, none⟩) LL LL, .bool false]) ∧ ThD w b e0 (.slice ai n ci) (.slice ao m co) L false (some l3) inn out d L w') := fun W h => by
            have K := h.next 1000 LL (by have := HLL.out; omega)
            rw [show endB LL L false (some l3) = false by simp [endB], List.take_of_length_le (by have := HLL.out; omega)] at K
            exact K
          have K3 : Hid (∀ d W, ThD w b e0 (.slice ai n ci) (.slice ao m co) L false (some l3) inn out d L W → Calls Try.prog 17 #[.pointer (some ⟨b, 0, none⟩), .int .i64 (LL : Int)] W fun e w' => e = .returned (.int .i64 0) ∧ ThD w b e0 (.slice ai n ci) (.slice ao m co) [] false (some l3) inn out d L w') := fun d W h => by
            have K := h.done (LL : Int)
            have hh : ¬ ((LL : Int) < 0 ∨ (L.length : Int) < (LL : Int)) := by have := HLL.out; omega
            rw [doneE, doneL, if_neg hh, if_neg hh, Int.toNat_natCast, List.drop_of_length_le (by have := HLL.out; omega)] at K
            exact K
          have KC : Hid (∀ d W, ThD w b e0 (.slice ai n ci) (.slice ao m co) [] false (some l3) inn out d L W → (convert 31 9 (.slice ai n ci)).run Try.prog W = .ok (.string sI) W ∧ (convert 31 9 (.slice ao m co)).run Try.prog W = .ok (.string sO) W ∧ (convert 31 9 (.slice (some ⟨d, 0, none⟩) LL LL)).run Try.prog W = .ok (.string sL) W) := fun d W h => by
            refine ⟨?_, ?_, ?_⟩
            · rw [string_of 31 9 5 Try.underlying31 Try.underlying9 Try.underlying5 (own_src h.vin) n ci HNM.out.1, sv8, HSI.out]
            · rw [string_of 31 9 5 Try.underlying31 Try.underlying9 Try.underlying5 (own_src h.vout) m co HNM.out.2, sv8, HSO.out]
            · rw [string_of 31 9 5 Try.underlying31 Try.underlying9 Try.underlying5 (SrcAt.row h.row 0) LL LL HLL.out.1, sv8, HSL.out]
              rfl
          have K4 : Hid (∀ W, ThX w b e0 (.slice ai n ci) (.slice ao m co) [] false (some l3) inn out W → Calls Try.prog 20 #[.pointer (some ⟨b, 0, none⟩)] W fun e w' => ∃ q c, e = .returned (.tuple #[.slice q nl c, .bool true]) ∧ HL w' q c l3 ∧ ThX w b e0 (.slice ai n ci) (.slice ao m co) [] false none inn out w') := fun W h => by
            have K := h.last
            rw [show lastO [] (some l3) = some l3 from rfl, show lastT [] (some l3) = none from rfl] at K
            rw [show (Option.getD (some l3) []).length = nl from HNL.out] at K
            refine K.mono ?_
            rintro e w' ⟨q, c, e1, hl, h', -⟩
            exact ⟨q, c, e1, hl, h'⟩
          have K5 : Hid (∀ W, ThX w b e0 (.slice ai n ci) (.slice ao m co) [] false none inn out W → Calls Try.prog 20 #[.pointer (some ⟨b, 0, none⟩)] W fun e w' => ∃ q c, e = .returned (.tuple #[.slice q 0 c, .bool false]) ∧ ThX w b e0 (.slice ai n ci) (.slice ao m co) [] false none inn out w' ∧ ∀ q c l, HL W q c l → HL w' q c l) := fun W h => by
            have K := h.last
            rw [show lastO [] none = none from rfl, show lastT [] none = none from rfl] at K
            refine K.mono ?_
            rintro e w' ⟨q, c, e1, hl, h', f⟩
            exact ⟨q, c, e1, h', f⟩
          clear HX HLL HSI HSO HSL HNM HLN
          go_wp2_with (fail)
          refine KT.out.mono ?_
          rintro e w2 ⟨rfl, h2⟩
          have H2 : Hid (ThX w b e0 (.slice ai n ci) (.slice ao m co) L false (some l3) inn out w2) := h2
          clear h2 KT
          go_wp2_with (fail)
          refine (K1.out w2 H2.out).mono ?_
          rintro e w3 ⟨qa, ca, rfl, h3⟩
          have H3 : Hid (ThX w b e0 (.slice ai n ci) (.slice ao m co) L false (some l3) inn out w3) := h3
          clear h3 K1 H2
          go_wp2_with (fail)
          refine (K2.out w3 H3.out).mono ?_
          rintro e w4 ⟨d, rfl, h4⟩
          have H4 : Hid (ThD w b e0 (.slice ai n ci) (.slice ao m co) L false (some l3) inn out d L w4) := h4
          clear h4 K2 H3
          go_wp2_with (fail)
          refine (K3.out d w4 H4.out).mono ?_
          rintro e w5 ⟨rfl, h5⟩
          have H5 : Hid (ThX w b e0 (.slice ai n ci) (.slice ao m co) [] false (some l3) inn out w5) := h5.x
          obtain ⟨v1, v2, v3⟩ := KC.out d w5 h5
          clear h5 K3 H4 KC
          go_wp2_with (fail)
          refine (K4.out w5 H5.out).mono ?_
          rintro e w6 ⟨qb, cb, rfl, hl6, h6⟩
          have H6 : Hid (ThX w b e0 (.slice ai n ci) (.slice ao m co) [] false none inn out w6) := h6
          have HL6 : Hid (HL w6 qb cb l3) := hl6
          clear h6 hl6 K4 H5 v1 v2 v3
          go_wp2_with (fail)
          refine (K5.out w6 H6.out).mono ?_
          rintro e w7 ⟨qc, cc, rfl, h7, f7⟩
          have H7 : Hid (ThX w b e0 (.slice ai n ci) (.slice ao m co) [] false none inn out w7) := h7
          have KH : Hid (Calls Try.prog 21 #[.slice qb nl cb, .slice q3 nl c3] w7 fun e w' => e = .returned (.bool true) ∧ Fr (fun _ => False) w7 w') := by
            have K := uheaders_in qb q3 cb c3 l3 w7 (f7 _ _ _ HL6.out) (HH.out.fr h7.pu.fr (fun _ _ _ => id))
            rw [HNL.out] at K
            exact K
          clear h7 f7 K5 H6 HL6
          go_wp2_with (fail)
          refine KH.out.mono ?_
          rintro e w8 ⟨rfl, f8⟩
          have H8 : Hid (ThX w b e0 (.slice ai n ci) (.slice ao m co) [] false none inn out w8) := H7.out.later f8
          clear f8 KH H7
          obtain ⟨W9, hW9⟩ : ∃ W9, w8.alloc (.cells #[.int .u8 1] 5) = W9 := ⟨_, rfl⟩
          have H9 : Hid (ThX w b e0 (.slice ai n ci) (.slice ao m co) [] false none inn out W9) := by rw [← hW9]; exact H8.out.later ((Fr.refl _ _).alloc _)
          clear H8
          go_wp2_with (fail)
          clear hW9
          refine (H9.out.shutput _ 1 1).mono ?_
          rintro e w10 ⟨rfl, rfl⟩
          go_wp2_with (fail)
          refine H9.out.len.mono ?_
          rintro e w11 ⟨rfl, rfl⟩
          go_wp2
          go_ret
          exact ⟨rfl, H9.out.pu.fr.below (fun _ _ => id)⟩
end Go.Proofs.Ytibiiagdhdmpiaa
