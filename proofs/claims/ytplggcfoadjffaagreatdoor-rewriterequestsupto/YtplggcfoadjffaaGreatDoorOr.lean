/- The headers one by one: the document's. -/
import Derived.Test.YtplggcfoadjffaaGreatDoorOn
namespace Go.Proofs.YtplggcfoadjffaaGreatDoor
open Go.RowKit Go.Maps
set_option linter.unusedVariables false
set_option maxRecDepth 100000
set_option maxHeartbeats 8000000

theorem rPseudo_in (s : ByteArray) (w : World) : Calls Tryz.prog 53 #[.string s] w fun e w' => e = .returned (.bool (pseudoB (tx s))) ∧ w = w' := by
  by_cases h0 : 0 < s.size
  · have hi0 : ∀ w : World, (Instr.index 9 (.string s) (.int .i64 0)).run Tryz.prog w = .ok (.int .u8 ((s[0]'h0).toNat : Int)) w := index_tx s 0 h0
    have hb : (((s[0]'h0).toNat : Int) == 58) = pseudoB (tx s) := by
      unfold pseudoB
      rw [List.head?_eq_getElem?, tx_at s 0 h0]
      generalize (s[0]'h0) = c
      by_cases h : c = 58
      · subst h; rfl
      · have e1 : (some c == some (58 : UInt8)) = false := by simpa using h
        rw [e1]
        have : c.toNat ≠ 58 := fun e => h (UInt8.toNat_inj.1 (by simpa using e))
        exact beq_eq_false_iff_ne.2 (by omega)
    have h1 : (0 : Int) < (s.size : Int) := by omega
    generalize ((s[0]'h0).toNat : Int) = k at hi0 hb
    generalize pseudoB (tx s) = V at hb ⊢
    subst hb
    go_enter Tryz.func53, Tryz.ntmps53
    go_wp2_with (fail)
    go_ret
    exact ⟨rfl, rfl⟩
  · have hv : pseudoB (tx s) = false := by
      have : tx s = [] := List.eq_nil_of_length_eq_zero (by rw [tx_len]; omega)
      rw [this]
      rfl
    have h1 : ¬ (0 : Int) < (s.size : Int) := by omega
    rw [hv]
    go_enter Tryz.func53, Tryz.ntmps53
    go_wp2_with (fail)
    go_ret
    exact ⟨rfl, rfl⟩
theorem rHas_in (q : Option Addr) (c : Nat) (zs : List ByteArray) (d : ByteArray) (w : World) (hz : StrsAt w q zs) :
    Calls Tryz.prog 56 #[.slice q zs.length c, .string d] w fun e w' => e = .returned (.bool ((zs.map tx).contains (tx d))) ∧ w = w' := by
  have HZ : Hid (StrsAt w q zs) := hz
  have hn := hz.few
  obtain ⟨n, hlen⟩ : ∃ n, zs.length = n := ⟨_, rfl⟩
  have HN : Hid (zs.length = n) := hlen
  obtain ⟨V, hV⟩ : ∃ V, (zs.map tx).contains (tx d) = V := ⟨_, rfl⟩
  have HV : Hid ((zs.map tx).contains (tx d) = V) := hV
  rw [hlen] at hn ⊢
  rw [hV]
  clear hz hlen hV
  go_enter Tryz.func56, Tryz.ntmps56
  go_wp2_with (fail)
  go_loopw [5] (fun x8 wr => ∃ i : Nat, x8 = .int .i64 (i : Int) ∧ i ≤ n ∧ w = wr ∧ Hid (tx d ∉ (zs.take i).map tx)) (fun x8 _ => n - (intOf x8).toNat)
  case atStart => exact ⟨0, rfl, by omega, rfl, by show _ ∉ _; simp⟩
  case round =>
    obtain ⟨i, rfl, hin, rfl, HM⟩ := hrel
    by_cases hlt : i < n
    · have hlt2 : (i : Int) < (n : Int) := by omega
      obtain ⟨z, hz⟩ : ∃ z, zs[i]? = some z := ⟨_, List.getElem?_eq_getElem (by rw [HN.out]; exact hlt)⟩
      obtain ⟨b, o, rfl, hb, c0⟩ := HZ.out.cells i z hz
      have HX : Hid (zs[i]? = some z) := hz
      clear hz
      by_cases hd : tx z = tx d
      · have h1 : (z.toList == d.toList) = true := by rw [tx_toList, tx_toList, hd]; exact beq_self_eq_true _
        have h2 : z.toList = d.toList := by rw [tx_toList, tx_toList, hd]
        have hv : V = true := by rw [← HV.out]; exact List.contains_iff_mem.2 (by rw [← hd]; exact List.mem_map.2 ⟨z, List.mem_of_getElem? HX.out, rfl⟩)
        clear hd HV
        subst hv
        go_wp2_with (fail)
        go_ret
        exact ⟨rfl, rfl⟩
      · have h2 : ¬ z.toList = d.toList := by rw [tx_toList, tx_toList]; exact hd
        have h1 : (z.toList == d.toList) = false := beq_eq_false_iff_ne.2 h2
        have HM2 : Hid (tx d ∉ (zs.take (i + 1)).map tx) := by
          show _ ∉ _
          rw [List.take_add_one, HX.out, List.map_append]
          simp only [Option.toList_some, List.map_cons, List.map_nil, List.mem_append, List.mem_singleton, not_or]
          exact ⟨HM.out, fun e => hd e.symm⟩
        clear hd
        go_wp2_with (fail)
        go_roundw
        case rel => exact ⟨i + 1, by go_num, by omega, trivial, HM2.out⟩
        case measure => simp [intOf]; omega
    · have hlt2 : ¬ (i : Int) < (n : Int) := by omega
      have hv : V = false := by
        have := HM.out
        rw [List.take_of_length_le (by rw [HN.out]; omega)] at this
        rw [← HV.out]
        cases e : (zs.map tx).contains (tx d) with
        | false => rfl
        | true => exact absurd (List.contains_iff_mem.1 e) this
      clear HV
      subst hv
      go_wp2_with (fail)
      go_ret
      exact ⟨rfl, rfl⟩
theorem HL.take {w : World} {q : Option Addr} {c : Nat} {l : List Hd} (h : HL w q c l) (i : Nat) : HL w q c (l.take i) :=
  ⟨Nat.le_trans (List.length_take_le' _ _) h.cap, h.big, by have := h.few; have := List.length_take_le' i l; omega, fun r x hr => by
    have hlt := (List.getElem?_eq_some_iff.1 hr).1
    rw [List.length_take] at hlt
    rw [List.getElem?_take_of_lt (by omega)] at hr
    exact h.cells r x hr⟩
/-- What is known in each's loop. -/
structure EachS (w : World) (may : List (List UInt8)) (l : List Hd) (i : Nat) (W : World) : Prop where
  fr : Fr (fun _ => False) w W
  each : eachO may (l.take i) (l.drop i) = eachO may [] l
theorem EachS.err {w W : World} {may : List (List UInt8)} {l : List Hd} {i : Nat} {h : Hd} (s : EachS w may l i W) (hi : l[i]? = some h) {k : Int} (hk : stepE may (l.take i) h = k) (hn : k ≠ 0) : eachO may [] l = k := by
  have h1 := s.each
  rw [eachO_at hi, if_neg (by rw [hk]; exact hn), hk] at h1
  exact h1.symm
theorem EachS.next {w W W2 : World} {may : List (List UInt8)} {l : List Hd} {i : Nat} {h : Hd} (s : EachS w may l i W) (hi : l[i]? = some h) (hk : stepE may (l.take i) h = 0) (f : Fr (fun _ => False) W W2) : EachS w may l (i + 1) W2 := by
  have h1 := s.each
  rw [eachO_at hi, if_pos hk] at h1
  exact ⟨s.fr.trans f, h1⟩
theorem find_snd (l : List Hd) (n : List UInt8) : ∃ v : ByteArray, findV l n = .tuple #[.string v, .bool (findL l n).isSome] := by
  unfold findV
  cases findL l n with
  | none => exact ⟨_, rfl⟩
  | some v => exact ⟨_, rfl⟩
theorem each_in (q qz : Option Addr) (c cz : Nat) (l : List Hd) (zs : List ByteArray) (w : World) (hl : HL w q c l) (hz : StrsAt w qz zs) :
    Calls Tryz.prog 30 #[.slice q l.length c, .slice qz zs.length cz] w fun e w' => e = .returned (.int .i64 (eachO (zs.map tx) [] l)) ∧ Fr (fun _ => False) w w' := by
  have HLL : Hid (HL w q c l) := hl
  have HZ : Hid (StrsAt w qz zs) := hz
  have hfew := hl.few
  have hcap := hl.cap
  obtain ⟨len, hlen⟩ : ∃ len, l.length = len := ⟨_, rfl⟩
  have HN : Hid (l.length = len) := hlen
  obtain ⟨zn, hzn⟩ : ∃ zn, zs.length = zn := ⟨_, rfl⟩
  have HZN : Hid (zs.length = zn) := hzn
  obtain ⟨V, hV⟩ : ∃ V, eachO (zs.map tx) [] l = V := ⟨_, rfl⟩
  have HV : Hid (eachO (zs.map tx) [] l = V) := hV
  rw [hlen] at hfew hcap ⊢
  rw [hzn, hV]
  have S0 : Hid (EachS w (zs.map tx) l 0 w) := ⟨Fr.refl _ _, by rw [List.take_zero, List.drop_zero]⟩
  clear hl hz hlen hzn hV
  go_enter Tryz.func30, Tryz.ntmps30
  go_wp2_with (fail)
  go_loopw [5, 6] (fun x7 x14 wr => ∃ i : Nat, x7 = .bool (plainB (l.take i)) ∧ x14 = .int .i64 (i : Int) ∧ i ≤ len ∧ Hid (EachS w (zs.map tx) l i wr)) (fun _ x14 _ => len - (intOf x14).toNat)
  case atStart => exact ⟨0, by simp [plainB], rfl, by omega, S0.out⟩
  case round =>
    clear S0
    obtain ⟨i, rfl, rfl, hi, HS⟩ := hrel
    by_cases hlt : i < len
    · have hlt2 : (i : Int) < (len : Int) := by omega
      obtain ⟨x, hx⟩ : ∃ x, l[i]? = some x := ⟨_, List.getElem?_eq_getElem (by rw [HN.out]; exact hlt)⟩
      obtain ⟨b, o, rfl, hb, c0, c1, c2, hs⟩ := (HLL.out.fr HS.out.fr).cells i x hx
      have HX : Hid (l[i]? = some x) := hx
      obtain ⟨xn, xv, xs⟩ := x
      dsimp only at c0 c1 c2 hs
      have HSZ : Hid (xn.size < 2 ^ 47 ∧ xv.size < 2 ^ 47) := hs
      clear hx hs
      obtain ⟨p, hp⟩ : ∃ p, pseudoB (tx xn) = p := ⟨_, rfl⟩
      have HP : Hid (pseudoB (tx xn) = p) := hp
      have KH : Hid (∀ W, Calls Tryz.prog 53 #[.string xn] W fun e w' => e = .returned (.bool p) ∧ W = w') := fun W => by have := rPseudo_in xn W; rwa [hp] at this
      obtain ⟨nk, hnk⟩ : ∃ nk, nameOk (tx xn) = nk := ⟨_, rfl⟩
      have HNK : Hid (nameOk (tx xn) = nk) := hnk
      have KN : Hid (∀ W, Calls Tryz.prog 54 #[.string (bareS xn)] W fun e w' => e = .returned (.bool nk) ∧ W = w') := fun W => by
        have := rName_in (bareS xn) W (by have := HSZ.out.1; unfold bareS; split <;> (try rw [ByteArray.size_extract]) <;> omega)
        rw [bare_tx] at this
        rw [← hnk]
        exact this
      obtain ⟨vk, hvk⟩ : ∃ vk, valueB (tx xv) = vk := ⟨_, rfl⟩
      have HVK : Hid (valueB (tx xv) = vk) := hvk
      have KV : Hid (∀ W, Calls Tryz.prog 55 #[.string xv] W fun e w' => e = .returned (.bool vk) ∧ W = w') := fun W => by have := rValue_in xv W (by have := HSZ.out.2; omega); rwa [hvk] at this
      obtain ⟨mc, hmc⟩ : ∃ mc, (zs.map tx).contains (tx xn) = mc := ⟨_, rfl⟩
      have HMC : Hid ((zs.map tx).contains (tx xn) = mc) := hmc
      have KC : Hid (∀ W, Fr (fun _ => False) w W → Calls Tryz.prog 56 #[.slice qz zn cz, .string xn] W fun e w' => e = .returned (.bool mc) ∧ W = w') := fun W f => by
        have := rHas_in qz cz zs xn W (HZ.out.fr f (fun _ _ _ h => h))
        rwa [hmc, HZN.out] at this
      obtain ⟨bd, hbd⟩ : ∃ bd, boundB (tx xn) (tx xv) = bd := ⟨_, rfl⟩
      have HBD : Hid (boundB (tx xn) (tx xv) = bd) := hbd
      have KO : Hid (∀ W, Calls Tryz.prog 57 #[.agg #[.string xn, .string xv, .bool xs]] W fun e w' => e = .returned (.bool bd) ∧ Fr (fun _ => False) W w') := fun W => by have := rBound_in xn xv xs W; rwa [hbd] at this
      obtain ⟨pl, hpl⟩ : ∃ pl, plainB (l.take i) = pl := ⟨_, rfl⟩
      have HPL : Hid (plainB (l.take i) = pl) := hpl
      obtain ⟨fd, hfd⟩ : ∃ fd, (findL (l.take i) (tx xn)).isSome = fd := ⟨_, rfl⟩
      have HFD : Hid ((findL (l.take i) (tx xn)).isSome = fd) := hfd
      obtain ⟨fv, hfv⟩ := find_snd (l.take i) (tx xn)
      have KF : Hid (∀ W, Fr (fun _ => False) w W → Calls Tryz.prog 33 #[.slice (some ⟨b, o, none⟩) i c, .string xn] W fun e w' => e = .returned (.tuple #[.string fv, .bool fd]) ∧ W = w') := fun W f => by
        have := rFind_in (some ⟨b, o, none⟩) c (l.take i) xn W ((HLL.out.fr f).take i)
        rw [hfv, hfd, List.length_take, HN.out, Nat.min_eq_left hi] at this
        exact this
      rw [hpl]
      clear hp hnk hvk hmc hbd hpl hfd hfv
      cases p with
      | true =>
        have hb1 : bareS xn = xn.extract 1 xn.size := by unfold bareS; rw [if_pos HP.out]
        rw [hb1] at KN
        clear hb1
        have h1n : 1 ≤ xn.size := by
          rcases Nat.eq_zero_or_pos xn.size with h | h
          · have h2 : tx xn = [] := List.eq_nil_of_length_eq_zero (by rw [tx_len]; omega)
            have h3 := HP.out
            rw [h2] at h3
            cases h3
          · exact h
        have hsl : ∀ w : World, (Instr.slice 9 (.string xn) (some (.int .i64 1)) none none).run Tryz.prog w = .ok (.string (xn.extract 1 xn.size)) w := fun w => by
          rw [run_slice_string_from_if w 9 xn .i64 1 Tryz.underlying9, if_pos (by omega)]
          rfl
        generalize xn.extract 1 xn.size = bn at KN hsl
        have hbf : boundB (tx xn) (tx xv) = false := bound_pseudo HP.out
        have HBF : Hid (boundB (tx xn) (tx xv) = false) := hbf
        clear hbf KO HBD
        cases nk with
        | false =>
          have hv : V = 130 := by rw [← HV.out]; exact HS.out.err HX.out (stepE_name HNK.out) (by decide)
          clear HV
          subst hv
          go_wp2_with (fail)
          refine (KH.out _).mono ?_
          rintro e w1 ⟨rfl, rfl⟩
          go_wp2_with (fail)
          refine (KN.out _).mono ?_
          rintro e w1 ⟨rfl, rfl⟩
          go_wp2_with (fail)
          go_ret
          exact ⟨rfl, HS.out.fr⟩
        | true =>
          cases vk with
          | false =>
            have hv : V = 131 := by rw [← HV.out]; exact HS.out.err HX.out (stepE_value HNK.out HVK.out) (by decide)
            clear HV
            subst hv
            go_wp2_with (fail)
            refine (KH.out _).mono ?_
            rintro e w1 ⟨rfl, rfl⟩
            go_wp2_with (fail)
            refine (KN.out _).mono ?_
            rintro e w1 ⟨rfl, rfl⟩
            go_wp2_with (fail)
            refine (KH.out _).mono ?_
            rintro e w1 ⟨rfl, rfl⟩
            go_wp2_with (fail)
            refine (KV.out _).mono ?_
            rintro e w1 ⟨rfl, rfl⟩
            go_wp2_with (fail)
            go_ret
            exact ⟨rfl, HS.out.fr⟩
          | true =>
            cases pl with
            | true =>
              have hv : V = 132 := by rw [← HV.out]; exact HS.out.err HX.out (stepE_pseudo HNK.out HVK.out (by show (pseudoB (tx xn) && _) = true; rw [HP.out, HPL.out]; rfl)) (by decide)
              clear HV
              subst hv
              go_wp2_with (fail)
              refine (KH.out _).mono ?_
              rintro e w1 ⟨rfl, rfl⟩
              go_wp2_with (fail)
              refine (KN.out _).mono ?_
              rintro e w1 ⟨rfl, rfl⟩
              go_wp2_with (fail)
              refine (KH.out _).mono ?_
              rintro e w1 ⟨rfl, rfl⟩
              go_wp2_with (fail)
              refine (KV.out _).mono ?_
              rintro e w1 ⟨rfl, rfl⟩
              go_wp2_with (fail)
              refine (KH.out _).mono ?_
              rintro e w1 ⟨rfl, rfl⟩
              go_wp2_with (fail)
              refine (KF.out _ HS.out.fr).mono ?_
              rintro e w1 ⟨rfl, rfl⟩
              go_wp2_with (fail)
              go_ret
              exact ⟨rfl, HS.out.fr⟩
            | false =>
              cases fd with
              | true =>
                have hv : V = 132 := by rw [← HV.out]; exact HS.out.err HX.out (stepE_pseudo HNK.out HVK.out (by show (pseudoB (tx xn) && (plainB _ || !(zs.map tx).contains (tx xn) || (findL _ (tx xn)).isSome)) = true; rw [HP.out, HPL.out, HFD.out]; simp)) (by decide)
                clear HV
                subst hv
                go_wp2_with (fail)
                refine (KH.out _).mono ?_
                rintro e w1 ⟨rfl, rfl⟩
                go_wp2_with (fail)
                refine (KN.out _).mono ?_
                rintro e w1 ⟨rfl, rfl⟩
                go_wp2_with (fail)
                refine (KH.out _).mono ?_
                rintro e w1 ⟨rfl, rfl⟩
                go_wp2_with (fail)
                refine (KV.out _).mono ?_
                rintro e w1 ⟨rfl, rfl⟩
                go_wp2_with (fail)
                refine (KH.out _).mono ?_
                rintro e w1 ⟨rfl, rfl⟩
                go_wp2_with (fail)
                refine (KF.out _ HS.out.fr).mono ?_
                rintro e w1 ⟨rfl, rfl⟩
                go_wp2_with (fail)
                go_ret
                exact ⟨rfl, HS.out.fr⟩
              | false =>
                cases mc with
                | false =>
                  have hv : V = 132 := by rw [← HV.out]; exact HS.out.err HX.out (stepE_pseudo HNK.out HVK.out (by show (pseudoB (tx xn) && (plainB _ || !(zs.map tx).contains (tx xn) || (findL _ (tx xn)).isSome)) = true; rw [HP.out, HPL.out, HMC.out]; rfl)) (by decide)
                  clear HV
                  subst hv
                  go_wp2_with (fail)
                  refine (KH.out _).mono ?_
                  rintro e w1 ⟨rfl, rfl⟩
                  go_wp2_with (fail)
                  refine (KN.out _).mono ?_
                  rintro e w1 ⟨rfl, rfl⟩
                  go_wp2_with (fail)
                  refine (KH.out _).mono ?_
                  rintro e w1 ⟨rfl, rfl⟩
                  go_wp2_with (fail)
                  refine (KV.out _).mono ?_
                  rintro e w1 ⟨rfl, rfl⟩
                  go_wp2_with (fail)
                  refine (KH.out _).mono ?_
                  rintro e w1 ⟨rfl, rfl⟩
                  go_wp2_with (fail)
                  refine (KF.out _ HS.out.fr).mono ?_
                  rintro e w1 ⟨rfl, rfl⟩
                  go_wp2_with (fail)
                  refine (KC.out _ HS.out.fr).mono ?_
                  rintro e w1 ⟨rfl, rfl⟩
                  go_wp2_with (fail)
                  go_ret
                  exact ⟨rfl, HS.out.fr⟩
                | true =>
                  have SN : Hid (∀ W2, Fr (fun _ => False) wr W2 → EachS w (zs.map tx) l (i + 1) W2) := fun W2 f => HS.out.next HX.out (stepE_ok HNK.out HVK.out (by show (pseudoB (tx xn) && (plainB _ || !(zs.map tx).contains (tx xn) || (findL _ (tx xn)).isSome)) = false; rw [HP.out, HPL.out, HMC.out, HFD.out]; rfl) HBF.out) f
                  have HPN : Hid (plainB (l.take (i + 1)) = false) := by show _ = _; rw [plain_next HX.out]; show (_ || !pseudoB (tx xn)) = false; rw [HP.out, HPL.out]; rfl
                  go_wp2_with (fail)
                  refine (KH.out _).mono ?_
                  rintro e w1 ⟨rfl, rfl⟩
                  go_wp2_with (fail)
                  refine (KN.out _).mono ?_
                  rintro e w1 ⟨rfl, rfl⟩
                  go_wp2_with (fail)
                  refine (KH.out _).mono ?_
                  rintro e w1 ⟨rfl, rfl⟩
                  go_wp2_with (fail)
                  refine (KV.out _).mono ?_
                  rintro e w1 ⟨rfl, rfl⟩
                  go_wp2_with (fail)
                  refine (KH.out _).mono ?_
                  rintro e w1 ⟨rfl, rfl⟩
                  go_wp2_with (fail)
                  refine (KF.out _ HS.out.fr).mono ?_
                  rintro e w1 ⟨rfl, rfl⟩
                  go_wp2_with (fail)
                  refine (KC.out _ HS.out.fr).mono ?_
                  rintro e w1 ⟨rfl, rfl⟩
                  go_wp2_with (fail)
                  go_roundw
                  case rel => exact ⟨i + 1, by rw [HPN.out], by go_num, by omega, SN.out _ (Fr.refl _ _)⟩
                  case measure => simp [intOf]; omega
      | false =>
        have hb1 : bareS xn = xn := by unfold bareS; rw [if_neg (by rw [HP.out]; simp)]
        rw [hb1] at KN
        clear hb1 KF KC HMC HFD
        cases nk with
        | false =>
          have hv : V = 130 := by rw [← HV.out]; exact HS.out.err HX.out (stepE_name HNK.out) (by decide)
          clear HV
          subst hv
          go_wp2_with (fail)
          refine (KH.out _).mono ?_
          rintro e w1 ⟨rfl, rfl⟩
          go_wp2_with (fail)
          refine (KH.out _).mono ?_
          rintro e w1 ⟨rfl, rfl⟩
          go_wp2_with (fail)
          refine (KN.out _).mono ?_
          rintro e w1 ⟨rfl, rfl⟩
          go_wp2_with (fail)
          go_ret
          exact ⟨rfl, HS.out.fr⟩
        | true =>
          cases vk with
          | false =>
            have hv : V = 131 := by rw [← HV.out]; exact HS.out.err HX.out (stepE_value HNK.out HVK.out) (by decide)
            clear HV
            subst hv
            go_wp2_with (fail)
            refine (KH.out _).mono ?_
            rintro e w1 ⟨rfl, rfl⟩
            go_wp2_with (fail)
            refine (KH.out _).mono ?_
            rintro e w1 ⟨rfl, rfl⟩
            go_wp2_with (fail)
            refine (KN.out _).mono ?_
            rintro e w1 ⟨rfl, rfl⟩
            go_wp2_with (fail)
            refine (KV.out _).mono ?_
            rintro e w1 ⟨rfl, rfl⟩
            go_wp2_with (fail)
            go_ret
            exact ⟨rfl, HS.out.fr⟩
          | true =>
            cases bd with
            | true =>
              have hv : V = 133 := by rw [← HV.out]; exact HS.out.err HX.out (stepE_conn HNK.out HVK.out (by show (pseudoB (tx xn) && _) = false; rw [HP.out]; rfl) HBD.out) (by decide)
              clear HV
              subst hv
              go_wp2_with (fail)
              refine (KH.out _).mono ?_
              rintro e w1 ⟨rfl, rfl⟩
              go_wp2_with (fail)
              refine (KH.out _).mono ?_
              rintro e w1 ⟨rfl, rfl⟩
              go_wp2_with (fail)
              refine (KN.out _).mono ?_
              rintro e w1 ⟨rfl, rfl⟩
              go_wp2_with (fail)
              refine (KV.out _).mono ?_
              rintro e w1 ⟨rfl, rfl⟩
              go_wp2_with (fail)
              refine (KH.out _).mono ?_
              rintro e w1 ⟨rfl, rfl⟩
              go_wp2_with (fail)
              refine (KO.out _).mono ?_
              rintro e W4 ⟨rfl, f4⟩
              go_wp2_with (fail)
              go_ret
              exact ⟨rfl, HS.out.fr.trans f4⟩
            | false =>
              have SN : Hid (∀ W2, Fr (fun _ => False) wr W2 → EachS w (zs.map tx) l (i + 1) W2) := fun W2 f => HS.out.next HX.out (stepE_ok HNK.out HVK.out (by show (pseudoB (tx xn) && _) = false; rw [HP.out]; rfl) HBD.out) f
              have HPN : Hid (plainB (l.take (i + 1)) = true) := by show _ = _; rw [plain_next HX.out]; show (_ || !pseudoB (tx xn)) = true; rw [HP.out]; simp
              go_wp2_with (fail)
              refine (KH.out _).mono ?_
              rintro e w1 ⟨rfl, rfl⟩
              go_wp2_with (fail)
              refine (KH.out _).mono ?_
              rintro e w1 ⟨rfl, rfl⟩
              go_wp2_with (fail)
              refine (KN.out _).mono ?_
              rintro e w1 ⟨rfl, rfl⟩
              go_wp2_with (fail)
              refine (KV.out _).mono ?_
              rintro e w1 ⟨rfl, rfl⟩
              go_wp2_with (fail)
              refine (KH.out _).mono ?_
              rintro e w1 ⟨rfl, rfl⟩
              go_wp2_with (fail)
              refine (KO.out _).mono ?_
              rintro e W4 ⟨rfl, f4⟩
              go_wp2_with (fail)
              go_roundw
              case rel => exact ⟨i + 1, by rw [HPN.out], by go_num, by omega, SN.out _ f4⟩
              case measure => simp [intOf]; omega
    · have hlt2 : ¬ (i : Int) < (len : Int) := by omega
      have hv : V = 0 := by
        rw [← HV.out, ← HS.out.each]
        exact eachO_end (by rw [HN.out]; omega)
      clear HV
      subst hv
      go_wp2_with (fail)
      go_ret
      exact ⟨rfl, HS.out.fr⟩
end Go.Proofs.YtplggcfoadjffaaGreatDoor
