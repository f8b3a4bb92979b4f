/- The program's look: the headers one by one. -/
import Derived.Test.YtplggcfoadjffaaGreatDoorOm
import Derived.Test.YtplggcfoadjffaaGreatDoorOf
namespace Go.Proofs.YtplggcfoadjffaaGreatDoor
open Go.RowKit Go.Maps
set_option linter.unusedVariables false
set_option maxRecDepth 100000
set_option maxHeartbeats 8000000

/-- What look answers. -/
def LookAs (w : World) (may : List (List UInt8)) (l : List Hd) (e : Ending) (w' : World) : Prop :=
  Fr (fun _ => False) w w' ∧ ((eachO may [] l ≠ 0 ∧ e = .returned (.tuple #[.map none, .int .i64 (eachO may [] l)])) ∨ (eachO may [] l = 0 ∧ ∃ b n, e = .returned (.tuple #[.map (some b), .int .i64 0]) ∧ SMap w' b n (gotV l)))
/-- What is known in look's loop. -/
structure LookS (w : World) (may : List (List UInt8)) (l : List Hd) (i : Nat) (W : World) : Prop where
  fr : Fr (fun _ => False) w W
  map : ∃ n, n ≤ i ∧ SMap W w.heap.size n (gotV (l.take i))
  each : eachO may (l.take i) (l.drop i) = eachO may [] l
theorem stepE_name {may : List (List UInt8)} {d : List Hd} {h : Hd} (h1 : nameOk (tx h.1) = false) : stepE may d h = 130 := by unfold stepE; rw [if_pos h1]
theorem stepE_value {may : List (List UInt8)} {d : List Hd} {h : Hd} (h1 : nameOk (tx h.1) = true) (h2 : valueB (tx h.2.1) = false) : stepE may d h = 131 := by
  unfold stepE; rw [if_neg (by rw [h1]; simp), if_pos h2]
theorem stepE_pseudo {may : List (List UInt8)} {d : List Hd} {h : Hd} (h1 : nameOk (tx h.1) = true) (h2 : valueB (tx h.2.1) = true) (h3 : (pseudoB (tx h.1) && (plainB d || !may.contains (tx h.1) || (findL d (tx h.1)).isSome)) = true) : stepE may d h = 132 := by
  unfold stepE; rw [if_neg (by rw [h1]; simp), if_neg (by rw [h2]; simp), if_pos h3]
theorem stepE_conn {may : List (List UInt8)} {d : List Hd} {h : Hd} (h1 : nameOk (tx h.1) = true) (h2 : valueB (tx h.2.1) = true) (h3 : (pseudoB (tx h.1) && (plainB d || !may.contains (tx h.1) || (findL d (tx h.1)).isSome)) = false) (h4 : boundB (tx h.1) (tx h.2.1) = true) : stepE may d h = 133 := by
  unfold stepE; rw [if_neg (by rw [h1]; simp), if_neg (by rw [h2]; simp), if_neg (by rw [h3]; simp), if_pos h4]
theorem stepE_ok {may : List (List UInt8)} {d : List Hd} {h : Hd} (h1 : nameOk (tx h.1) = true) (h2 : valueB (tx h.2.1) = true) (h3 : (pseudoB (tx h.1) && (plainB d || !may.contains (tx h.1) || (findL d (tx h.1)).isSome)) = false) (h4 : boundB (tx h.1) (tx h.2.1) = false) : stepE may d h = 0 := by
  unfold stepE; rw [if_neg (by rw [h1]; simp), if_neg (by rw [h2]; simp), if_neg (by rw [h3]; simp), if_neg (by rw [h4]; simp)]
theorem LookS.err {w W : World} {may : List (List UInt8)} {l : List Hd} {i : Nat} {h : Hd} (s : LookS w may l i W) (hi : l[i]? = some h) {k : Int} (hk : stepE may (l.take i) h = k) (hn : k ≠ 0) {W2 : World} (f : Fr (fun _ => False) w W2) : LookAs w may l (.returned (.tuple #[.map none, .int .i64 k])) W2 := by
  have h1 := s.each
  rw [eachO_at hi, if_neg (by rw [hk]; exact hn), hk] at h1
  exact ⟨f, .inl ⟨by rw [← h1]; exact hn, by rw [← h1]⟩⟩
theorem LookS.next {w W : World} {may : List (List UInt8)} {l : List Hd} {i : Nat} {h : Hd} (s : LookS w may l i W) (hi : l[i]? = some h) (hk : stepE may (l.take i) h = 0) : eachO may (l.take (i + 1)) (l.drop (i + 1)) = eachO may [] l := by
  have h1 := s.each
  rwa [eachO_at hi, if_pos hk] at h1
theorem plain_next {l : List Hd} {i : Nat} {h : Hd} (hi : l[i]? = some h) : plainB (l.take (i + 1)) = (plainB (l.take i) || !pseudoB (tx h.1)) := by
  unfold plainB
  rw [List.take_add_one, hi, List.any_append]
  simp
theorem bound_pseudo {n v : List UInt8} (h : pseudoB n = true) : boundB n v = false := by
  refine bound_none ?_ ?_ ?_ ?_ ?_ ?_ <;> (rintro rfl; revert h; decide)
theorem LookS.end_ {w W : World} {may : List (List UInt8)} {l : List Hd} {i : Nat} (s : LookS w may l i W) (hi : l.length ≤ i) : LookAs w may l (.returned (.tuple #[.map (some w.heap.size), .int .i64 0])) W := by
  obtain ⟨n, hn, hm⟩ := s.map
  have h1 := s.each
  rw [eachO_end hi] at h1
  rw [List.take_of_length_le hi] at hm
  exact ⟨s.fr, .inr ⟨h1.symm, _, n, rfl, hm⟩⟩
theorem LookS.skip {w W W2 : World} {may : List (List UInt8)} {l : List Hd} {i : Nat} {h : Hd} (s : LookS w may l i W) (hi : l[i]? = some h) (hk : stepE may (l.take i) h = 0) (hp : pseudoB (tx h.1) = false) (f : Fr (fun _ => False) W W2) : LookS w may l (i + 1) W2 := by
  obtain ⟨n, hn, hm⟩ := s.map
  exact ⟨s.fr.trans f, ⟨n, by omega, by rw [got_skip hi hp]; exact hm.fr f id⟩, s.next hi hk⟩
theorem LookS.put {w W W2 : World} {may : List (List UInt8)} {l : List Hd} {i m : Nat} {h : Hd} (s : LookS w may l i W) (hi : l[i]? = some h) (hk : stepE may (l.take i) h = 0) (hp : pseudoB (tx h.1) = true) (hn : findL (l.take i) (tx h.1) = none)
    {W1 : World} (f : Fr (fun _ => False) w W1) (hm : SMap W2 w.heap.size m (putS (gotV (l.take i)) (tx h.1) (hdrV h))) (hmi : m ≤ i + 1) (f2 : Fr (fun k => k = w.heap.size) W1 W2) : LookS w may l (i + 1) W2 := by
  refine ⟨?_, ⟨m, hmi, by rw [got_put hi hp hn]; exact hm⟩, s.next hi hk⟩
  have f3 : Fr (fun k => k = w.heap.size) w W1 := f.mono (fun _ _ h => absurd h id)
  exact (f3.trans f2).mono (fun k hk e => by omega)
theorem look_in (q qz : Option Addr) (c cz : Nat) (l : List Hd) (zs : List ByteArray) (w : World) (hl : HL w q c l) (hz : StrsAt w qz zs) :
    Calls Tryz.prog 35 #[.slice q l.length c, .slice qz zs.length cz] w fun e w' => LookAs w (zs.map tx) l e w' := by
  have HLL : Hid (HL w q c l) := hl
  have HZ : Hid (StrsAt w qz zs) := hz
  have hfew := hl.few
  obtain ⟨len, hlen⟩ : ∃ len, l.length = len := ⟨_, rfl⟩
  have HN : Hid (l.length = len) := hlen
  obtain ⟨zn, hzn⟩ : ∃ zn, zs.length = zn := ⟨_, rfl⟩
  have HZN : Hid (zs.length = zn) := hzn
  rw [hlen] at hfew ⊢
  rw [hzn]
  have hmm := @run_makeMap Tryz.prog
  have S0 : Hid (LookS w (zs.map tx) l 0 (w.alloc (.map #[] 0))) := ⟨(Fr.refl _ _).alloc _, ⟨0, Nat.le_refl _, by rw [List.take_zero, got_nil]; exact smap_made w⟩, by rw [List.take_zero, List.drop_zero]⟩
  clear hl hz hlen hzn
  go_enter Tryz.func35, Tryz.ntmps35
  go_wp2_with (fail)
  generalize w.alloc (.map #[] 0) = wa at S0 ⊢
  go_loopw [7, 14] (fun x7 x14 wr => ∃ i : Nat, x7 = .bool (plainB (l.take i)) ∧ x14 = .int .i64 (i : Int) ∧ i ≤ len ∧ Hid (LookS w (zs.map tx) l i wr)) (fun _ x14 _ => len - (intOf x14).toNat)
  case atStart => exact ⟨0, by simp [plainB], rfl, by omega, S0.out⟩
  case round =>
    clear S0
    obtain ⟨i, rfl, rfl, hi, HS⟩ := hrel
    by_cases hlt : i < len
    · have hlt2 : (i : Int) < (len : Int) := by omega
      obtain ⟨x, hx⟩ : ∃ x, l[i]? = some x := ⟨_, List.getElem?_eq_getElem (by rw [HN.out]; exact hlt)⟩
      obtain ⟨b, o, rfl, hb, c0, c1, c2, hs⟩ := (HLL.out.fr HS.out.fr).cells i x hx
      have HX : Hid (l[i]? = some x) := hx
      obtain ⟨xn, xv, xs⟩ := x
      dsimp only at c0 c1 c2 hs
      have HSZ : Hid (xn.size < 2 ^ 47 ∧ xv.size < 2 ^ 47) := hs
      clear hx hs
      obtain ⟨W0, hW0⟩ : ∃ W0, wr.alloc (.cells #[.string xn, .string xv, .bool xs] 35) = W0 := ⟨_, rfl⟩
      have HF0 : Hid (Fr (fun _ => False) wr W0) := by show Fr _ _ _; rw [← hW0]; exact (Fr.refl _ _).alloc _
      have HC : Hid (∀ W, Fr (fun _ => False) W0 W → W.cell? ⟨wr.heap.size, 0, none⟩ = some (.string xn) ∧ W.cell? ⟨wr.heap.size, 1, none⟩ = some (.string xv) ∧ W.cell? ⟨wr.heap.size, 2, none⟩ = some (.bool xs)) := fun W f => by
        have hlt : wr.heap.size < W0.heap.size := by rw [← hW0]; simp
        refine ⟨(f.cell (p := ⟨wr.heap.size, 0, none⟩) hlt id).trans ?_, (f.cell (p := ⟨wr.heap.size, 1, none⟩) hlt id).trans ?_, (f.cell (p := ⟨wr.heap.size, 2, none⟩) hlt id).trans ?_⟩ <;> (rw [← hW0]; simp)
      obtain ⟨a0, a1, a2⟩ := HC.out W0 (Fr.refl _ _)
      obtain ⟨p, hp⟩ : ∃ p, pseudoB (tx xn) = p := ⟨_, rfl⟩
      have HP : Hid (pseudoB (tx xn) = p) := hp
      have KH : Hid (∀ W, Calls Tryz.prog 60 #[.string xn, .string ⟨#[58]⟩] W fun e w' => e = .returned (.bool p) ∧ W = w') := fun W => by have := HasPrefix_in xn W; rwa [hp] at this
      have KT : Hid (∀ W, Calls Tryz.prog 62 #[.string xn, .string ⟨#[58]⟩] W fun e w' => e = .returned (.string (bareS xn)) ∧ W = w') := fun W => TrimPrefix_in xn W (by have := HSZ.out.1; omega)
      obtain ⟨nk, hnk⟩ : ∃ nk, nameOk (tx xn) = nk := ⟨_, rfl⟩
      have HNK : Hid (nameOk (tx xn) = nk) := hnk
      have KN : Hid (∀ W, Calls Tryz.prog 61 #[.string (bareS xn)] W fun e w' => e = .returned (.bool nk) ∧ Fr (fun _ => False) W w') := fun W => by
        have := Name_in (bareS xn) W
        rw [bare_tx] at this
        rw [← hnk]
        exact this
      obtain ⟨vk, hvk⟩ : ∃ vk, valueB (tx xv) = vk := ⟨_, rfl⟩
      have HVK : Hid (valueB (tx xv) = vk) := hvk
      have KV : Hid (∀ W, Calls Tryz.prog 63 #[.string xv] W fun e w' => e = .returned (.bool vk) ∧ Fr (fun _ => False) W w') := fun W => by have := Value_in xv W (by have := HSZ.out.2; omega); rwa [hvk] at this
      obtain ⟨mc, hmc⟩ : ∃ mc, (zs.map tx).contains (tx xn) = mc := ⟨_, rfl⟩
      have HMC : Hid ((zs.map tx).contains (tx xn) = mc) := hmc
      have KC : Hid (∀ W, Fr (fun _ => False) w W → Calls Tryz.prog 64 #[.slice qz zn cz, .string xn] W fun e w' => e = .returned (.bool mc) ∧ W = w') := fun W f => by
        have := Contains_in qz cz zs xn W (HZ.out.fr f (fun _ _ _ h => h))
        rwa [hmc, HZN.out] at this
      obtain ⟨bd, hbd⟩ : ∃ bd, boundB (tx xn) (tx xv) = bd := ⟨_, rfl⟩
      have HBD : Hid (boundB (tx xn) (tx xv) = bd) := hbd
      have KO : Hid (∀ W, Calls Tryz.prog 66 #[.agg #[.string xn, .string xv, .bool xs]] W fun e w' => e = .returned (.bool bd) ∧ Fr (fun _ => False) W w') := fun W => by have := Conn_in xn xv xs W; rwa [hbd] at this
      obtain ⟨n, hni, hM⟩ := HS.out.map
      have HM : Hid (SMap wr w.heap.size n (gotV (l.take i)) ∧ n ≤ i) := ⟨hM, hni⟩
      have hz60 : xn.size < 2 ^ 60 := by have := HSZ.out.1; omega
      have KB : Hid (∀ W, Fr (fun _ => False) wr W → Calls Tryz.prog 65 #[.map (some w.heap.size), .string xn] W fun e w' => e = .returned (.bool (gotV (l.take i) (tx xn)).isSome) ∧ Fr (fun _ => False) W w') := fun W f => has_in w.heap.size n (l.take i) xn W (HM.out.1.fr f id) hz60
      obtain ⟨pl, hpl⟩ : ∃ pl, plainB (l.take i) = pl := ⟨_, rfl⟩
      have HPL : Hid (plainB (l.take i) = pl) := hpl
      rw [hpl]
      clear hp hnk hvk hmc hbd hM hni hpl
      generalize bareS xn = bn at KT KN
      cases nk with
      | false =>
        go_wp2_with (fail)
        refine (KH.out _).mono ?_
        rintro e w1 ⟨rfl, rfl⟩
        go_wp2_with (fail)
        refine (KT.out _).mono ?_
        rintro e w1 ⟨rfl, rfl⟩
        go_wp2_with (fail)
        refine (KN.out _).mono ?_
        rintro e W1 ⟨rfl, f1⟩
        clear a0 a1 a2
        obtain ⟨a0, a1, a2⟩ := HC.out W1 f1
        go_wp2_with (fail)
        go_ret2
        exact HS.out.err HX.out (stepE_name HNK.out) (by decide) (HS.out.fr.trans (HF0.out.trans (f1)))
      | true =>
        cases vk with
        | false =>
          go_wp2_with (fail)
          refine (KH.out _).mono ?_
          rintro e w1 ⟨rfl, rfl⟩
          go_wp2_with (fail)
          refine (KT.out _).mono ?_
          rintro e w1 ⟨rfl, rfl⟩
          go_wp2_with (fail)
          refine (KN.out _).mono ?_
          rintro e W1 ⟨rfl, f1⟩
          clear a0 a1 a2
          obtain ⟨a0, a1, a2⟩ := HC.out W1 f1
          go_wp2_with (fail)
          refine (KV.out _).mono ?_
          rintro e W2 ⟨rfl, f2⟩
          clear a0 a1 a2
          obtain ⟨a0, a1, a2⟩ := HC.out W2 (f1.trans f2)
          have HF2 : Hid (Fr (fun _ => False) W0 W2) := f1.trans f2
          clear f1 f2
          go_wp2_with (fail)
          go_ret2
          exact HS.out.err HX.out (stepE_value HNK.out HVK.out) (by decide) (HS.out.fr.trans (HF0.out.trans (HF2.out)))
        | true =>
          cases p with
          | false =>
            cases bd with
            | true =>
              go_wp2_with (fail)
              refine (KH.out _).mono ?_
              rintro e w1 ⟨rfl, rfl⟩
              go_wp2_with (fail)
              refine (KT.out _).mono ?_
              rintro e w1 ⟨rfl, rfl⟩
              go_wp2_with (fail)
              refine (KN.out _).mono ?_
              rintro e W1 ⟨rfl, f1⟩
              clear a0 a1 a2
              obtain ⟨a0, a1, a2⟩ := HC.out W1 f1
              go_wp2_with (fail)
              refine (KV.out _).mono ?_
              rintro e W2 ⟨rfl, f2⟩
              clear a0 a1 a2
              obtain ⟨a0, a1, a2⟩ := HC.out W2 (f1.trans f2)
              have HF2 : Hid (Fr (fun _ => False) W0 W2) := f1.trans f2
              clear f1 f2
              go_wp2_with (fail)
              refine (KO.out _).mono ?_
              rintro e W4 ⟨rfl, f4⟩
              clear a0 a1 a2
              obtain ⟨a0, a1, a2⟩ := HC.out W4 ((HF2.out).trans f4)
              go_wp2_with (fail)
              go_ret2
              exact HS.out.err HX.out (stepE_conn HNK.out HVK.out (by show (pseudoB (tx xn) && _) = false; rw [HP.out]; rfl) HBD.out) (by decide) (HS.out.fr.trans (HF0.out.trans (HF2.out.trans f4)))
            | false =>
              go_wp2_with (fail)
              refine (KH.out _).mono ?_
              rintro e w1 ⟨rfl, rfl⟩
              go_wp2_with (fail)
              refine (KT.out _).mono ?_
              rintro e w1 ⟨rfl, rfl⟩
              go_wp2_with (fail)
              refine (KN.out _).mono ?_
              rintro e W1 ⟨rfl, f1⟩
              clear a0 a1 a2
              obtain ⟨a0, a1, a2⟩ := HC.out W1 f1
              go_wp2_with (fail)
              refine (KV.out _).mono ?_
              rintro e W2 ⟨rfl, f2⟩
              clear a0 a1 a2
              obtain ⟨a0, a1, a2⟩ := HC.out W2 (f1.trans f2)
              have HF2 : Hid (Fr (fun _ => False) W0 W2) := f1.trans f2
              clear f1 f2
              go_wp2_with (fail)
              refine (KO.out _).mono ?_
              rintro e W4 ⟨rfl, f4⟩
              clear a0 a1 a2
              obtain ⟨a0, a1, a2⟩ := HC.out W4 ((HF2.out).trans f4)
              have SN : Hid (LookS w (zs.map tx) l (i + 1) W4) := HS.out.skip HX.out (stepE_ok HNK.out HVK.out (by show (pseudoB (tx xn) && _) = false; rw [HP.out]; rfl) HBD.out) HP.out (HF0.out.trans (HF2.out.trans f4))
              have HPN : Hid (plainB (l.take (i + 1)) = true) := by show _ = _; rw [plain_next HX.out]; show (_ || !pseudoB (tx xn)) = true; rw [HP.out]; simp
              clear HS HC HM KB KC
              go_wp2_with (fail)
              go_roundw
              case rel => exact ⟨i + 1, by rw [HPN.out], by go_num, by omega, SN.out⟩
              case measure => simp [intOf]; omega
          | true =>
            have hbf : bd = false := by rw [← HBD.out]; exact bound_pseudo HP.out
            clear HBD
            subst hbf
            cases pl with
            | true =>
              go_wp2_with (fail)
              refine (KH.out _).mono ?_
              rintro e w1 ⟨rfl, rfl⟩
              go_wp2_with (fail)
              refine (KT.out _).mono ?_
              rintro e w1 ⟨rfl, rfl⟩
              go_wp2_with (fail)
              refine (KN.out _).mono ?_
              rintro e W1 ⟨rfl, f1⟩
              clear a0 a1 a2
              obtain ⟨a0, a1, a2⟩ := HC.out W1 f1
              go_wp2_with (fail)
              refine (KV.out _).mono ?_
              rintro e W2 ⟨rfl, f2⟩
              clear a0 a1 a2
              obtain ⟨a0, a1, a2⟩ := HC.out W2 (f1.trans f2)
              have HF2 : Hid (Fr (fun _ => False) W0 W2) := f1.trans f2
              clear f1 f2
              go_wp2_with (fail)
              go_ret2
              exact HS.out.err HX.out (stepE_pseudo HNK.out HVK.out (by show (pseudoB (tx xn) && _) = true; rw [HP.out, HPL.out]; rfl)) (by decide) (HS.out.fr.trans (HF0.out.trans (HF2.out)))
            | false =>
              cases mc with
              | false =>
                go_wp2_with (fail)
                refine (KH.out _).mono ?_
                rintro e w1 ⟨rfl, rfl⟩
                go_wp2_with (fail)
                refine (KT.out _).mono ?_
                rintro e w1 ⟨rfl, rfl⟩
                go_wp2_with (fail)
                refine (KN.out _).mono ?_
                rintro e W1 ⟨rfl, f1⟩
                clear a0 a1 a2
                obtain ⟨a0, a1, a2⟩ := HC.out W1 f1
                go_wp2_with (fail)
                refine (KV.out _).mono ?_
                rintro e W2 ⟨rfl, f2⟩
                clear a0 a1 a2
                obtain ⟨a0, a1, a2⟩ := HC.out W2 (f1.trans f2)
                have HF2 : Hid (Fr (fun _ => False) W0 W2) := f1.trans f2
                clear f1 f2
                go_wp2_with (fail)
                refine (KC.out _ (HS.out.fr.trans (HF0.out.trans HF2.out))).mono ?_
                rintro e w1 ⟨rfl, rfl⟩
                go_wp2_with (fail)
                go_ret2
                exact HS.out.err HX.out (stepE_pseudo HNK.out HVK.out (by show (pseudoB (tx xn) && (plainB _ || !(zs.map tx).contains (tx xn) || _)) = true; rw [HP.out, HPL.out, HMC.out]; rfl)) (by decide) (HS.out.fr.trans (HF0.out.trans (HF2.out)))
              | true =>
                obtain ⟨fd, hfd⟩ : ∃ fd, (gotV (l.take i) (tx xn)).isSome = fd := ⟨_, rfl⟩
                have HFD : Hid ((findL (l.take i) (tx xn)).isSome = fd) := by show _ = _; rw [← hfd, got_has HP.out]
                cases fd with
                | true =>
                  go_wp2_with (fail)
                  refine (KH.out _).mono ?_
                  rintro e w1 ⟨rfl, rfl⟩
                  go_wp2_with (fail)
                  refine (KT.out _).mono ?_
                  rintro e w1 ⟨rfl, rfl⟩
                  go_wp2_with (fail)
                  refine (KN.out _).mono ?_
                  rintro e W1 ⟨rfl, f1⟩
                  clear a0 a1 a2
                  obtain ⟨a0, a1, a2⟩ := HC.out W1 f1
                  go_wp2_with (fail)
                  refine (KV.out _).mono ?_
                  rintro e W2 ⟨rfl, f2⟩
                  clear a0 a1 a2
                  obtain ⟨a0, a1, a2⟩ := HC.out W2 (f1.trans f2)
                  have HF2 : Hid (Fr (fun _ => False) W0 W2) := f1.trans f2
                  clear f1 f2
                  go_wp2_with (fail)
                  refine (KC.out _ (HS.out.fr.trans (HF0.out.trans HF2.out))).mono ?_
                  rintro e w1 ⟨rfl, rfl⟩
                  go_wp2_with (fail)
                  refine (KB.out _ (HF0.out.trans HF2.out)).mono ?_
                  rintro e W3 ⟨rfl, f3⟩
                  rw [hfd]
                  clear a0 a1 a2
                  obtain ⟨a0, a1, a2⟩ := HC.out W3 (HF2.out.trans f3)
                  go_wp2_with (fail)
                  go_ret2
                  exact HS.out.err HX.out (stepE_pseudo HNK.out HVK.out (by show (pseudoB (tx xn) && (plainB _ || !(zs.map tx).contains (tx xn) || (findL _ (tx xn)).isSome)) = true; rw [HP.out, HPL.out, HMC.out, HFD.out]; rfl)) (by decide) (HS.out.fr.trans (HF0.out.trans (HF2.out.trans f3)))
                | false =>
                  have HST : Hid (stepE (zs.map tx) (l.take i) (xn, xv, xs) = 0) := stepE_ok HNK.out HVK.out (by show (pseudoB (tx xn) && (plainB _ || !(zs.map tx).contains (tx xn) || (findL _ (tx xn)).isSome)) = false; rw [HP.out, HPL.out, HMC.out, HFD.out]; rfl) (bound_pseudo HP.out)
                  have HFN : Hid (findL (l.take i) (tx xn) = none) := by
                    have := HFD.out
                    show _ = none
                    cases h : findL (l.take i) (tx xn) with
                    | none => rfl
                    | some v => rw [h] at this; cases this
                  have HPN : Hid (plainB (l.take (i + 1)) = false) := by show _ = _; rw [plain_next HX.out]; show (_ || !pseudoB (tx xn)) = false; rw [HP.out, HPL.out]; rfl
                  go_wp2_with (fail)
                  refine (KH.out _).mono ?_
                  rintro e w1 ⟨rfl, rfl⟩
                  go_wp2_with (fail)
                  refine (KT.out _).mono ?_
                  rintro e w1 ⟨rfl, rfl⟩
                  go_wp2_with (fail)
                  refine (KN.out _).mono ?_
                  rintro e W1 ⟨rfl, f1⟩
                  clear a0 a1 a2
                  obtain ⟨a0, a1, a2⟩ := HC.out W1 f1
                  go_wp2_with (fail)
                  refine (KV.out _).mono ?_
                  rintro e W2 ⟨rfl, f2⟩
                  clear a0 a1 a2
                  obtain ⟨a0, a1, a2⟩ := HC.out W2 (f1.trans f2)
                  have HF2 : Hid (Fr (fun _ => False) W0 W2) := f1.trans f2
                  clear f1 f2
                  go_wp2_with (fail)
                  refine (KC.out _ (HS.out.fr.trans (HF0.out.trans HF2.out))).mono ?_
                  rintro e w1 ⟨rfl, rfl⟩
                  go_wp2_with (fail)
                  refine (KB.out _ (HF0.out.trans HF2.out)).mono ?_
                  rintro e W3 ⟨rfl, f3⟩
                  rw [hfd]
                  clear a0 a1 a2
                  obtain ⟨a0, a1, a2⟩ := HC.out W3 (HF2.out.trans f3)
                  go_wp2_with (fail)
                  refine (KO.out _).mono ?_
                  rintro e W4 ⟨rfl, f4⟩
                  clear a0 a1 a2
                  obtain ⟨a0, a1, a2⟩ := HC.out W4 ((HF2.out.trans f3).trans f4)
                  have f04 : Fr (fun _ => False) wr W4 := HF0.out.trans ((HF2.out.trans f3).trans f4)
                  have hM4 : SMap W4 w.heap.size n (gotV (l.take i)) := HM.out.1.fr f04 id
                  have hn2 : n < maxLen := by have := HM.out.2; unfold maxLen; omega
                  have HF4 : Hid (Fr (fun _ => False) w W4) := HS.out.fr.trans f04
                  clear f3 f4 f04
                  go_wp2_with (refine wpList_sput rfl (.tmp 55) (.tmp 57) (.tmp 58) 63 (.inl rfl) 35 Tryz.underlying63 w.heap.size n (gotV (l.take i)) rfl hM4 hn2 xn rfl (by unfold maxLen; omega) (hdrV (xn, xv, xs)) rfl ?_; intro W5 hM5 f5 s5)
                  have SN : Hid (LookS w (zs.map tx) l (i + 1) W5) := by
                    rw [hfd] at hM5
                    exact HS.out.put HX.out HST.out HP.out HFN.out HF4.out hM5 (by have := HM.out.2; simp; omega) f5
                  go_roundw
                  case rel => exact ⟨i + 1, by rw [HPN.out], by go_num, by omega, SN.out⟩
                  case measure => simp [intOf]; omega
    · have hlt2 : ¬ (i : Int) < (len : Int) := by omega
      go_wp2_with (fail)
      go_ret2
      exact HS.out.end_ (by rw [HN.out]; omega)
end Go.Proofs.YtplggcfoadjffaaGreatDoor
