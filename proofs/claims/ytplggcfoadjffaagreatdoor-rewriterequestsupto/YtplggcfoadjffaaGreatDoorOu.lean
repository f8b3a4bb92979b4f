/- Responses: the document's. -/
import Derived.Test.YtplggcfoadjffaaGreatDoorOs
namespace Go.Proofs.YtplggcfoadjffaaGreatDoor
open Go.RowKit Go.Maps
set_option linter.unusedVariables false
set_option maxRecDepth 100000
set_option maxHeartbeats 8000000

theorem status_short {s : List UInt8} (h : ¬ s.length = 3) : statusB s = false := by
  unfold statusB
  cases hd : digsB 3 s with
  | false => rfl
  | true =>
    unfold digsB at hd
    simp only [Bool.and_eq_true, decide_eq_true_eq] at hd
    have h1 := num_lt hd.1.1 s.length
    rw [List.take_length] at h1
    have h2 : 10 ^ s.length ≤ 10 ^ 2 := Nat.pow_le_pow_right (by omega) (by omega)
    rw [decide_eq_false (by omega : ¬ 100 ≤ numL s)]
    rfl
theorem status_undigs {s : List UInt8} (h3 : s.length = 3) (h : digsB 9 s = false) : statusB s = false := by
  have : digsB 3 s = false := by
    unfold digsB at h ⊢
    rw [h3] at h ⊢
    exact h
  unfold statusB
  rw [this]
  rfl
theorem status_three {s : List UInt8} {a b c : UInt8} (hs : s = [a, b, c]) (h : digsB 9 s = true) :
    48 ≤ a.toNat ∧ a.toNat ≤ 57 ∧ 48 ≤ b.toNat ∧ b.toNat ≤ 57 ∧ 48 ≤ c.toNat ∧ c.toNat ≤ 57 ∧ numL s = 100 * (a.toNat - 48) + 10 * (b.toNat - 48) + (c.toNat - 48) ∧ (statusB s = true ↔ 49 ≤ a.toNat ∧ a.toNat ≤ 53) := by
  subst hs
  unfold digsB digB at h
  simp only [List.all_cons, List.all_nil, Bool.and_true, Bool.and_eq_true, decide_eq_true_eq] at h
  obtain ⟨⟨⟨ha, hb, hc⟩, _⟩, _⟩ := h
  have hn : numL [a, b, c] = 100 * (a.toNat - 48) + 10 * (b.toNat - 48) + (c.toNat - 48) := by
    unfold numL
    simp only [List.foldl_cons, List.foldl_nil]
    omega
  refine ⟨ha.1, ha.2, hb.1, hb.2, hc.1, hc.2, hn, ?_⟩
  have hd : digsB 3 [a, b, c] = true := by
    unfold digsB digB
    simp [ha, hb, hc]
  unfold statusB
  rw [hd, hn]
  simp only [Bool.true_and, Bool.and_eq_true, decide_eq_true_eq]
  omega
theorem three_at {s : ByteArray} (h : s.size = 3) : tx s = [s[0]'(by omega), s[1]'(by omega), s[2]'(by omega)] := by
  apply List.ext_getElem?
  intro i
  match i with
  | 0 => rw [tx_at s 0 (by omega)]; rfl
  | 1 => rw [tx_at s 1 (by omega)]; rfl
  | 2 => rw [tx_at s 2 (by omega)]; rfl
  | i + 3 =>
    rw [List.getElem?_eq_none (by rw [tx_len]; omega)]
    rfl
theorem rResponse_in (q : Option Addr) (c : Nat) (l : List Hd) (w : World) (hl : HL w q c l) :
    Calls Tryz.prog 15 #[.slice q l.length c] w fun e w' => e = .returned (.tuple #[.int .i64 (((responseO l).1 : Nat) : Int), .int .i64 (responseO l).2]) ∧ Fr (fun _ => False) w w' := by
  obtain ⟨W0, hW0⟩ : ∃ W0, w.alloc (.cells #[.string ⟨#[58, 115, 116, 97, 116, 117, 115]⟩] 9) = W0 := ⟨_, rfl⟩
  have f0 : Fr (fun _ => False) w W0 := by rw [← hW0]; exact (Fr.refl _ _).alloc _
  have hz : StrsAt W0 (some ⟨w.heap.size, 0, none⟩) resS := by rw [← hW0]; exact strs_new w resS 9 (by decide)
  have KL : Calls Tryz.prog 30 #[.slice q l.length c, .slice (some ⟨w.heap.size, 0, none⟩) 1 1] W0 fun e w' => e = .returned (.int .i64 (eachO [sStatus] [] l)) ∧ Fr (fun _ => False) W0 w' := each_in q _ c 1 l resS W0 (hl.fr f0) hz
  have KLn : Hid (∀ W, Fr (fun _ => False) w W → Calls Tryz.prog 32 #[.slice q l.length c] W fun e w' => e = .returned (lengthV l) ∧ W = w') := fun W f => rLength_in q c l W (hl.fr f)
  obtain ⟨sv, hsv, hval⟩ := find_both l sStatus
  have KF : Hid (∀ W, Fr (fun _ => False) w W → Calls Tryz.prog 33 #[.slice q l.length c, .string ⟨#[58, 115, 116, 97, 116, 117, 115]⟩] W fun e w' => e = .returned (.tuple #[.string sv, .bool (hasO l sStatus)]) ∧ W = w') := fun W f => by
    have := rFind_in q c l ⟨#[58, 115, 116, 97, 116, 117, 115]⟩ W (hl.fr f)
    rw [show tx ⟨#[58, 115, 116, 97, 116, 117, 115]⟩ = sStatus from rfl, hsv] at this
    exact this
  have HR : Hid (responseO l = if eachO [sStatus] [] l = 0 then (if statusB (valO l sStatus) then (if (lengthO l).2.2 = 0 then (numL (valO l sStatus), 0) else (0, (lengthO l).2.2)) else (0, 132)) else (0, eachO [sStatus] [] l)) := rfl
  have HNO : Hid (hasO l sStatus = false → statusB (tx sv) = false) := fun h => by rw [hval, val_none h]; rfl
  rw [← hval] at HR
  have hsz : hasO l sStatus = true → sv.size < 2 ^ 60 := fun h => by
    unfold hasO at h
    cases hf : findL l sStatus with
    | none => rw [hf] at h; cases h
    | some v =>
      obtain ⟨x, hx, hxn, hxv⟩ := findL_mem hf
      obtain ⟨i, hi⟩ := List.getElem?_of_mem hx
      obtain ⟨b, o, _, _, _, _, _, h1, h2⟩ := hl.cells i x hi
      have : sv = v := by unfold findV at hsv; rw [hf] at hsv; exact (by simpa using hsv.symm : sv = v ∧ _).1
      rw [this, ← hxv]
      omega
  unfold lengthV at KLn
  generalize responseO l = V at HR ⊢
  generalize eachO [sStatus] [] l = E at HR KL
  generalize (((lengthO l).1 : Nat) : Int) = ln at KLn
  generalize (lengthO l).2.1 = lb at KLn
  generalize (lengthO l).2.2 = le at HR KLn
  generalize hasO l sStatus = is at KF HNO hsz
  generalize l.length = len at KL KLn KF ⊢
  clear hval hsv hl hz
  by_cases hE0 : E = 0
  · subst hE0
    have HR2 : Hid (V = if statusB (tx sv) then (if le = 0 then (numL (tx sv), 0) else (0, le)) else (0, 132)) := by have := HR.out; rwa [if_pos rfl] at this
    clear HR
    cases is with
    | false =>
      have hst : statusB (tx sv) = false := HNO.out rfl
      clear HNO KLn hsz
      have hv : V = (0, 132) := by have := HR2.out; rwa [if_neg (by rw [hst]; simp)] at this
      clear HR2 hst
      subst hv
      go_enter Tryz.func15, Tryz.ntmps15
      go_wp2_with (fail)
      refine KL.mono ?_
      rintro e w1 ⟨rfl, f1⟩
      go_wp2_with (fail)
      refine (KF.out _ (f0.trans f1)).mono ?_
      rintro e w2 ⟨rfl, rfl⟩
      go_wp2_with (fail)
      go_ret2
      exact ⟨rfl, f0.trans f1⟩
    | true =>
      have hs60 := hsz rfl
      clear HNO hsz
      have KD : Hid (∀ W, Calls Tryz.prog 34 #[.string sv] W fun e w' => e = .returned (.bool (digsB 9 (tx sv))) ∧ W = w') := fun W => digits_in sv W hs60
      by_cases h3 : sv.size = 3
      · have h3i : (sv.size : Int) = 3 := by omega
        obtain ⟨d, hd⟩ : ∃ d, digsB 9 (tx sv) = d := ⟨_, rfl⟩
        rw [hd] at KD
        cases d with
        | false =>
          have hst : statusB (tx sv) = false := status_undigs (by rw [tx_len]; exact h3) hd
          clear KLn hd
          have hv : V = (0, 132) := by have := HR2.out; rwa [if_neg (by rw [hst]; simp)] at this
          clear HR2 hst
          subst hv
          go_enter Tryz.func15, Tryz.ntmps15
          go_wp2_with (fail)
          refine KL.mono ?_
          rintro e w1 ⟨rfl, f1⟩
          go_wp2_with (fail)
          refine (KF.out _ (f0.trans f1)).mono ?_
          rintro e w2 ⟨rfl, rfl⟩
          go_wp2_with (fail)
          refine (KD.out _).mono ?_
          rintro e w2 ⟨rfl, rfl⟩
          go_wp2_with (fail)
          go_ret2
          exact ⟨rfl, f0.trans f1⟩
        | true =>
          obtain ⟨a1, a2, b1, b2, c1, c2, hn, hst⟩ := status_three (three_at h3) hd
          have hi0 : ∀ w : World, (Instr.index 9 (.string sv) (.int .i64 0)).run Tryz.prog w = .ok (.int .u8 ((sv[0]'(by omega)).toNat : Int)) w := index_tx sv 0 (by omega)
          have hi1 : ∀ w : World, (Instr.index 9 (.string sv) (.int .i64 1)).run Tryz.prog w = .ok (.int .u8 ((sv[1]'(by omega)).toNat : Int)) w := index_tx sv 1 (by omega)
          have hi2 : ∀ w : World, (Instr.index 9 (.string sv) (.int .i64 2)).run Tryz.prog w = .ok (.int .u8 ((sv[2]'(by omega)).toNat : Int)) w := index_tx sv 2 (by omega)
          generalize (sv[0]'(by omega)).toNat = A at a1 a2 hn hst hi0
          generalize (sv[1]'(by omega)).toNat = B at b1 b2 hn hi1
          generalize (sv[2]'(by omega)).toNat = C at c1 c2 hn hi2
          obtain ⟨x, rfl⟩ : ∃ x : Nat, A = x + 48 := ⟨A - 48, by omega⟩
          obtain ⟨y, rfl⟩ : ∃ y : Nat, B = y + 48 := ⟨B - 48, by omega⟩
          obtain ⟨z, rfl⟩ : ∃ z : Nat, C = z + 48 := ⟨C - 48, by omega⟩
          have hx : IntKind.u8.wrap (((x + 48 : Nat) : Int) - 48) = (x : Int) := by
            have : ((x + 48 : Nat) : Int) - 48 = (x : Int) := by omega
            rw [this]
            exact wrap_u8 (by omega)
          have hy : IntKind.u8.wrap (((y + 48 : Nat) : Int) - 48) = (y : Int) := by
            have : ((y + 48 : Nat) : Int) - 48 = (y : Int) := by omega
            rw [this]
            exact wrap_u8 (by omega)
          have hz : IntKind.u8.wrap (((z + 48 : Nat) : Int) - 48) = (z : Int) := by
            have : ((z + 48 : Nat) : Int) - 48 = (z : Int) := by omega
            rw [this]
            exact wrap_u8 (by omega)
          clear hd
          by_cases g1 : x < 1
          · have hst : statusB (tx sv) = false := by
              cases h : statusB (tx sv) with
              | false => rfl
              | true => have := hst.1 h; omega
            clear KLn hn
            have hv : V = (0, 132) := by have := HR2.out; rwa [if_neg (by rw [hst]; simp)] at this
            clear HR2 hst
            subst hv
            go_enter Tryz.func15, Tryz.ntmps15
            go_wp2_with (fail)
            refine KL.mono ?_
            rintro e w1 ⟨rfl, f1⟩
            go_wp2_with (fail)
            refine (KF.out _ (f0.trans f1)).mono ?_
            rintro e w2 ⟨rfl, rfl⟩
            go_wp2_with (fail)
            refine (KD.out _).mono ?_
            rintro e w2 ⟨rfl, rfl⟩
            go_wp2_with (fail)
            go_ret2
            exact ⟨rfl, f0.trans f1⟩
          by_cases g2 : 5 < x
          · have hst : statusB (tx sv) = false := by
              cases h : statusB (tx sv) with
              | false => rfl
              | true => have := hst.1 h; omega
            clear KLn hn
            have hv : V = (0, 132) := by have := HR2.out; rwa [if_neg (by rw [hst]; simp)] at this
            clear HR2 hst
            subst hv
            go_enter Tryz.func15, Tryz.ntmps15
            go_wp2_with (fail)
            refine KL.mono ?_
            rintro e w1 ⟨rfl, f1⟩
            go_wp2_with (fail)
            refine (KF.out _ (f0.trans f1)).mono ?_
            rintro e w2 ⟨rfl, rfl⟩
            go_wp2_with (fail)
            refine (KD.out _).mono ?_
            rintro e w2 ⟨rfl, rfl⟩
            go_wp2_with (fail)
            go_ret2
            exact ⟨rfl, f0.trans f1⟩
          have hst2 : statusB (tx sv) = true := hst.2 (by omega)
          have HR3 : Hid (V = if le = 0 then (100 * x + 10 * y + z, 0) else (0, le)) := by
            have := HR2.out
            rw [if_pos hst2] at this
            have hn2 : numL (tx sv) = 100 * x + 10 * y + z := by omega
            rwa [hn2] at this
          clear HR2 hst hst2 hn
          by_cases hle : le = 0
          · have hv : V = (100 * x + 10 * y + z, 0) := by have := HR3.out; rwa [if_pos hle] at this
            clear HR3
            subst hv
            subst hle
            go_enter Tryz.func15, Tryz.ntmps15
            go_wp2_with (fail)
            refine KL.mono ?_
            rintro e w1 ⟨rfl, f1⟩
            go_wp2_with (fail)
            refine (KF.out _ (f0.trans f1)).mono ?_
            rintro e w2 ⟨rfl, rfl⟩
            go_wp2_with (fail)
            refine (KD.out _).mono ?_
            rintro e w2 ⟨rfl, rfl⟩
            go_wp2_with (fail)
            refine (KLn.out _ (f0.trans f1)).mono ?_
            rintro e w3 ⟨rfl, rfl⟩
            go_wp2_with (fail)
            go_quiet (fail)
            go_wp2_with (fail)
            go_ret2
            refine ⟨?_, (f0.trans f1).drewN _⟩
            show Ending.returned (.tuple #[.int .i64 (100 * (x : Int) + 10 * (y : Int) + (z : Int)), .int .i64 0]) = _
            have hcast : ((100 * x + 10 * y + z : Nat) : Int) = 100 * (x : Int) + 10 * (y : Int) + (z : Int) := by omega
            rw [← hcast]
          · have hv : V = (0, le) := by have := HR3.out; rwa [if_neg hle] at this
            have hne : (le == 0) = false := beq_eq_false_iff_ne.2 hle
            have hne2 : (le != 0) = true := by unfold bne; rw [hne]; rfl
            clear HR3
            subst hv
            go_enter Tryz.func15, Tryz.ntmps15
            go_wp2_with (fail)
            refine KL.mono ?_
            rintro e w1 ⟨rfl, f1⟩
            go_wp2_with (fail)
            refine (KF.out _ (f0.trans f1)).mono ?_
            rintro e w2 ⟨rfl, rfl⟩
            go_wp2_with (fail)
            refine (KD.out _).mono ?_
            rintro e w2 ⟨rfl, rfl⟩
            go_wp2_with (fail)
            refine (KLn.out _ (f0.trans f1)).mono ?_
            rintro e w3 ⟨rfl, rfl⟩
            go_wp2_with (fail)
            go_ret2
            exact ⟨rfl, f0.trans f1⟩
      · have h3i : ¬ (sv.size : Int) = 3 := by omega
        have h3j : ((sv.size : Int) == 3) = false := beq_eq_false_iff_ne.2 h3i
        have h3k : ((sv.size : Int) != 3) = true := by unfold bne; rw [h3j]; rfl
        have hst : statusB (tx sv) = false := status_short (by rw [tx_len]; exact h3)
        clear KLn KD
        have hv : V = (0, 132) := by have := HR2.out; rwa [if_neg (by rw [hst]; simp)] at this
        clear HR2 hst
        subst hv
        go_enter Tryz.func15, Tryz.ntmps15
        go_wp2_with (fail)
        refine KL.mono ?_
        rintro e w1 ⟨rfl, f1⟩
        go_wp2_with (fail)
        refine (KF.out _ (f0.trans f1)).mono ?_
        rintro e w2 ⟨rfl, rfl⟩
        go_wp2_with (fail)
        go_ret2
        exact ⟨rfl, f0.trans f1⟩
  · have hv : V = (0, E) := by have := HR.out; rwa [if_neg hE0] at this
    have hne : (E == 0) = false := beq_eq_false_iff_ne.2 hE0
    have hne2 : (E != 0) = true := by unfold bne; rw [hne]; rfl
    clear HR KLn KF HNO hsz
    subst hv
    go_enter Tryz.func15, Tryz.ntmps15
    go_wp2_with (fail)
    refine KL.mono ?_
    rintro e w1 ⟨rfl, f1⟩
    go_wp2_with (fail)
    go_ret2
    exact ⟨rfl, f0.trans f1⟩
end Go.Proofs.YtplggcfoadjffaaGreatDoor
