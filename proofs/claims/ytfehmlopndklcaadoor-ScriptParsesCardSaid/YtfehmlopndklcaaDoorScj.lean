/- A word is read. -/
import Derived.Test.YtfehmlopndklcaaDoorScg
import Derived.Test.YtfehmlopndklcaaDoorScs
namespace Go.Proofs.YtfehmlopndklcaaDoor
open Go.RowKit
set_option maxRecDepth 100000
set_option maxHeartbeats 4000000
set_option linter.unusedVariables false

theorem pre_has (l : List UInt8) : Lib.hasPrefix l [61] = decide (l.head? = some 61) := by
  cases l with
  | nil => rfl
  | cons c r =>
    simp only [Lib.hasPrefix, List.isPrefixOf, List.head?_cons, Option.some.injEq, Bool.and_true]
    by_cases h : c = 61
    · subst h; rfl
    · rw [decide_eq_false h]
      simpa using fun e => h e.symm
theorem pre_trim (l : List UInt8) (h : l.head? = some 61) : Lib.trimPrefix l [61] = l.tail := by
  unfold Lib.trimPrefix
  rw [pre_has, decide_eq_true h]
  simp
theorem cutP_in (s : ByteArray) (w : World) : Calls Tryd.prog 34 #[.string s, .string ⟨#[61]⟩] w fun e w' => e = .returned (.tuple #[.string ⟨(Lib.trimPrefix (tx s) [61]).toArray⟩, .bool (decide ((tx s).head? = some 61))]) ∧ w = w' :=
  (Any.strings_CutPrefix oCutP s ⟨#[61]⟩ w).mono fun e w' h => ⟨by rw [h.1, ← pre_has]; rfl, h.2.symm⟩
/-- What readWord answers. -/
def WordAs (s : ByteArray) (w : World) (e : Ending) (w' : World) : Prop := Fr (fun _ => False) w w' ∧
  ((wordO (tx s) = none ∧ e = .returned (.tuple #[.nilIface, .iface 25 (.int .i64 4)])) ∨ ∃ wd v, wordO (tx s) = some wd ∧ e = .returned (.tuple #[v, .nilIface]) ∧ WAt w' v wd)
theorem tx_tail_size (s : ByteArray) : (⟨(tx s).tail.toArray⟩ : ByteArray).size ≤ s.size := by
  show (tx s).tail.toArray.size ≤ s.size
  rw [List.size_toArray, List.length_tail, tx_len]
  omega
theorem num_cases (o : Option Nat) : (o = none ∧ numA o = .tuple #[.nilIface, .iface 25 (.int .i64 4)]) ∨ ∃ n, o = some n ∧ numA o = .tuple #[.iface 86 (.int .i64 (n : Int)), .nilIface] := by
  cases o with
  | none => exact .inl ⟨rfl, rfl⟩
  | some n => exact .inr ⟨n, rfl, rfl⟩
theorem readWord_in (s : ByteArray) (w : World) (hb : s.size ≤ 100000) : Calls Tryd.prog 24 #[.string s] w (WordAs s w) := by
  have KC := cutP_in s w
  by_cases h61 : (tx s).head? = some 61
  · have HW : Hid (wordO (tx s) = (hexO (tx s).tail).map fun b => .inr (.inr b)) := by show _ = _; unfold wordO; rw [if_pos h61]
    rw [decide_eq_true h61, pre_trim _ h61] at KC
    obtain ⟨u, hu⟩ : ∃ u : ByteArray, (⟨(tx s).tail.toArray⟩ : ByteArray) = u := ⟨_, rfl⟩
    have hus : u.size ≤ 100000 := by rw [← hu]; exact Nat.le_trans (tx_tail_size s) hb
    have HU : Hid (tx u = (tx s).tail) := by show _ = _; rw [← hu]; exact tx_mk _
    rw [hu] at KC
    clear hu h61
    have KD := readData_in u w hus
    go_enter Tryd.func24, Tryd.ntmps24
    go_wp2_with (fail)
    refine KC.mono ?_
    rintro e w' ⟨rfl, rfl⟩
    go_wp2_with (fail)
    refine KD.mono ?_
    rintro e w' (⟨h1, rfl, hf⟩ | ⟨out, v, h1, rfl, hg⟩)
    · have HN : Hid (wordO (tx s) = none) := by show _ = _; rw [HW.out, ← HU.out, h1]; rfl
      clear h1
      go_wp2_with (fail)
      go_ret2
      exact ⟨hf, .inl ⟨HN.out, rfl⟩⟩
    · have HN : Hid (wordO (tx s) = some (.inr (.inr out))) := by show _ = _; rw [HW.out, ← HU.out, h1]; rfl
      have HG : Hid (Gath w w' v out) := hg
      clear h1 hg
      go_wp2_with (fail)
      go_ret2
      exact ⟨HG.out.2.2, .inr ⟨_, _, HN.out, rfl, _, rfl, BAt.of_own HG.out.1⟩⟩
  · rw [decide_eq_false h61] at KC
    have HW : Hid (wordO (tx s) = if isDig (tx s) = true then (numO (tx s)).map fun n => .inr (.inl n) else some (.inl (tx s))) := by show _ = _; unfold wordO; rw [if_neg h61]
    clear h61
    generalize Lib.trimPrefix (tx s) [61] = cutT at KC
    by_cases h0 : s.size = 0
    · have he : s = ⟨#[]⟩ := by
        refine tx_ext ?_
        have := tx_len s
        rw [h0] at this
        rw [List.eq_nil_of_length_eq_zero this]
        rfl
      subst he
      have HN : Hid (wordO (tx ⟨#[]⟩) = some (.inl [])) := by show _ = _; rw [HW.out]; rfl
      clear HW h0 hb
      go_enter Tryd.func24, Tryd.ntmps24
      go_wp2_with (fail)
      refine KC.mono ?_
      rintro e w' ⟨rfl, rfl⟩
      go_wp2_with (fail)
      go_ret2
      exact ⟨Fr.refl _ _, .inr ⟨_, _, HN.out, rfl, rfl⟩⟩
    · have h0' : 0 < s.size := by omega
      obtain ⟨c, hc⟩ : ∃ c, (s[0]'h0') = c := ⟨_, rfl⟩
      have hix : ∀ w : World, (Instr.index 9 (.string s) (.int .i64 0)).run Tryd.prog w = .ok (.int .u8 ((c.toNat : Nat) : Int)) w := fun w => by
        rw [run_index_string w 9 s .i64 0 Tryd.underlying9, dif_pos (by omega), ← hc]
        rfl
      have hhd : ∃ r, tx s = c :: r := by
        have e := tx_at s 0 h0'
        rw [hc] at e
        cases hx : tx s with
        | nil => rw [hx] at e; cases e
        | cons a r => rw [hx] at e; simp at e; subst e; exact ⟨r, rfl⟩
      have HD : Hid (isDig (tx s) = (dg 10 c).isSome) := by
        obtain ⟨r, hr⟩ := hhd
        show _ = _
        rw [hr]
        rfl
      have KG : Hid (∀ W, Calls Tryd.prog 36 #[.int .i32 (c.toNat : Int), .int .i64 10] W fun e w' => e = .returned (.int .i64 (dgI 10 c)) ∧ Fr (fun _ => False) W w') := fun W => by
        have := digit10_in (c.toNat : Int) W (by omega)
        rwa [dR_byte] at this
      have hne : (s.toList == []) = false := by
        obtain ⟨r, hr⟩ := hhd
        rw [tx_toList, hr]
        rfl
      have hne2 : s.toList.isEmpty = false := by
        obtain ⟨r, hr⟩ := hhd
        rw [tx_toList, hr]
        rfl
      clear hhd hc
      have hcb : c.toNat < 256 := c.toNat_lt
      have HC : Hid (c.toNat < 256) := hcb
      obtain ⟨cn, hcn⟩ : ∃ cn : Nat, c.toNat = cn := ⟨_, rfl⟩
      rw [hcn] at hix KG hcb
      have HNO := readNumber_in s
      cases hdg : dg 10 c with
      | some d =>
        have hI : dgI 10 c = (d : Int) := by unfold dgI; rw [hdg]
        have HN : Hid (wordO (tx s) = (numO (tx s)).map fun n => .inr (.inl n)) := by show _ = _; rw [HW.out, HD.out, hdg]; rfl
        rw [hI] at KG
        have KN : Hid (∀ W, Calls Tryd.prog 37 #[.string s] W fun e w' => e = .returned (numA (numO (tx s))) ∧ Fr (fun _ => False) W w') := fun W => HNO W h0'
        have hd0 : (0 : Int) ≤ (d : Int) := by omega
        clear hI hdg HNO HW HD hcn
        go_enter Tryd.func24, Tryd.ntmps24
        go_wp2_with (fail)
        refine KC.mono ?_
        rintro e w' ⟨rfl, rfl⟩
        go_wp2_with (fail)
        refine (KG.out _).mono ?_
        rintro e w1 ⟨rfl, hf1⟩
        go_wp2_with (fail)
        refine (KN.out _).mono ?_
        rintro e w2 ⟨rfl, hf2⟩
        have HF : Hid (Fr (fun _ => False) w w2) := hf1.trans hf2
        rcases num_cases (numO (tx s)) with ⟨h1, h2⟩ | ⟨n, h1, h2⟩
        · have HN2 : Hid (wordO (tx s) = none) := by show _ = _; rw [HN.out, h1]; rfl
          rw [h2]
          clear h1 h2
          go_wp2_with (fail)
          go_ret2
          exact ⟨HF.out, .inl ⟨HN2.out, rfl⟩⟩
        · have HN2 : Hid (wordO (tx s) = some (.inr (.inl n))) := by show _ = _; rw [HN.out, h1]; rfl
          rw [h2]
          clear h1 h2
          go_wp2_with (fail)
          go_ret2
          exact ⟨HF.out, .inr ⟨_, _, HN2.out, rfl, rfl⟩⟩
      | none =>
        have hI : dgI 10 c = -1 := by unfold dgI; rw [hdg]
        have HN : Hid (wordO (tx s) = some (.inl (tx s))) := by show _ = _; rw [HW.out, HD.out, hdg]; rfl
        rw [hI] at KG
        clear hI hdg HNO HW HD hcn
        go_enter Tryd.func24, Tryd.ntmps24
        go_wp2_with (fail)
        refine KC.mono ?_
        rintro e w' ⟨rfl, rfl⟩
        go_wp2_with (fail)
        refine (KG.out _).mono ?_
        rintro e w1 ⟨rfl, hf1⟩
        go_wp2_with (fail)
        go_ret2
        refine ⟨hf1, .inr ⟨_, _, HN.out, rfl, ?_⟩⟩
        show _ = _
        rw [mk_tx]
        rfl
end Go.Proofs.YtfehmlopndklcaaDoor
