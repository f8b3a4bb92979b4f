/- The document's number. -/
import Derived.Test.YtfehmlopndklcaaDoorScr
namespace Go.Proofs.YtfehmlopndklcaaDoor
open Go.RowKit
set_option maxRecDepth 100000
set_option maxHeartbeats 4000000
set_option linter.unusedVariables false

def rnumA (o : Option Nat) : Value := match o with | some n => .tuple #[.int .i64 (n : Int), .bool true] | none => .tuple #[.int .i64 0, .bool false]
theorem rnum_core (s : ByteArray) (w : World) (h0 : 0 < s.size) (h9 : s.size ≤ 9) (hz : s.size = 1 ∨ (1 < s.size ∧ ∃ c0 : Nat, (∀ w : World, (Instr.index 9 (.string s) (.int .i64 0)).run Tryd.prog w = .ok (.int .u8 (c0 : Int)) w) ∧ ¬ c0 = 48)) :
    Calls Tryd.prog 18 #[.string s] w fun e w' => e = .returned (rnumA (numV (tx s))) ∧ w = w' := by
  obtain ⟨V, hV⟩ : ∃ V, rnumA (numV (tx s)) = V := ⟨_, rfl⟩
  have HV : Hid (rnumA (numV (tx s)) = V) := hV
  rw [hV]
  clear hV
  have h9i : ¬ (9 : Int) < (s.size : Int) := by omega
  have hne : (s.toList == []) = false := by
    rw [tx_toList]
    cases hx : tx s with
    | nil => have := tx_len s; rw [hx] at this; simp at this; omega
    | cons a b => rfl
  have hne2 : s.toList.isEmpty = false := by
    rw [tx_toList]
    cases hx : tx s with
    | nil => have := tx_len s; rw [hx] at this; simp at this; omega
    | cons a b => rfl
  go_enter Tryd.func18, Tryd.ntmps18
  rcases hz with h1 | ⟨h1, c0, hc0, hnz⟩
  · have h1i : ¬ (1 : Int) < (s.size : Int) := by omega
    clear h1
    go_wp2_with (fail)
    clear h1i h9i hne hne2
    go_loopw [4, 5] (fun v4 v5 wr => ∃ i n : Nat, v4 = .int .i64 (n : Int) ∧ v5 = .int .i64 (i : Int) ∧ i ≤ s.size ∧ w = wr ∧ Hid (numV ((tx s).take i) = some n)) (fun _ v5 _ => s.size - (intOf v5).toNat)
    case atStart => exact ⟨0, 0, rfl, rfl, by omega, rfl, rfl⟩
    case round =>
      obtain ⟨i, n, rfl, rfl, hi, rfl, HA⟩ := hrel
      by_cases hlt : i < s.size
      · have hlt2 : (i : Int) < (s.size : Int) := by omega
        have HT : Hid ((tx s)[i]? = some (s[i]'hlt)) := tx_at s i hlt
        have hix := index_tx4 s i hlt
        generalize (s[i]'hlt) = c at HT hix
        have hnb : n < 1000000000 := pow9 (by omega) (num_lt (by rw [tx_len]; exact hi) HA.out)
        have hcb := c.toNat_lt
        obtain ⟨cn, hcn⟩ : ∃ cn : Nat, c.toNat = cn := ⟨_, rfl⟩
        have HCN : Hid (c.toNat = cn) := hcn
        rw [hcn] at hix hcb
        clear hcn
        by_cases h48 : 48 ≤ cn
        · have h48i : ¬ (cn : Int) < 48 := by omega
          by_cases h57 : cn ≤ 57
          · have h57i : ¬ (57 : Int) < (cn : Int) := by omega
            have HD : Hid (dg 10 c = some (cn - 48)) := by show _ = _; unfold dg; rw [HCN.out, if_pos ⟨h48, h57⟩]
            have HN : Hid (numV ((tx s).take (i + 1)) = some (10 * n + (cn - 48))) := num_step HT.out HA.out HD.out
            have e1 : ((cn : Int) - 48) = ((cn - 48 : Nat) : Int) := by omega
            have hm : cn - 48 < 10 := by omega
            clear h48 h57 HD
            go_wp2_with (fail)
            go_roundw
            case rel => exact ⟨i + 1, 10 * n + (cn - 48), by simp, by go_num, by omega, trivial, HN.out⟩
            case measure => simp [intOf]; omega
          · have h57i : (57 : Int) < (cn : Int) := by omega
            have HN : Hid (numV (tx s) = none) := num_bad HT.out (by unfold dg; rw [HCN.out, if_neg (fun e => h57 e.2), if_neg (fun e => by have := e.1; omega)])
            clear h48 h57
            go_wp2_with (fail)
            go_ret2
            exact ⟨by rw [← HV.out, HN.out]; rfl, rfl⟩
        · have h48i : (cn : Int) < 48 := by omega
          have HN : Hid (numV (tx s) = none) := num_bad HT.out (by unfold dg; rw [HCN.out, if_neg (fun e => h48 e.1), if_neg (fun e => by have := e.1; omega)])
          clear h48
          go_wp2_with (fail)
          go_ret2
          exact ⟨by rw [← HV.out, HN.out]; rfl, rfl⟩
      · have hlt2 : ¬ (i : Int) < (s.size : Int) := by omega
        have HN : Hid (numV (tx s) = some n) := num_end (by rw [tx_len]; omega) HA.out
        go_wp2_with (fail)
        go_ret2
        exact ⟨by rw [← HV.out, HN.out]; rfl, rfl⟩
  · have h1i : (1 : Int) < (s.size : Int) := by omega
    have hnz2 : ¬ (c0 : Int) = 48 := by omega
    go_wp2_with (fail)
    clear h1i h9i hne hne2
    go_loopw [4, 5] (fun v4 v5 wr => ∃ i n : Nat, v4 = .int .i64 (n : Int) ∧ v5 = .int .i64 (i : Int) ∧ i ≤ s.size ∧ w = wr ∧ Hid (numV ((tx s).take i) = some n)) (fun _ v5 _ => s.size - (intOf v5).toNat)
    case atStart => exact ⟨0, 0, rfl, rfl, by omega, rfl, rfl⟩
    case round =>
      obtain ⟨i, n, rfl, rfl, hi, rfl, HA⟩ := hrel
      by_cases hlt : i < s.size
      · have hlt2 : (i : Int) < (s.size : Int) := by omega
        have HT : Hid ((tx s)[i]? = some (s[i]'hlt)) := tx_at s i hlt
        have hix := index_tx4 s i hlt
        generalize (s[i]'hlt) = c at HT hix
        have hnb : n < 1000000000 := pow9 (by omega) (num_lt (by rw [tx_len]; exact hi) HA.out)
        have hcb := c.toNat_lt
        obtain ⟨cn, hcn⟩ : ∃ cn : Nat, c.toNat = cn := ⟨_, rfl⟩
        have HCN : Hid (c.toNat = cn) := hcn
        rw [hcn] at hix hcb
        clear hcn
        by_cases h48 : 48 ≤ cn
        · have h48i : ¬ (cn : Int) < 48 := by omega
          by_cases h57 : cn ≤ 57
          · have h57i : ¬ (57 : Int) < (cn : Int) := by omega
            have HD : Hid (dg 10 c = some (cn - 48)) := by show _ = _; unfold dg; rw [HCN.out, if_pos ⟨h48, h57⟩]
            have HN : Hid (numV ((tx s).take (i + 1)) = some (10 * n + (cn - 48))) := num_step HT.out HA.out HD.out
            have e1 : ((cn : Int) - 48) = ((cn - 48 : Nat) : Int) := by omega
            have hm : cn - 48 < 10 := by omega
            clear h48 h57 HD
            go_wp2_with (fail)
            go_roundw
            case rel => exact ⟨i + 1, 10 * n + (cn - 48), by simp, by go_num, by omega, trivial, HN.out⟩
            case measure => simp [intOf]; omega
          · have h57i : (57 : Int) < (cn : Int) := by omega
            have HN : Hid (numV (tx s) = none) := num_bad HT.out (by unfold dg; rw [HCN.out, if_neg (fun e => h57 e.2), if_neg (fun e => by have := e.1; omega)])
            clear h48 h57
            go_wp2_with (fail)
            go_ret2
            exact ⟨by rw [← HV.out, HN.out]; rfl, rfl⟩
        · have h48i : (cn : Int) < 48 := by omega
          have HN : Hid (numV (tx s) = none) := num_bad HT.out (by unfold dg; rw [HCN.out, if_neg (fun e => h48 e.1), if_neg (fun e => by have := e.1; omega)])
          clear h48
          go_wp2_with (fail)
          go_ret2
          exact ⟨by rw [← HV.out, HN.out]; rfl, rfl⟩
      · have hlt2 : ¬ (i : Int) < (s.size : Int) := by omega
        have HN : Hid (numV (tx s) = some n) := num_end (by rw [tx_len]; omega) HA.out
        go_wp2_with (fail)
        go_ret2
        exact ⟨by rw [← HV.out, HN.out]; rfl, rfl⟩
theorem rnumber_in (s : ByteArray) (w : World) :
    Calls Tryd.prog 18 #[.string s] w fun e w' => e = .returned (rnumA (numO (tx s))) ∧ w = w' := by
  have hl := tx_len s
  by_cases h0 : 0 < s.size
  · have hne : (s.toList == []) = false := by
      rw [tx_toList]
      cases hx : tx s with
      | nil => rw [hx] at hl; simp at hl; omega
      | cons a b => rfl
    have hne2 : s.toList.isEmpty = false := by
      rw [tx_toList]
      cases hx : tx s with
      | nil => rw [hx] at hl; simp at hl; omega
      | cons a b => rfl
    by_cases h9 : 9 < s.size
    · rw [numO_long (by omega)]
      have h9i : (9 : Int) < (s.size : Int) := by omega
      clear hl
      go_enter Tryd.func18, Tryd.ntmps18
      go_wp2_with (fail)
      go_ret2
      exact ⟨rfl, rfl⟩
    · have hh : (tx s).head? = some (s[0]'h0) := by rw [List.head?_eq_getElem?]; exact tx_at s 0 h0
      obtain ⟨c0, hc0⟩ : ∃ c0 : Nat, (s[0]'h0).toNat = c0 := ⟨_, rfl⟩
      have hix : ∀ w : World, (Instr.index 9 (.string s) (.int .i64 0)).run Tryd.prog w = .ok (.int .u8 (c0 : Int)) w := fun w => by
        rw [run_index_string w 9 s .i64 0 Tryd.underlying9, dif_pos (by omega), ← hc0]
        rfl
      by_cases h1 : 1 < s.size
      · by_cases h48 : c0 = 48
        · have e48 : s[0]'h0 = 48 := UInt8.toNat_inj.1 (by rw [hc0, h48]; rfl)
          rw [numO_zero (by omega) (by rw [hh, e48])]
          subst h48
          have h9i : ¬ (9 : Int) < (s.size : Int) := by omega
          have h1i : (1 : Int) < (s.size : Int) := by omega
          clear hc0 e48 hh hl
          go_enter Tryd.func18, Tryd.ntmps18
          go_wp2_with (fail)
          go_ret2
          exact ⟨rfl, rfl⟩
        · rw [numO_go (by omega) (by omega) (fun e => h48 (by rw [hh] at e; have e2 := e.2; injection e2 with e3; rw [← hc0, e3]; rfl))]
          exact rnum_core s w h0 (by omega) (.inr ⟨h1, c0, hix, h48⟩)
      · rw [numO_go (by omega) (by omega) (fun e => h1 (by omega))]
        exact rnum_core s w h0 (by omega) (.inl (by omega))
  · have he : s = ⟨#[]⟩ := by
      refine tx_ext ?_
      rw [List.eq_nil_of_length_eq_zero (by omega : (tx s).length = 0)]
      rfl
    subst he
    have hN : numO (tx ⟨#[]⟩) = none := by rfl
    rw [hN]
    clear hN h0 hl
    go_enter Tryd.func18, Tryd.ntmps18
    go_wp2_with (fail)
    go_ret2
    exact ⟨rfl, rfl⟩
end Go.Proofs.YtfehmlopndklcaaDoor
