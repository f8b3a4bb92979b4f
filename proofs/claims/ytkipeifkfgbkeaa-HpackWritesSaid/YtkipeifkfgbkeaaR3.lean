/- Contract of the document's Code (aqueductref03.Code). -/
import Derived.Test.YtkipeifkfgbkeaaR2
namespace Go.Proofs.Ytkipeifkfgbkeaa
open Go.RowKit
set_option maxRecDepth 100000
set_option maxHeartbeats 4000000
set_option linter.unusedVariables false

/-- What Code answers. -/
def codeAns (s : Int) : Nat × Nat × Nat := if 0 ≤ s ∧ s ≤ 256 then ((codeOf s.toNat).1, (codeOf s.toNat).2, 0) else (0, 0, 1)
def codeVal (s : Int) : Value := .tuple #[.int .u32 (codeAns s).1, .int .i64 (codeAns s).2.1, .int .i64 (codeAns s).2.2]
/-- The symbol is in none of the first k rows. -/
def NotIn (s : Int) (k : Nat) : Prop := ∀ k' j s' : Nat, k' < k → (tblR.getD k' (0, [])).2[j]? = some s' → (s' : Int) ≠ s
theorem codeVal_hit (s : Nat) (x n : Nat) (h : s ≤ 256) (hc : codeOf s = (x, n)) : codeVal (s : Int) = .tuple #[.int .u32 x, .int .i64 n, .int .i64 0] := by
  simp [codeVal, codeAns, hc, show (s : Int) ≤ 256 by omega]
theorem codeVal_miss (s : Int) (h : NotIn s 21) : codeVal s = .tuple #[.int .u32 0, .int .i64 0, .int .i64 1] := by
  have : ¬ (0 ≤ s ∧ s ≤ 256) := by
    rintro ⟨h1, h2⟩
    obtain ⟨k, j, hk, hj⟩ := in_some s.toNat (by omega)
    exact h k j s.toNat hk hj (by omega)
  simp [codeVal, codeAns, this]

theorem rcode_any (s : Int) (w : World) : Calls Try.prog 59 #[.int .i64 s] w fun e w' => e = .returned (codeVal s) ∧ Fr (fun _ => False) w w' := by
  go_enter Try.func59, Try.ntmps59
  go_wp2_with (fail)
  refine (rrows_any w).mono ?_
  rintro e w1 ⟨n, rfl, hrt, hf⟩
  have HF : Hid (Fr (fun _ => False) w w1) := hf
  have HRT : Hid (RT w1 n) := hrt
  clear hf hrt
  go_wp2_with (fail)
  go_loop [5, 6, 8] (fun v5 v6 v8 => ∃ k : Nat, k ≤ 21 ∧ v5 = .int .u64 (preR k).1 ∧ v6 = .int .i64 (preR k).2 ∧ v8 = .int .i64 k ∧ Hid (NotIn s k)) (fun _ _ v8 => 21 - (intOf v8).toNat)
  case atStart => exact ⟨0, by omega, rfl, rfl, rfl, fun k' j s' h => by omega⟩
  case round =>
    obtain ⟨k, hk, rfl, rfl, rfl, HNI⟩ := hrel
    by_cases hlt : k < 21
    · have hci : (k : Int) < 21 := by omega
      have hfs := rowR_facts k hlt
      obtain ⟨c0, m, c1, cj⟩ := HRT.out k _ (row_at k hlt)
      have HPC : Hid (∀ j s', (tblR.getD k (0, [])).2[j]? = some s' → codeOf s' = (firstOf k + j, (tblR.getD k (0, [])).1) ∧ s' ≤ 256) := fun j s' hj => ⟨place_code k j s' hlt hj, in_le k j s' hlt hj⟩
      have hpre : preR k = ((stAt k).2.1, (stAt k).2.2) := by simp [preR, hlt]
      have hfo : firstOf k = (stAt k).2.1 * 2 ^ ((tblR.getD k (0, [])).1 - (stAt k).2.2) := rfl
      rw [hpre]
      have HROW : Hid (_ = _) := (rfl : tblR.getD k (0, []) = tblR.getD k (0, []))
      generalize hwd : (stAt k).2.1 = wd at *
      generalize hbt : (stAt k).2.2 = bt at *
      generalize hfi : firstOf k = fi at *
      generalize hrow : tblR.getD k (0, []) = r at *
      obtain ⟨b, l⟩ := r
      simp only at *
      obtain ⟨f1, f2, f3, f4, f5, f6, f7⟩ := hfs
      have HR : Hid (tblR.getD k (0, []) = (b, l)) := hrow
      have HP : Hid (preR (k + 1) = (fi + l.length, b)) := f7
      have HCJ : Hid (∀ (j s : Nat), l[j]? = some s → w1.cell? ⟨m, j, none⟩ = some (.int .i64 (s : Int))) := cj
      have HFO : Hid (fi = wd * 2 ^ (b - bt)) := hfo
      clear hwd hbt hfi hrow hpre f7 cj hfo HROW
      go_wp2_with (fail)
      go_loop [5, 6] (fun v5 v6 => ∃ d : Nat, bt + d ≤ b ∧ v5 = .int .u64 (wd * 2 ^ d : Nat) ∧ v6 = .int .i64 (bt + d : Nat)) (fun _ v6 => b - (intOf v6).toNat)
      case atStart => exact ⟨0, by omega, by simp, rfl⟩
      case round =>
        obtain ⟨d, hd, rfl, rfl⟩ := hrel
        by_cases hdl : bt + d < b
        · have hci2 : ((bt + d : Nat) : Int) < (b : Int) := by omega
          have hx : wd * 2 ^ d ≤ 1073741824 := by
            have h1 : wd * 2 ^ d ≤ fi := by rw [HFO.out]; exact Nat.mul_le_mul_left _ (Nat.pow_le_pow_right (by omega) (by omega))
            omega
          obtain ⟨x, hxx⟩ : ∃ x, x = wd * 2 ^ d := ⟨_, rfl⟩
          obtain ⟨bd, hbd⟩ : ∃ bd, bd = bt + d := ⟨_, rfl⟩
          rw [← hxx] at hx ⊢
          rw [← hbd] at hci2 ⊢
          have HXX : Hid (x = wd * 2 ^ d) := hxx
          have HBD : Hid (bd = bt + d) := hbd
          clear hxx hbd hdl hd
          go_wp2_with (fail)
          go_round
          case rel =>
            refine ⟨d + 1, by have := HBD.out; omega, ?_, ?_⟩
            · rw [Nat.pow_succ, ← Nat.mul_assoc, ← HXX.out]; go_num
            · rw [← Nat.add_assoc, ← HBD.out]; go_num
          case measure => simp [intOf]; omega
        · have hbd : bt + d = b := by omega
          have hci2 : ¬ (b : Int) < (b : Int) := by omega
          have hfi : wd * 2 ^ d = fi := by rw [HFO.out]; congr 2; omega
          rw [hfi, hbd]
          clear hfi hbd hdl hd HFO
          go_wp2_with (fail)
          go_loop [5, 9] (fun v5 v9 => ∃ j : Nat, j ≤ l.length ∧ v5 = .int .u64 (fi + j : Nat) ∧ v9 = .int .i64 j ∧ Hid (∀ (j' s' : Nat), j' < j → l[j']? = some s' → (s' : Int) ≠ s)) (fun _ v9 => l.length - (intOf v9).toNat)
          case atStart => exact ⟨0, by omega, rfl, rfl, fun j' s' h => by omega⟩
          case round =>
            obtain ⟨j, hj, rfl, rfl, HJ⟩ := hrel
            by_cases hjl : j < l.length
            · have hcj : (j : Int) < (l.length : Int) := by omega
              obtain ⟨s', hs'⟩ : ∃ s', l[j]? = some s' := ⟨_, List.getElem?_eq_getElem hjl⟩
              have cc := HCJ.out j s' hs'
              have HS' : Hid (l[j]? = some s') := hs'
              clear hs'
              obtain ⟨x, hx⟩ : ∃ x, x = fi + j := ⟨_, rfl⟩
              rw [← hx]
              have hx2 : x < 4294967296 := by omega
              have hx3 : (x : Int) % 4294967296 = x := by omega
              have HX : Hid (x = fi + j) := hx
              clear hx
              by_cases hss : (s' : Int) = s
              · subst hss
                go_wp2_with (fail)
                go_ret3
                have hh := HPC.out j s' HS'.out
                exact ⟨by rw [codeVal_hit s' _ _ hh.2 (by rw [hh.1, ← HX.out])]; rfl, HF.out⟩
              · go_wp2_with (fail)
                go_round
                case rel =>
                  refine ⟨j + 1, by omega, ?_, by go_num, ?_⟩
                  · rw [← Nat.add_assoc, ← HX.out]; go_num
                  · intro j' s2 h1 h2
                    by_cases h3 : j' = j
                    · subst h3
                      rw [HS'.out] at h2
                      cases h2
                      exact hss
                    · exact HJ.out j' s2 (by omega) h2
                case measure => simp [intOf]; omega
            · obtain rfl : j = l.length := by omega
              have hcj : ¬ (l.length : Int) < (l.length : Int) := by omega
              obtain ⟨x, hx⟩ : ∃ x, x = fi + l.length := ⟨_, rfl⟩
              rw [← hx]
              have HX : Hid (x = fi + l.length) := hx
              clear hx
              go_wp2_with (fail)
              go_round
              case rel =>
                refine ⟨k + 1, by omega, ?_, ?_, by go_num, ?_⟩
                · rw [HP.out, ← HX.out]
                · rw [HP.out]
                · intro k' j' s' h1 h2
                  by_cases h3 : k' = k
                  · subst h3
                    rw [HR.out] at h2
                    exact HJ.out j' s' (List.getElem?_eq_some_iff.1 h2).1 h2
                  · exact HNI.out k' j' s' (by omega) h2
              case measure => simp [intOf]; omega
    · obtain rfl : k = 21 := by omega
      have hci : ¬ ((21 : Nat) : Int) < 21 := by omega
      go_wp2_with (fail)
      go_ret3
      exact ⟨by rw [codeVal_miss s HNI.out]; rfl, HF.out⟩

end Go.Proofs.Ytkipeifkfgbkeaa
