/- Contract of the document's Get (aqueductref04.Get). -/
import Derived.Test.YtemleghledcclaaI2
import Derived.Test.YtemleghledcclaaI3
namespace Go.Proofs.Ytemleghledcclaa
open Go.RowKit
set_option maxRecDepth 100000
set_option maxHeartbeats 4000000
set_option linter.unusedVariables false

theorem rget_any (a : Option Addr) (len cap : Nat) (p k : Int) (w : World) (X : List UInt8) (hs : SrcAt w a X) (hl : X.length = len) (hm : len ≤ 9223372036854775807) :
    Calls Try.prog 19 #[.slice a len cap, .int .i64 p, .int .i64 k] w fun e w' => e = .returned (trip (getOut X p k)) ∧ w' = w := by
  by_cases h1 : k < 1
  · rw [getOut_bad (.inl h1)]
    clear hs
    go_enter Try.func19, Try.ntmps19
    go_wp2_with (fail)
    go_ret3
    exact ⟨rfl, rfl⟩
  · by_cases h2 : 8 < k
    · rw [getOut_bad (.inr (.inl h2))]
      clear hs
      go_enter Try.func19, Try.ntmps19
      go_wp2_with (fail)
      go_ret3
      exact ⟨rfl, rfl⟩
    · by_cases h3 : p < 0
      · rw [getOut_bad (.inr (.inr (.inl h3)))]
        clear hs
        go_enter Try.func19, Try.ntmps19
        go_wp2_with (fail)
        go_ret3
        exact ⟨rfl, rfl⟩
      · by_cases h4 : (len : Int) < p
        · rw [getOut_bad (.inr (.inr (.inr (by omega))))]
          clear hs
          go_enter Try.func19, Try.ntmps19
          go_wp2_with (fail)
          go_ret3
          exact ⟨rfl, rfl⟩
        · obtain ⟨j, rfl⟩ : ∃ j : Nat, k = j := ⟨k.toNat, by omega⟩
          obtain ⟨q, rfl⟩ : ∃ q : Nat, p = q := ⟨p.toNat, by omega⟩
          by_cases h5 : q = len
          · subst h5
            have HE : Hid (getOut X (q : Int) j = (0, q, 3)) := by show _ = _; rw [← hl]; exact getOut_end (by omega) (by omega)
            clear hs hl
            go_enter Try.func19, Try.ntmps19
            go_wp2_with (fail)
            go_ret3
            exact ⟨by rw [HE.out]; rfl, rfl⟩
          · have h5i : ¬ (q : Int) = len := by omega
            obtain ⟨ad, x, rfl, hx, hcell⟩ := src_at hs q (by omega)
            have HS : Hid (SrcAt w (some ad) X) := hs
            have HL : Hid (X.length = len) := hl
            have hx8 : x.toNat < 256 := UInt8.toNat_lt x
            have hlow := rem_low x.toNat j (by omega)
            have hpi := pow_int j (by omega)
            have HG : Hid (getOut X (q : Int) j = _) := getOut_at (by omega) (by omega) hx
            have hob := (pow_cases j (by omega)).2
            have hpw := (pow_cases j (by omega)).1
            obtain ⟨m, hmm⟩ : ∃ m, m = x.toNat % 2 ^ j := ⟨_, rfl⟩
            have hmb : m ≤ allOnes j := by
              have := Nat.mod_lt x.toNat (Nat.two_pow_pos j)
              omega
            rw [← hmm] at hlow HG
            clear hmm hpw hx hs hl
            generalize allOnes j = o at *
            by_cases h6 : m < o
            · have h6i : (m : Int) < o := by omega
              have HE : Hid (getOut X (q : Int) j = (m, q + 1, 0)) := by show _ = _; rw [HG.out, if_pos h6]
              clear HG HS HL
              go_enter Try.func19, Try.ntmps19
              go_wp2_with (fail)
              go_ret3
              exact ⟨by rw [HE.out]; rfl, rfl⟩
            · have h6i : ¬ (m : Int) < o := by omega
              have HE : Hid (getOut X (q : Int) j = digs 0 m (q + 1) (X.drop (q + 1))) := by show _ = _; rw [HG.out, if_neg h6]
              obtain ⟨R, hR⟩ : ∃ R, R = getOut X (q : Int) j := ⟨_, rfl⟩
              rw [← hR] at HE ⊢
              clear HG hR
              go_enter Try.func19, Try.ntmps19
              go_wp2_with (fail)
              go_loop [1, 10, 11, 12] (fun v1 v10 v11 v12 => ∃ c s p : Nat, c ≤ 5 ∧ s ≤ 2147483647 ∧ p ≤ len ∧ v1 = .int .i64 p ∧ v10 = .int .i64 s ∧ v11 = .int .i64 (128 ^ c : Nat) ∧ v12 = .int .i64 c ∧ Hid (R = digs c s p (X.drop p))) (fun _ _ _ v12 => 5 - (intOf v12).toNat)
              case atStart => exact ⟨0, m, q + 1, by omega, by omega, by omega, by go_num, rfl, rfl, rfl, HE⟩
              case round =>
                clear hcell hlow hx8 hmb h6 h6i hpi hob HE h5 h5i
                rename_i xo
                obtain ⟨c, s, p, hc, hsm, hp, rfl, rfl, rfl, rfl, HD⟩ := hrel
                by_cases hlt : p < len
                · have hne : ¬ (p : Int) = len := by omega
                  obtain ⟨ad2, x, e2, hx, hcell⟩ := src_at HS.out p (by have := HL.out; omega)
                  cases e2
                  have HST : Hid (R = _) := HD.out.trans (digs_step hx)
                  by_cases h5 : c = 5
                  · subst h5
                    have HE : Hid (R = (0, p, 2)) := by show _ = _; rw [HST.out]; simp
                    clear HST
                    go_wp2_with (fail)
                    go_ret3
                    exact ⟨by rw [HE.out]; rfl, rfl⟩
                  · have h5i : ¬ (c : Int) = 5 := by omega
                    have hx8 : x.toNat < 256 := UInt8.toNat_lt x
                    obtain ⟨u, hu⟩ : ∃ u, u = 128 ^ c := ⟨_, rfl⟩
                    have hub : u ≤ 268435456 := by
                      rw [hu]; exact Nat.le_trans (Nat.pow_le_pow_right (by omega) (show c ≤ 4 by omega)) (by decide)
                    have hu2 : u * 128 = 128 ^ (c + 1) := by rw [hu, Nat.pow_succ]
                    obtain ⟨y, hy⟩ : ∃ y, y = x.toNat % 128 * u := ⟨_, rfl⟩
                    obtain ⟨z, hz⟩ : ∃ z, z = x.toNat % 128 := ⟨_, rfl⟩
                    have hz8 : z < 128 := by omega
                    have hzi : (x.toNat : Int) % 128 = (z : Int) := by omega
                    have hyi : (u : Int) * (z : Int) = (y : Int) := by rw [hy, hz, Nat.mul_comm]; push_cast; rfl
                    have hyb : y ≤ 127 * 268435456 := by rw [hy]; exact Nat.mul_le_mul (by omega) hub
                    have HC : Hid (R = if 2147483647 < s + y then (0, p, 2) else if x.toNat < 128 then (s + y, p + 1, 0) else digs (c + 1) (s + y) (p + 1) (X.drop (p + 1))) := by
                      show _ = _; rw [HST.out, if_neg h5, hy, hu]
                    have HU2 : Hid (u * 128 = 128 ^ (c + 1)) := hu2
                    rw [← hu]
                    clear HST hy hz hu hu2 HD
                    obtain ⟨t, ht⟩ : ∃ t, t = s + y := ⟨_, rfl⟩
                    have hti : (s : Int) + y = (t : Int) := by omega
                    have htb : t < 1099511627776 := by omega
                    rw [← ht] at HC
                    clear ht
                    by_cases hg : 2147483647 < t
                    · have hgi : (2147483647 : Int) < t := by omega
                      have HE : Hid (R = (0, p, 2)) := by show _ = _; rw [HC.out, if_pos hg]
                      clear HC
                      go_wp2_with (fail)
                      go_ret3
                      exact ⟨by rw [HE.out]; rfl, rfl⟩
                    · have hgi : ¬ (2147483647 : Int) < t := by omega
                      by_cases h7 : x.toNat < 128
                      · have h7i : (x.toNat : Int) < 128 := by omega
                        have HE : Hid (R = (t, p + 1, 0)) := by show _ = _; rw [HC.out, if_neg hg, if_pos h7]
                        clear HC
                        go_wp2_with (fail)
                        go_ret3
                        exact ⟨by rw [HE.out]; rfl, rfl⟩
                      · have h7i : ¬ (x.toNat : Int) < 128 := by omega
                        have HE : Hid (R = digs (c + 1) t (p + 1) (X.drop (p + 1))) := by show _ = _; rw [HC.out, if_neg hg, if_neg h7]
                        clear HC
                        go_wp2_with (fail)
                        go_round
                        case rel => exact ⟨c + 1, t, p + 1, by omega, by omega, by omega, by go_num, rfl, by rw [← HU2.out]; go_num, by go_num, HE⟩
                        case measure => simp [intOf]; omega
                · obtain rfl : p = len := by omega
                  have HE : Hid (R = (0, p, 3)) := by show _ = _; rw [HD.out, digs_end (by have := HL.out; omega)]
                  clear HD
                  go_wp2_with (fail)
                  go_ret3
                  exact ⟨by rw [HE.out]; rfl, rfl⟩

end Go.Proofs.Ytemleghledcclaa
