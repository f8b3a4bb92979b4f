/- Contract of the document's Parse. -/
import Derived.Test.YtikaefjhmgcidaaZMRn
import Derived.Test.YtikaefjhmgcidaaZRp1
import Derived.Test.YtikaefjhmgcidaaZRp2
import Derived.Test.YtikaefjhmgcidaaZRp3
import Derived.Test.YtikaefjhmgcidaaZRp4
import Derived.Test.YtikaefjhmgcidaaZRp5
import Derived.Test.YtikaefjhmgcidaaZRp7
namespace Go.Proofs.Ytikaefjhmgcidaa
open Go.RowKit
set_option linter.unusedVariables false
set_option maxRecDepth 100000
set_option maxHeartbeats 4000000

theorem sized_two {k fl st : Int} {n : Nat} (hz : sizedB (F0 k fl st 0) n = true) (h2 : k = 2) (b : List UInt8) (hb : b.length = n) : ptX k fl b = (0, 0, b) := by
  subst h2
  refine ptX_n (L := 0) (by simp [padH, canP]) (by simp [leastD]) (by omega)

theorem readO_unknown {k fl st : Int} {b : List UInt8} (hk : knownB k = false) : readO (F0 k fl st 0) b = (F0 k fl st 0, ⟨false, 0, 0⟩) := by
  have hkr : k ≠ 0 ∧ k ≠ 1 ∧ k ≠ 2 ∧ k ≠ 3 ∧ k ≠ 4 ∧ k ≠ 5 ∧ k ≠ 6 ∧ k ≠ 7 ∧ k ≠ 8 ∧ k ≠ 9 := by simp [knownB] at hk; omega
  obtain ⟨n0, n1, n2, n3, n4, n5, n6, n7, n8, n9⟩ := hkr
  have e1 : placedB k st = true := by simp [placedB, n0, n1, n2, n3, n4, n5, n6, n7, n9]
  have e2 : sizedB (F0 k fl st 0) b.length = true := by simp [sizedB, F0, n2, n3, n4, n6, n7, n8]
  have e3 : padH k fl = false := by simp [padH, canP, n0, n1, n5]
  rw [readO_doc e1 e2, docO, ptX_n (L := 0) e3 (by simp [leastD, n1, n5]) (by omega), if_pos rfl]
  have e4 : partsOf (F0 k fl st 0) = [] := by simp [partsOf, F0, n0, n1, n2, n3, n4, n5, n6, n7, n8, n9]
  have e5 : fdO k fl st 0 b = (F0 k fl st 0, ⟨false, 0, 0⟩) := by
    unfold fdO
    rw [show partsOf (F0 k fl st ((0 : Nat))) = [] from e4, if_neg (fun h => n8 h.1)]
    rfl
  dsimp only
  rw [e5]
  rfl

theorem ParsedAs.new {w : World} {o : Fra × Nat × Flt × Int} {e : Ending} {w' : World} (h : ParsedAs w o e w') (hX : o.1.X = []) (hY : o.1.Y = []) : ParsedNew w o e w' := by
  obtain ⟨p, cp, q, cq, h1, h2, h3, h4⟩ := h
  exact ⟨p, cp, q, cq, h1, h2, h3, h4, fun ad e hl => (by rw [hX] at hl; simp at hl), fun ad e hl => (by rw [hY] at hl; simp at hl)⟩
theorem rParse_new (a : Option Addr) (len cap : Nat) (B : List UInt8) (most : Int) (w : World) (hs : SrcAt w a B) (hl : B.length = len) (hc : len ≤ cap) (hm : len ≤ 9223372036854775807) (hmost : (Lit.int .i64 most).wf = true) :
    Calls Try.prog 24 #[.slice a len cap, .int .i64 most] w fun e w' => ParsedNew w (parseO B most) e w' := by
  have hmr := i64r hmost
  by_cases hneg : most < 0
  · rw [parseO, if_pos hneg]
    exact (rp_a a len cap B most w hs hl hc hm hmr hneg).mono fun _ _ h => h.new rfl rfl
  by_cases h9 : B.length < 9
  · rw [parseO, if_neg hneg, if_pos h9]
    exact (rp_b a len cap B most w hs hl hc hm hmr (by omega) (by omega)).mono fun _ _ h => h.new rfl rfl
  obtain ⟨N, hN⟩ : ∃ N, num (B.take 3) = N := ⟨_, rfl⟩
  obtain ⟨kd, hkd⟩ : ∃ kd, (B.getD 3 0).toNat = kd := ⟨_, rfl⟩
  obtain ⟨fl, hfl⟩ : ∃ fl, (B.getD 4 0).toNat = fl := ⟨_, rfl⟩
  obtain ⟨st, hst⟩ : ∃ st, num ((B.drop 5).take 4) % 2147483648 = st := ⟨_, rfl⟩
  have hNb : N ≤ 16777215 := by have := num3 B; omega
  by_cases hbig : most < (N : Int)
  · rw [parseO, if_neg hneg, if_neg h9, hN, if_pos hbig]
    exact (rp_c a len cap B most w hs hl hc hm hmr N kd fl st (by omega) hN hkd hfl hst (by omega) hbig).mono fun _ _ h => h.new rfl rfl
  by_cases hsh : B.length < 9 + N
  · rw [parseO, if_neg hneg, if_neg h9, hN, if_neg hbig, if_pos hsh]
    exact (rp_d a len cap B most w hs hl hc hm hmr N kd fl st (by omega) hN hkd hfl hst (by omega) (by omega) (by omega)).mono fun _ _ h => h.new rfl rfl
  have hh : headF B = F0 kd fl st 0 := by rw [headF, hkd, hfl, hst]; rfl
  rw [parseO, if_neg hneg, if_neg h9, hN, if_neg hbig, if_neg hsh, hh]
  obtain ⟨b, hb⟩ : ∃ b, (B.drop 9).take N = b := ⟨_, rfl⟩
  have hbl : b.length = N := by rw [← hb, List.length_take, List.length_drop, hl]; omega
  rw [hb]
  cases hk : knownB (kd : Int)
  · have hr : readO (F0 kd fl st 0) b = (F0 kd fl st 0, ⟨false, 0, 0⟩) := readO_unknown hk
    rw [hr]
    exact (rp_e a len cap B most w hs hl hc hm hmr N kd fl st (by omega) hN hkd hfl hst (by omega) (by omega) (by omega) hk).mono fun _ _ h => h.new rfl rfl
  · cases hri : rightB (kd : Int) (st : Int)
    · have hp : placedB (kd : Int) (st : Int) = false := by rw [← right_placed hk]; exact hri
      have hr : readO (F0 kd fl st 0) b = (zeroF, ⟨true, 0, 1⟩) := by unfold readO; rw [if_pos (show placedB (F0 kd fl st 0).k (F0 kd fl st 0).st = false from hp)]
      rw [hr]
      exact (rp_f a len cap B most w hs hl hc hm hmr N kd fl st (by omega) hN hkd hfl hst (by omega) (by omega) (by omega) hk hri).mono fun _ _ h => h.new rfl rfl
    · have hp : placedB (kd : Int) (st : Int) = true := by rw [← right_placed hk]; exact hri
      cases hz : sizedB (F0 kd fl st 0) N
      · have hr : readO (F0 kd fl st 0) b = (zeroF, ⟨true, if (kd : Int) = 2 then st else 0, 6⟩) := by
          unfold readO
          rw [if_neg (by rw [show placedB (F0 kd fl st 0).k (F0 kd fl st 0).st = true from hp]; simp), if_pos (by rw [hbl]; exact hz)]
          rfl
        rw [hr]
        cases h2 : ((kd : Int) == 2)
        · rw [if_neg (by simpa using h2)]
          exact (rp_g0 a len cap B most w hs hl hc hm hmr N kd fl st (by omega) hN hkd hfl hst (by omega) (by omega) (by omega) hk hri hz h2).mono fun _ _ h => h.new rfl rfl
        · rw [if_pos (by simpa using h2)]
          exact (rp_g1 a len cap B most w hs hl hc hm hmr N kd fl st (by omega) hN hkd hfl hst (by omega) (by omega) (by omega) hk hri hz h2).mono fun _ _ h => h.new rfl rfl
      · have hzb : sizedB (F0 kd fl st 0) b.length = true := by rw [hbl]; exact hz
        rw [readO_doc hp hzb, docO]
        obtain ⟨x, cd, X, hpt⟩ : ∃ x cd X, ptX (kd : Int) (fl : Int) b = (x, cd, X) := ⟨_, _, _, rfl⟩
        have hXl : X.length ≤ 16777215 := by have h := ptX_len (k := (kd : Int)) (fl := (fl : Int)) (b := b); rw [hpt] at h; dsimp only at h; omega
        have hfit : cd = 0 → fitsB (kd : Int) (fl : Int) X.length := fun h => by have h := ptX_fits (st := (st : Int)) hk hzb (by rw [hpt]; exact h); rw [hpt] at h; exact h
        rw [← hb] at hpt
        cases hcd : (cd == 0)
        · have hcd' : ¬ cd = 0 := by simpa using hcd
          rw [hb] at hpt
          rw [hpt, if_neg hcd']
          rw [← hb] at hpt
          cases h2 : ((kd : Int) == 2)
          · exact (rp_h a len cap B most w hs hl hc hm hmr N kd fl st (by omega) hN hkd hfl hst (by omega) (by omega) (by omega) hk hri hz h2 x cd X hpt hcd).mono fun _ _ h => h.new rfl rfl
          · have h3 := sized_two hzb (by simpa using h2) b rfl
            rw [hb, h3] at hpt
            have : cd = 0 := by simp at hpt; omega
            exact absurd this hcd'
        · obtain rfl : cd = 0 := by simpa using hcd
          obtain ⟨gf, fo, hfd⟩ : ∃ gf fo, fdO (kd : Int) (fl : Int) (st : Int) x X = (gf, fo) := ⟨_, _, rfl⟩
          have hfo : fo = (if (kd : Int) = 8 ∧ (rd (partsOf (F0 kd fl st x)) (F0 kd fl st x) X).inc = 0 then (⟨true, st, 1⟩ : Flt) else ⟨false, 0, 0⟩) := by
            have h := congrArg Prod.snd hfd
            exact h.symm
          rw [hb] at hpt
          rw [hpt, if_pos rfl]
          dsimp only
          rw [hfd]
          rw [← hb] at hpt
          by_cases h8 : (kd : Int) = 8 ∧ (rd (partsOf (F0 kd fl st x)) (F0 kd fl st x) X).inc = 0
          · rw [if_pos h8] at hfo
            subst hfo
            rw [if_pos rfl]
            exact (rp_i a len cap B most w hs hl hc hm hmr N kd fl st (by omega) hN hkd hfl hst (by omega) (by omega) (by omega) hk hri hz (by rw [h8.1]; decide) x X hpt hXl (hfit rfl) gf hfd).mono fun _ _ h => h.new rfl rfl
          · rw [if_neg h8] at hfo
            subst hfo
            rw [if_neg (by simp)]
            cases h2 : ((kd : Int) == 2)
            · exact rp_j0 a len cap B most w hs hl hc hm hmr N kd fl st (by omega) hN hkd hfl hst (by omega) (by omega) (by omega) hk hri hz h2 x X hpt hXl (hfit rfl) gf hfd
            · exact rp_j1 a len cap B most w hs hl hc hm hmr N kd fl st (by omega) hN hkd hfl hst (by omega) (by omega) (by omega) hk hri hz h2 x X hpt hXl (hfit rfl) gf hfd
theorem rParse_in (a : Option Addr) (len cap : Nat) (B : List UInt8) (most : Int) (w : World) (hs : SrcAt w a B) (hl : B.length = len) (hc : len ≤ cap) (hm : len ≤ 9223372036854775807) (hmost : (Lit.int .i64 most).wf = true) :
    Calls Try.prog 24 #[.slice a len cap, .int .i64 most] w fun e w' => ParsedAs w (parseO B most) e w' := by
  refine (rParse_new a len cap B most w hs hl hc hm hmost).mono ?_
  rintro e w' ⟨p, cp, q, cq, h1, h2, h3, h4, -, -⟩
  exact ⟨p, cp, q, cq, h1, h2, h3, h4⟩
end Go.Proofs.Ytikaefjhmgcidaa
