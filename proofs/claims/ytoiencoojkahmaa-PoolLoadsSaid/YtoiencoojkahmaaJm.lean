/- The document's pool: Failed. -/
import Derived.Test.YtoiencoojkahmaaJl
import Derived.BigRegion
namespace Go.Proofs.Ytoiencoojkahmaa
open Go.RowKit Go.Maps
set_option linter.unusedVariables false
set_option maxRecDepth 100000
set_option maxHeartbeats 4000000

section
variable {base : Nat} {w w' : World} {g : Nat} {a : Option Addr} {cap b gw : Nat} {vW uW : Value} {ms : Nat → Nat} {n : Nat} {F R H rt mo : Int} {s : Pl}
theorem rplFailed_in (h : QAt base w g a cap b gw vW ms n F R H rt mo s) (hn : n ≤ 16) {j : Nat} (hj : j < n) (hN : s.N < 1000000000000000000) (w1 : 1 ≤ (s.X j).wait) (w2 : (s.X j).wait ≤ mo) (hm : mo ≤ 1073741824) : Calls Try.prog 34 #[.pointer (some ⟨g, 0, none⟩), .int .i64 (j : Int)] w fun e w' => e = .returned (.int .i64 (faiP mo s j).1) ∧ QPost base w g a cap b gw vW ms n F R H rt mo (faiP mo s j).2 w' := by
  have KF := rplIs_yes h hn hj
  obtain ⟨-, c1, c2, c3, c4, z⟩ := h.cells hj
  obtain ⟨-, h1, h2, h3⟩ := h.head
  have h0 := h.head0 (by omega)
  have hj2 : (j : Int) < (n : Int) := by omega
  have hbg : b ≠ g := (h.b_ne (by omega)).1
  have hgb : g ≠ b := fun e => hbg e.symm
  have z1 := z (j * 5 + 1)
  have z2 := z (j * 5 + 2)
  have HP : Hid (QAt base w g a cap b gw vW ms n F R H rt mo s) := h
  by_cases e1 : (s.X j).st = 0
  · have E : faiP mo s j = (5, s) := if_pos e1
    rw [E]
    rw [e1] at c1
    clear h z E e1
    go_enter Try.func34, Try.ntmps34
    go_wp2_with (go_at_call 48; refine KF.mono ?_; clear KF; rintro e w1 ⟨rfl, rfl⟩)
    go_ret
    exact ⟨rfl, QPost.refl HP.out⟩
  · have E : faiP mo s j = (0, ⟨updB s.X j ⟨(s.X j).hs, 0, (s.X j).may, 0, if mo < 2 * (s.X j).wait then mo else 2 * (s.X j).wait⟩, s.N, (setT s.N s.T (j : Int) (s.X j).wait).2⟩) := if_neg e1
    rw [E]
    obtain ⟨x, hx⟩ : ∃ x, (s.X j).wait = x := ⟨_, rfl⟩
    obtain ⟨y, hy⟩ : ∃ y, (if mo < 2 * x then mo else 2 * x) = y := ⟨_, rfl⟩
    rw [hx, hy]
    rw [hx] at w1 w2
    clear h z E h1 h2 h3 c3 c4
    go_enter Try.func34, Try.ntmps34
    go_upto_region 7 with (go_at_call 48; refine KF.mono ?_; clear KF; rintro e w1 ⟨rfl, rfl⟩)
    obtain ⟨W, hW⟩ : ∃ W, W = (w.setCell ⟨b, j * 5 + 1, none⟩ (.int .i64 0)).setCell ⟨b, j * 5 + 2, none⟩ (.int .i64 0) := ⟨_, rfl⟩
    have PW : Hid (QAt base W g a cap b gw vW ms n F R H rt mo ⟨updB s.X j ⟨(s.X j).hs, 0, (s.X j).may, 0, x⟩, s.N, s.T⟩) := by rw [hW]; exact ((HP.out.pst hj 0).pload hj 0).to (by simp [updB_at, updB_two, hx])
    have FW : Hid (Fr (QX b gw vW ms n) w W) := by rw [hW]; exact ((Fr.refl (S := QX b gw vW ms n) _).setS (.inl ⟨by omega, rfl⟩) _ _).setS (.inl ⟨by omega, rfl⟩) _ _
    rw [← hW]
    clear hW h0 c1 c2 z1 z2 hx
    have h0 := PW.out.head0 (by omega)
    have h1 := PW.out.head.2.1
    obtain ⟨-, -, -, -, c4, -⟩ := PW.out.cells hj
    replace c4 : W.cell? ⟨b, j * 5 + 4, none⟩ = some (.int .i64 x) := by rw [c4]; show some (Value.int .i64 (updB s.X j _ j).wait) = _; rw [updB_at]
    have KS : ∀ V, Hid (Fr (fun _ => False) W V) → Calls Try.prog 30 #[.pointer (some ⟨gw, 0, none⟩), .int .i64 (j : Int), .int .i64 x] V fun e w' => ∃ er, e = .returned (.int .i64 er) ∧ ∃ uW, Hid (QAt base w' g a cap b gw uW ms n F R H rt mo ⟨updB s.X j ⟨(s.X j).hs, 0, (s.X j).may, 0, x⟩, s.N, (setT s.N s.T (j : Int) x).2⟩ ∧ Fr (QX b gw vW ms n) w w') := fun V hV => by
      have PV := PW.out.later hV.out
      refine (rqSet_in PV.whl PV.size hN (j : Int) x ⟨by omega, by omega⟩).mono ?_
      rintro e w' ⟨rfl, uW, k1, k2, k3⟩
      exact ⟨_, rfl, uW, PV.pwhl k1 k2, (FW.out.trans (hV.out.mono (fun _ _ e => e.elim))).trans (k2.mono (fun k _ e => .inr (.inr e)))⟩
    have G0 : ∀ q, Hid (Fr (fun _ => False) W (W.drewN q)) := fun q => (Fr.refl _ _).drewN q
    go_region_with (go_at_call 30; refine (KS _ (by first | exact G0 _ | exact G0 1)).mono ?_; rintro e w2 ⟨er, rfl, uW, X2⟩)
    all_goals
      have k0 := X2.out.1.head0 (by omega)
      have k3 := X2.out.1.head.2.2.2
      obtain ⟨-, -, -, -, y4, z⟩ := X2.out.1.cells hj
      have z4 := z (j * 5 + 4)
      clear z
      replace y4 : w2.cell? ⟨b, j * 5 + 4, none⟩ = some (.int .i64 x) := by rw [y4]; show some (Value.int .i64 (updB s.X j _ j).wait) = _; rw [updB_at]
      have hyy : Hid ((if 2 * x < mo then 2 * x else mo) = y) := by show _ = _; rw [← hy]; split <;> split <;> omega
      clear h0 h1 c4 KS G0 PW FW hy
      go_upto_region 8 with (fail)
      go_region
      all_goals
        rw [hyy.out]
        go_wp2_with (fail)
        go_ret
        exact ⟨rfl, uW, ((X2.out.1.pwait hj y).later (Fr.refl _ _).drew).to (by simp [updB_at, updB_two]), (X2.out.2.setS (.inl ⟨by omega, rfl⟩) _ _).drew⟩
end
end Go.Proofs.Ytoiencoojkahmaa
