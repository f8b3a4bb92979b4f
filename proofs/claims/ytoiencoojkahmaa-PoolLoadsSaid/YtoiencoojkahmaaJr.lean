/- Both pools tell the same. -/
import Derived.Test.YtoiencoojkahmaaJq
import Derived.Deep.RegionHeldLaw
import Derived.Deep.Cut
import Derived.BigQuiet
import Derived.Laws.StructEq
namespace Go.Proofs.Ytoiencoojkahmaa
open Go.RowKit Go.Maps
set_option linter.unusedVariables false
set_option maxRecDepth 100000
set_option maxHeartbeats 4000000

theorem plints_in (a b : Option Addr) (c d n m : Nat) (xs : List Int) (w : World) (h1 : OwnAt w 3 (.slice a n c) (iv xs)) (h2 : OwnAt w 3 (.slice b m d) (iv xs)) (hx : xs.length ≤ 4096) :
    Calls Try.prog 31 #[.slice a n c, .slice b m d] w fun e w' => e = .returned (.bool true) ∧ Fr (fun _ => False) w w' := by
  have H1 : Hid (OwnAt w 3 (.slice a n c) (iv xs)) := h1
  have H2 : Hid (OwnAt w 3 (.slice b m d) (iv xs)) := h2
  have hm := h2.lenI.1
  have hn := h1.lenI.1
  rw [← hn] at hm
  subst hm
  have HN : Hid (xs.length = m) := hn.symm
  rw [← hn] at hx
  clear h1 h2 hn
  go_enter Try.func31, Try.ntmps31
  go_wp2_with (fail)
  go_loopw [5] (fun x5 wr => ∃ i : Nat, x5 = .int .i64 (i : Int) ∧ i ≤ m ∧ Hid (Fr (fun _ => False) w wr)) (fun x5 _ => m - (intOf x5).toNat)
  case atStart => exact ⟨0, rfl, by omega, Fr.refl _ _⟩
  case round =>
    obtain ⟨i, rfl, hin, HF⟩ := hrel
    by_cases hlt : i < m
    · obtain ⟨x, hs⟩ : ∃ x, xs[i]? = some x := ⟨_, List.getElem?_eq_getElem (by rw [HN.out]; exact hlt)⟩
      obtain ⟨g1, o1, rfl, -, a0⟩ := (H1.out.fr HF.out (fun _ _ => id)).ints i x hs
      obtain ⟨g2, o2, rfl, -, b0⟩ := (H2.out.fr HF.out (fun _ _ => id)).ints i x hs
      have hlt2 : (i : Int) < (m : Int) := by omega
      clear hs
      go_wp2_with (fail)
      go_quiet (fail)
      go_wp2_with (fail)
      go_roundw
      case rel => exact ⟨i + 1, by go_num, by omega, HF.out.drewN _⟩
      case measure => simp [intOf]; omega
    · go_wp2_with (fail)
      go_ret
      exact ⟨rfl, HF.out⟩
theorem SeeAt.cells {w w' wr : World} {X : Nat → Bk} {n : Nat} {v : Value} (h : SeeAt w w' X n v) (f : Fr (fun _ => False) w' wr) : ∃ o cap, v = .slice (some ⟨o, 0, none⟩) n cap ∧ ∀ i, i < n → wr.cell? ⟨o, i * 3, none⟩ = some (.bool (seeU (X i))) ∧ wr.cell? ⟨o, i * 3 + 1, none⟩ = some (.int .i64 (seeS (X i))) ∧ wr.cell? ⟨o, i * 3 + 2, none⟩ = some (.int .i64 (X i).load) := by
  obtain ⟨o, cap, cs, rfl, ho, hc, hs⟩ := h
  have hc2 := (f.block o (lt_of_heap hc) id).trans hc
  refine ⟨o, cap, rfl, fun i hi => ?_⟩
  obtain ⟨h1, h2, h3⟩ := hs.a i hi
  exact ⟨cell_of_heap hc2 h1, cell_of_heap hc2 h2, cell_of_heap hc2 h3⟩
theorem SeeQ.cells {w w' wr : World} {X : Nat → Bk} {n : Nat} {v : Value} (h : SeeQ w w' X n v) (f : Fr (fun _ => False) w' wr) : ∃ p cap, v = .slice p n cap ∧ ∀ i, i < n → ∃ o, p = some ⟨o, 0, none⟩ ∧ wr.cell? ⟨o, i * 3, none⟩ = some (.bool (seeU (X i))) ∧ wr.cell? ⟨o, i * 3 + 1, none⟩ = some (.int .i64 (seeS (X i))) ∧ wr.cell? ⟨o, i * 3 + 2, none⟩ = some (.int .i64 (X i).load) := by
  obtain ⟨p, cap, rfl, hr, hk⟩ := h
  refine ⟨p, cap, rfl, fun i hi => ?_⟩
  obtain ⟨o, cap', cur, e, hc, hx⟩ := (hr.fr f (fun _ _ => id)).blk (by omega)
  cases e
  have L : ∀ i, (seeC X i).length = 3 := fun _ => rfl
  have key : ∀ l, l < 3 → ∀ u, (seeC X i)[l]? = some u → wr.cell? ⟨o, i * 3 + l, none⟩ = some u := fun l hl u hu => cell_of_heap hc (hx _ _ ((catL_at L hl hi).trans hu))
  exact ⟨o, rfl, key 0 (by omega) _ rfl, key 1 (by omega) _ rfl, key 2 (by omega) _ rfl⟩
theorem plsame_in {base : Nat} {w0 wr : World} {g g2 n : Nat} {F R H rt mo c d : Int} {s : Pl} (hp : PI base w0 g n F R H rt mo c s wr) (hq : QI base w0 g2 n F R H rt mo d s wr) (hc : c ≤ 900000000000000000) (hd : d ≤ 900000000000000000) :
    Calls Try.prog 11 #[.pointer (some ⟨g, 0, none⟩), .pointer (some ⟨g2, 0, none⟩)] wr fun e w' => e = .returned (.bool true) ∧ Fr (fun _ => False) wr w' := by
  have hn := hp.n16
  have KB := hp.backs hc
  have KR : ∀ w, Fr (fun _ => False) wr w → _ := fun w f => (hq.later f).backs hd
  have HP : Hid (PI base w0 g n F R H rt mo c s wr) := hp
  have HQ : Hid (QI base w0 g2 n F R H rt mo d s wr) := hq
  clear hp hq
  go_enter Try.func11, Try.ntmps11
  go_upto_region 2 with (go_at_call 17; refine KB.mono ?_; clear KB; rintro e w1 ⟨v1, rfl, a1, f1⟩)
  have KR2 := KR w1 f1
  clear KR
  have A1 : Hid (SeeAt wr w1 s.X n v1) := a1
  have F1 : Hid (Fr (fun _ => False) wr w1) := f1
  clear a1 f1
  obtain ⟨o, cap, rfl, -⟩ := A1.out.cells (Fr.refl _ _)
  go_upto_region 3 with (go_at_call 39; refine KR2.mono ?_; clear KR2; rintro e w2 ⟨v2, rfl, a2, f2⟩)
  obtain ⟨p, cap2, rfl, -⟩ := a2.cells (Fr.refl _ _)
  have A2 : Hid (SeeQ w1 w2 s.X n (.slice p n cap2)) := a2
  have F2 : Hid (Fr (fun _ => False) w1 w2) := f2
  clear a2 f2
  go_wp2_with (fail)
  go_loopw [7] (fun x7 wz => ∃ i : Nat, x7 = .int .i64 (i : Int) ∧ i ≤ n ∧ Hid (Fr (fun _ => False) w2 wz)) (fun x7 _ => n - (intOf x7).toNat)
  case atStart => exact ⟨0, rfl, by omega, Fr.refl _ _⟩
  case round =>
    obtain ⟨i, rfl, hin, HF⟩ := hrel
    rename World => wz
    by_cases hlt : i < n
    · have hlt2 : (i : Int) < (n : Int) := by omega
      obtain ⟨o', cap', e1, hx⟩ := A1.out.cells (F2.out.trans HF.out)
      cases e1
      obtain ⟨x0, x1, x2⟩ := hx i hlt
      obtain ⟨p', cap2', e2, hy⟩ := A2.out.cells HF.out
      cases e2
      obtain ⟨o2, rfl, y0, y1, y2⟩ := hy i hlt
      generalize seeU (s.X i) = u at x0 y0
      generalize seeS (s.X i) = y at x1 y1
      generalize (s.X i).load = l at x2 y2
      clear hx hy
      go_wp2_with (fail)
      go_quiet (fail)
      go_wp2_with (fail)
      go_roundw
      case rel => exact ⟨i + 1, by go_num, by omega, HF.out.drewN _⟩
      case measure => simp [intOf]; omega
    · have hge : i = n := by omega
      subst hge
      have FW : Hid (Fr (fun _ => False) wr wz) := F1.out.trans (F2.out.trans HF.out)
      clear F1 F2 HF A1 A2 hlt hin
      go_wp2_with (fail)
      go_loopw [8] (fun x8 wy => ∃ d : Int, x8 = .int .i64 d ∧ -1 ≤ d ∧ d ≤ (i : Int) + 1 ∧ Hid (Fr (fun _ => False) wr wy)) (fun x8 _ => ((i : Int) + 1 - intOf x8).toNat)
      case atStart => exact ⟨-1, rfl, by omega, by omega, FW.out⟩
      case round =>
        clear FW
        obtain ⟨d', rfl, hd1, hd2, HF⟩ := hrel
        rename World => wy
        by_cases hle : d' ≤ (i : Int)
        · have K1 := (HP.out.later HF.out).state d'
          have K2 := (HQ.out.later HF.out).state d'
          have K3 := (HP.out.later HF.out).wait d'
          have K4 := (HQ.out.later HF.out).wait d'
          generalize staI i s d' = z1 at K1 K2
          generalize waiI i s d' = z2 at K3 K4
          go_wp2_with (first | (go_at_call 20; refine K1.mono ?_; clear K1; rintro e w' ⟨rfl, rfl⟩) | (go_at_call 40; refine K2.mono ?_; clear K2; rintro e w' ⟨rfl, rfl⟩) | (go_at_call 15; refine K3.mono ?_; clear K3; rintro e w' ⟨rfl, rfl⟩) | (go_at_call 41; refine K4.mono ?_; clear K4; rintro e w' ⟨rfl, rfl⟩))
          go_roundw
          case rel => exact ⟨d' + 1, by go_num, by omega, by omega, HF.out⟩
          case measure => simp [intOf]; omega
        · go_wp2_with (fail)
          go_ret
          exact ⟨rfl, HF.out⟩
end Go.Proofs.Ytoiencoojkahmaa
