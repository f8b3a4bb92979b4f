/- Both pools side by side. -/
import Derived.Test.YtoiencoojkahmaaJp
import Derived.Test.YtoiencoojkahmaaJn
import Derived.Test.YtoiencoojkahmaaJi
namespace Go.Proofs.Ytoiencoojkahmaa
open Go.RowKit Go.Maps
set_option linter.unusedVariables false
set_option maxRecDepth 100000
set_option maxHeartbeats 4000000

/-- Blocks that may be the program's pool's, by their tags; the document's. -/
def PT (w : World) (k : Nat) : Prop := ∀ cs t f, w.heap[k]? = some (.cells cs t f) → t = 88 ∨ t = 3 ∨ t = 61 ∨ t = 84
def QT (w : World) (k : Nat) : Prop := ∃ cs t f, w.heap[k]? = some (.cells cs t f) ∧ (t = 72 ∨ t = 90 ∨ t = 93 ∨ t = 95)
theorem pt_not {w : World} {k : Nat} {cs : Array Value} {t : TypeId} {f : Nat × Nat} (h : w.heap[k]? = some (.cells cs t f)) (ht : ¬ (t = 88 ∨ t = 3 ∨ t = 61 ∨ t = 84)) : ¬ PT w k := fun hp => ht (hp cs t f h)
theorem qt_not {w : World} {k : Nat} {cs : Array Value} {t : TypeId} {f : Nat × Nat} (h : w.heap[k]? = some (.cells cs t f)) (ht : ¬ (t = 72 ∨ t = 90 ∨ t = 93 ∨ t = 95)) : ¬ QT w k := by
  rintro ⟨cs', t', f', h', ht'⟩
  rw [h] at h'
  cases h'
  exact ht ht'
theorem pt_qt {w : World} {k : Nat} (hp : PT w k) (hq : QT w k) : False := by
  obtain ⟨cs, t, f, h, ht⟩ := hq
  have h2 := hp cs t f h
  rcases ht with rfl | rfl | rfl | rfl <;> revert h2 <;> decide
section
variable {base : Nat} {w w' : World} {g : Nat} {a : Option Addr} {cap b gw mb : Nat} {vW : Value} {sl : List Value} {ms : Nat → Nat} {n : Nat} {F R H rt mo : Int} {s : Pl}
theorem PAt.pt (h : PAt base w g b gw mb sl ms n F R H rt mo s) {k : Nat} (hk : PX b gw mb sl ms n k) : PT w k := fun cs t f hc => by
  by_cases h1 : t = 88
  · exact .inl h1
  by_cases h2 : t = 3
  · exact .inr (.inl h2)
  by_cases h3 : t = 61
  · exact .inr (.inr (.inl h3))
  by_cases h4 : t = 84
  · exact .inr (.inr (.inr h4))
  exact absurd hk (h.tag hc h1 h2 h3 h4)
theorem QAt.qt (h : QAt base w g a cap b gw vW ms n F R H rt mo s) {k : Nat} (hk : QX b gw vW ms n k) : QT w k := by
  rcases hk with ⟨hn, rfl⟩ | ⟨i, hi, rfl⟩ | rfl | hk
  · obtain ⟨-, cs, hc, -⟩ := h.row hn
    exact ⟨cs, _, _, hc, .inl rfl⟩
  · exact ⟨_, _, _, h.mod i hi, .inr (.inl rfl)⟩
  · exact ⟨_, _, _, h.whl.blk, .inr (.inr (.inl rfl))⟩
  · obtain ⟨-, cur, hc⟩ := h.whl.row.lt k hk
    exact ⟨_, _, _, hc, .inr (.inr (.inr rfl))⟩
end
/-- A pool of the document's, c calls in. -/
structure QI (base : Nat) (w0 : World) (g n : Nat) (F R H rt mo c : Int) (s : Pl) (wr : World) : Prop where
  at_ : ∃ a cap b gw vW ms, QAt base wr g a cap b gw vW ms n F R H rt mo s
  fr : Fr (fun k => base ≤ k) w0 wr
  inv : InvP n F mo c s
  okr : OkR F R H
  okp : OkP (n : Int) rt mo
section
variable {base : Nat} {w0 wr w' : World} {g n : Nat} {F R H rt mo c : Int} {s : Pl}
theorem QI.more (h : QI base w0 g n F R H rt mo c s wr) {d : Int} (hd : c ≤ d) : QI base w0 g n F R H rt mo d s wr := ⟨h.at_, h.fr, h.inv.more hd, h.okr, h.okp⟩
theorem QI.later (h : QI base w0 g n F R H rt mo c s wr) (f : Fr (fun _ => False) wr w') : QI base w0 g n F R H rt mo c s w' := by
  obtain ⟨a, cap, b, gw, vW, ms, ha⟩ := h.at_
  exact ⟨⟨a, cap, b, gw, vW, ms, ha.later f⟩, h.fr.trans (f.mono (fun _ _ e => e.elim)), h.inv, h.okr, h.okp⟩
theorem QI.n16 (h : QI base w0 g n F R H rt mo c s wr) : n ≤ 16 := by have := h.okp.nm; omega
theorem QI.hN (h : QI base w0 g n F R H rt mo c s wr) (hc : c ≤ 900000000000000000) : s.N < 1000000000000000000 := by have := h.inv.Nc; omega
/-- What lies below base is as it was; so a frame by tags keeps to base. -/
theorem PI.keep (h : PI base w0 g n F R H rt mo c s wr) (f : Fr (QT wr) wr w') (fb : Fr (fun k => base ≤ k) wr w') : PI base w0 g n F R H rt mo c s w' := by
  obtain ⟨b, gw, mb, sl, ms, ha⟩ := h.at_
  exact ⟨⟨b, gw, mb, sl, ms, ha.fr f (qt_not ha.blk (by decide)) (fun k hk e => pt_qt (ha.pt hk) e)⟩, h.fr.trans fb, h.inv, h.okr, h.okp⟩
theorem QI.keep (h : QI base w0 g n F R H rt mo c s wr) (f : Fr (PT wr) wr w') (fb : Fr (fun k => base ≤ k) wr w') : QI base w0 g n F R H rt mo c s w' := by
  obtain ⟨a, cap, b, gw, vW, ms, ha⟩ := h.at_
  exact ⟨⟨a, cap, b, gw, vW, ms, ha.fr f (pt_not ha.blk (by decide)) (fun k hk e => pt_qt e (ha.qt hk))⟩, h.fr.trans fb, h.inv, h.okr, h.okp⟩
theorem pi_of2 {b gw mb : Nat} {sl : List Value} {ms : Nat → Nat} {d : Int} {t : Pl} (ha : PAt base wr g b gw mb sl ms n F R H rt mo s) (h : PI base w0 g n F R H rt mo c s wr) (hp : PPost base wr g b gw mb sl ms n F R H rt mo t w') (hi : InvP n F mo d t) : PI base w0 g n F R H rt mo d t w' ∧ Fr (PT wr) wr w' ∧ Fr (fun k => base ≤ k) wr w' := by
  obtain ⟨sl', h1, h2⟩ := id hp
  exact ⟨pi_of ha h hp hi, h2.mono (fun k _ e => ha.pt e), h2.mono (fun k _ e => ha.base_le k e)⟩
theorem qi_of2 {a : Option Addr} {cap b gw : Nat} {vW : Value} {ms : Nat → Nat} {d : Int} {t : Pl} (ha : QAt base wr g a cap b gw vW ms n F R H rt mo s) (h : QI base w0 g n F R H rt mo c s wr) (hp : QPost base wr g a cap b gw vW ms n F R H rt mo t w') (hi : InvP n F mo d t) : QI base w0 g n F R H rt mo d t w' ∧ Fr (QT wr) wr w' ∧ Fr (fun k => base ≤ k) wr w' := by
  obtain ⟨uW, h1, h2⟩ := hp
  exact ⟨⟨⟨a, cap, b, gw, uW, ms, h1⟩, h.fr.trans (h2.mono (fun k _ e => ha.base_le k e)), hi, h.okr, h.okp⟩, h2.mono (fun k _ e => ha.qt e), h2.mono (fun k _ e => ha.base_le k e)⟩
theorem PI.opened2 (h : PI base w0 g n F R H rt mo c s wr) (hc : c ≤ 900000000000000000) (d : Int) : Calls Try.prog 14 #[.pointer (some ⟨g, 0, none⟩), .int .i64 d] wr fun e w' => e = .returned (.int .i64 (anyP n s (opnP rt s) d).1) ∧ PI base w0 g n F R H rt mo (c + 1) (anyP n s (opnP rt s) d).2 w' ∧ Fr (PT wr) wr w' ∧ Fr (fun k => base ≤ k) wr w' := by
  obtain ⟨b, gw, mb, sl, ms, ha⟩ := h.at_
  have hn := h.n16
  have hN := h.hN hc
  have hi := h.inv
  rcases any_case n d with hd | ⟨j, rfl, hj⟩
  · rw [anyP_no n s _ hd]
    refine (plOpened_no _ d 1 wr (.inl rfl) (plfind_arg ha hn hd)).mono ?_
    rintro e w' ⟨rfl, rfl⟩
    exact ⟨rfl, h.more (by omega), Fr.refl _ _, Fr.refl _ _⟩
  · rw [anyP_at n s _ hj]
    refine (plOpened_in ha hn hj (fun e => (hi.b j hj).ld (by omega))).mono ?_
    rintro e w' ⟨rfl, hp⟩
    exact ⟨rfl, pi_of2 ha h hp (hi.opn hj h.okp.r1 h.okp.rm)⟩
theorem QI.opened (h : QI base w0 g n F R H rt mo c s wr) (hc : c ≤ 900000000000000000) (d : Int) : Calls Try.prog 33 #[.pointer (some ⟨g, 0, none⟩), .int .i64 d] wr fun e w' => e = .returned (.int .i64 (anyP n s (opnP rt s) d).1) ∧ QI base w0 g n F R H rt mo (c + 1) (anyP n s (opnP rt s) d).2 w' ∧ Fr (QT wr) wr w' ∧ Fr (fun k => base ≤ k) wr w' := by
  obtain ⟨a, cap, b, gw, vW, ms, ha⟩ := h.at_
  have hn := h.n16
  have hN := h.hN hc
  have hi := h.inv
  rcases any_case n d with hd | ⟨j, rfl, hj⟩
  · rw [anyP_no n s _ hd]
    refine (rplOpened_no _ d wr (rplIs_no ha hn hd)).mono ?_
    rintro e w' ⟨rfl, rfl⟩
    exact ⟨rfl, h.more (by omega), Fr.refl _ _, Fr.refl _ _⟩
  · rw [anyP_at n s _ hj]
    refine (rplOpened_in ha hn hj).mono ?_
    rintro e w' ⟨rfl, hp⟩
    exact ⟨rfl, qi_of2 ha h hp (hi.opn hj h.okp.r1 h.okp.rm)⟩
theorem PI.failed2 (h : PI base w0 g n F R H rt mo c s wr) (hc : c ≤ 900000000000000000) (d : Int) : Calls Try.prog 16 #[.pointer (some ⟨g, 0, none⟩), .int .i64 d] wr fun e w' => e = .returned (.int .i64 (anyP n s (faiP mo s) d).1) ∧ PI base w0 g n F R H rt mo (c + 1) (anyP n s (faiP mo s) d).2 w' ∧ Fr (PT wr) wr w' ∧ Fr (fun k => base ≤ k) wr w' := by
  obtain ⟨b, gw, mb, sl, ms, ha⟩ := h.at_
  have hn := h.n16
  have hN := h.hN hc
  have hi := h.inv
  rcases any_case n d with hd | ⟨j, rfl, hj⟩
  · rw [anyP_no n s _ hd]
    refine (plFailed_no _ d 1 wr (.inl rfl) (plfind_arg ha hn hd)).mono ?_
    rintro e w' ⟨rfl, rfl⟩
    exact ⟨rfl, h.more (by omega), Fr.refl _ _, Fr.refl _ _⟩
  · rw [anyP_at n s _ hj]
    refine (plFailed_in ha hn hj ha.size hN (hi.b j hj).w1 (hi.b j hj).w2 h.okp.mm).mono ?_
    rintro e w' ⟨rfl, hp⟩
    exact ⟨rfl, pi_of2 ha h hp (hi.fai hj (by omega))⟩
theorem QI.failed (h : QI base w0 g n F R H rt mo c s wr) (hc : c ≤ 900000000000000000) (d : Int) : Calls Try.prog 34 #[.pointer (some ⟨g, 0, none⟩), .int .i64 d] wr fun e w' => e = .returned (.int .i64 (anyP n s (faiP mo s) d).1) ∧ QI base w0 g n F R H rt mo (c + 1) (anyP n s (faiP mo s) d).2 w' ∧ Fr (QT wr) wr w' ∧ Fr (fun k => base ≤ k) wr w' := by
  obtain ⟨a, cap, b, gw, vW, ms, ha⟩ := h.at_
  have hn := h.n16
  have hN := h.hN hc
  have hi := h.inv
  rcases any_case n d with hd | ⟨j, rfl, hj⟩
  · rw [anyP_no n s _ hd]
    refine (rplFailed_no _ d wr (rplIs_no ha hn hd)).mono ?_
    rintro e w' ⟨rfl, rfl⟩
    exact ⟨rfl, h.more (by omega), Fr.refl _ _, Fr.refl _ _⟩
  · rw [anyP_at n s _ hj]
    refine (rplFailed_in ha hn hj hN (hi.b j hj).w1 (hi.b j hj).w2 h.okp.mm).mono ?_
    rintro e w' ⟨rfl, hp⟩
    exact ⟨rfl, qi_of2 ha h hp (hi.fai hj (by omega))⟩
theorem PI.drain2 (h : PI base w0 g n F R H rt mo c s wr) (hc : c ≤ 900000000000000000) (d : Int) : Calls Try.prog 21 #[.pointer (some ⟨g, 0, none⟩), .int .i64 d] wr fun e w' => e = .returned (.int .i64 (anyP n s (draP s) d).1) ∧ PI base w0 g n F R H rt mo (c + 1) (anyP n s (draP s) d).2 w' ∧ Fr (PT wr) wr w' ∧ Fr (fun k => base ≤ k) wr w' := by
  obtain ⟨b, gw, mb, sl, ms, ha⟩ := h.at_
  have hn := h.n16
  have hN := h.hN hc
  have hi := h.inv
  rcases any_case n d with hd | ⟨j, rfl, hj⟩
  · rw [anyP_no n s _ hd]
    refine (plDrain_no _ d 1 wr (.inl rfl) (plfind_arg ha hn hd)).mono ?_
    rintro e w' ⟨rfl, rfl⟩
    exact ⟨rfl, h.more (by omega), Fr.refl _ _, Fr.refl _ _⟩
  · rw [anyP_at n s _ hj]
    refine (plDrain_in ha hn hj ha.size hN).mono ?_
    rintro e w' ⟨rfl, hp⟩
    exact ⟨rfl, pi_of2 ha h hp (hi.dra hj (by omega))⟩
theorem QI.drain (h : QI base w0 g n F R H rt mo c s wr) (hc : c ≤ 900000000000000000) (d : Int) : Calls Try.prog 35 #[.pointer (some ⟨g, 0, none⟩), .int .i64 d] wr fun e w' => e = .returned (.int .i64 (anyP n s (draP s) d).1) ∧ QI base w0 g n F R H rt mo (c + 1) (anyP n s (draP s) d).2 w' ∧ Fr (QT wr) wr w' ∧ Fr (fun k => base ≤ k) wr w' := by
  obtain ⟨a, cap, b, gw, vW, ms, ha⟩ := h.at_
  have hn := h.n16
  have hN := h.hN hc
  have hi := h.inv
  rcases any_case n d with hd | ⟨j, rfl, hj⟩
  · rw [anyP_no n s _ hd]
    refine (rplDrain_no _ d wr (rplIs_no ha hn hd)).mono ?_
    rintro e w' ⟨rfl, rfl⟩
    exact ⟨rfl, h.more (by omega), Fr.refl _ _, Fr.refl _ _⟩
  · rw [anyP_at n s _ hj]
    refine (rplDrain_in ha hn hj hN).mono ?_
    rintro e w' ⟨rfl, hp⟩
    exact ⟨rfl, qi_of2 ha h hp (hi.dra hj (by omega))⟩
theorem PI.limit2 (h : PI base w0 g n F R H rt mo c s wr) (hc : c ≤ 900000000000000000) (v : Int) (hv : v ≤ 9223372036854775807) (d : Int) : Calls Try.prog 22 #[.pointer (some ⟨g, 0, none⟩), .int .i64 d, .int .i64 v] wr fun e w' => e = .returned (.int .i64 (anyP n s (fun j => limP s j v) d).1) ∧ PI base w0 g n F R H rt mo (c + 1) (anyP n s (fun j => limP s j v) d).2 w' ∧ Fr (PT wr) wr w' ∧ Fr (fun k => base ≤ k) wr w' := by
  obtain ⟨b, gw, mb, sl, ms, ha⟩ := h.at_
  have hn := h.n16
  have hN := h.hN hc
  have hi := h.inv
  rcases any_case n d with hd | ⟨j, rfl, hj⟩
  · rw [anyP_no n s _ hd]
    refine (plLimit_no _ d 1 v wr (.inl rfl) (plfind_arg ha hn hd)).mono ?_
    rintro e w' ⟨rfl, rfl⟩
    exact ⟨rfl, h.more (by omega), Fr.refl _ _, Fr.refl _ _⟩
  · rw [anyP_at n s _ hj]
    refine (plLimit_in ha hn hj v (hi.b j hj).s0 (hi.b j hj).s3).mono ?_
    rintro e w' ⟨rfl, hp⟩
    exact ⟨rfl, pi_of2 ha h hp (hi.lim hj hv)⟩
theorem QI.limit (h : QI base w0 g n F R H rt mo c s wr) (hc : c ≤ 900000000000000000) (v : Int) (hv : v ≤ 9223372036854775807) (d : Int) : Calls Try.prog 36 #[.pointer (some ⟨g, 0, none⟩), .int .i64 d, .int .i64 v] wr fun e w' => e = .returned (.int .i64 (anyP n s (fun j => limP s j v) d).1) ∧ QI base w0 g n F R H rt mo (c + 1) (anyP n s (fun j => limP s j v) d).2 w' ∧ Fr (QT wr) wr w' ∧ Fr (fun k => base ≤ k) wr w' := by
  obtain ⟨a, cap, b, gw, vW, ms, ha⟩ := h.at_
  have hn := h.n16
  have hN := h.hN hc
  have hi := h.inv
  rcases any_case n d with hd | ⟨j, rfl, hj⟩
  · rw [anyP_no n s _ hd]
    refine (rplLimit_no _ d v wr (rplIs_no ha hn hd)).mono ?_
    rintro e w' ⟨rfl, rfl⟩
    exact ⟨rfl, h.more (by omega), Fr.refl _ _, Fr.refl _ _⟩
  · rw [anyP_at n s _ hj]
    refine (rplLimit_in ha hn hj v).mono ?_
    rintro e w' ⟨rfl, hp⟩
    exact ⟨rfl, qi_of2 ha h hp (hi.lim hj hv)⟩
theorem PI.take2 (h : PI base w0 g n F R H rt mo c s wr) (hc : c ≤ 900000000000000000) (d : Int) : Calls Try.prog 18 #[.pointer (some ⟨g, 0, none⟩), .int .i64 d] wr fun e w' => e = .returned (.int .i64 (anyP n s (takP s) d).1) ∧ PI base w0 g n F R H rt mo (c + 1) (anyP n s (takP s) d).2 w' ∧ Fr (PT wr) wr w' ∧ Fr (fun k => base ≤ k) wr w' := by
  obtain ⟨b, gw, mb, sl, ms, ha⟩ := h.at_
  have hn := h.n16
  have hN := h.hN hc
  have hi := h.inv
  rcases any_case n d with hd | ⟨j, rfl, hj⟩
  · rw [anyP_no n s _ hd]
    refine (plTake_no _ d 1 wr (.inl rfl) (plfind_arg ha hn hd)).mono ?_
    rintro e w' ⟨rfl, rfl⟩
    exact ⟨rfl, h.more (by omega), Fr.refl _ _, Fr.refl _ _⟩
  · rw [anyP_at n s _ hj]
    refine (plTake_in ha hn hj (hi.b j hj).l0 (by have := (hi.b j hj).lc; omega)).mono ?_
    rintro e w' ⟨rfl, hp⟩
    exact ⟨rfl, pi_of2 ha h hp (hi.tak hj)⟩
theorem QI.take (h : QI base w0 g n F R H rt mo c s wr) (hc : c ≤ 900000000000000000) (d : Int) : Calls Try.prog 19 #[.pointer (some ⟨g, 0, none⟩), .int .i64 d] wr fun e w' => e = .returned (.int .i64 (anyP n s (takP s) d).1) ∧ QI base w0 g n F R H rt mo (c + 1) (anyP n s (takP s) d).2 w' ∧ Fr (QT wr) wr w' ∧ Fr (fun k => base ≤ k) wr w' := by
  obtain ⟨a, cap, b, gw, vW, ms, ha⟩ := h.at_
  have hn := h.n16
  have hN := h.hN hc
  have hi := h.inv
  rcases any_case n d with hd | ⟨j, rfl, hj⟩
  · rw [anyP_no n s _ hd]
    refine (rplTake_no _ d wr (rplIs_no ha hn hd)).mono ?_
    rintro e w' ⟨rfl, rfl⟩
    exact ⟨rfl, h.more (by omega), Fr.refl _ _, Fr.refl _ _⟩
  · rw [anyP_at n s _ hj]
    refine (rplTake_in ha hn hj (hi.b j hj).l0 (by have := (hi.b j hj).lc; omega)).mono ?_
    rintro e w' ⟨rfl, hp⟩
    exact ⟨rfl, qi_of2 ha h hp (hi.tak hj)⟩
theorem PI.put2 (h : PI base w0 g n F R H rt mo c s wr) (hc : c ≤ 900000000000000000) (d : Int) : Calls Try.prog 23 #[.pointer (some ⟨g, 0, none⟩), .int .i64 d] wr fun e w' => e = .returned (.int .i64 (anyP n s (putP s) d).1) ∧ PI base w0 g n F R H rt mo (c + 1) (anyP n s (putP s) d).2 w' ∧ Fr (PT wr) wr w' ∧ Fr (fun k => base ≤ k) wr w' := by
  obtain ⟨b, gw, mb, sl, ms, ha⟩ := h.at_
  have hn := h.n16
  have hN := h.hN hc
  have hi := h.inv
  rcases any_case n d with hd | ⟨j, rfl, hj⟩
  · rw [anyP_no n s _ hd]
    refine (plPut_no _ d 1 wr (.inl rfl) (plfind_arg ha hn hd)).mono ?_
    rintro e w' ⟨rfl, rfl⟩
    exact ⟨rfl, h.more (by omega), Fr.refl _ _, Fr.refl _ _⟩
  · rw [anyP_at n s _ hj]
    refine (plPut_in ha hn hj ha.size hN (hi.b j hj).l0 (by have := (hi.b j hj).lc; omega)).mono ?_
    rintro e w' ⟨rfl, hp⟩
    exact ⟨rfl, pi_of2 ha h hp (hi.put hj (by omega))⟩
theorem QI.put (h : QI base w0 g n F R H rt mo c s wr) (hc : c ≤ 900000000000000000) (d : Int) : Calls Try.prog 37 #[.pointer (some ⟨g, 0, none⟩), .int .i64 d] wr fun e w' => e = .returned (.int .i64 (anyP n s (putP s) d).1) ∧ QI base w0 g n F R H rt mo (c + 1) (anyP n s (putP s) d).2 w' ∧ Fr (QT wr) wr w' ∧ Fr (fun k => base ≤ k) wr w' := by
  obtain ⟨a, cap, b, gw, vW, ms, ha⟩ := h.at_
  have hn := h.n16
  have hN := h.hN hc
  have hi := h.inv
  rcases any_case n d with hd | ⟨j, rfl, hj⟩
  · rw [anyP_no n s _ hd]
    refine (rplPut_no _ d wr (rplIs_no ha hn hd)).mono ?_
    rintro e w' ⟨rfl, rfl⟩
    exact ⟨rfl, h.more (by omega), Fr.refl _ _, Fr.refl _ _⟩
  · rw [anyP_at n s _ hj]
    refine (rplPut_in ha hn hj hN (hi.b j hj).l0 (by have := (hi.b j hj).lc; omega)).mono ?_
    rintro e w' ⟨rfl, hp⟩
    exact ⟨rfl, qi_of2 ha h hp (hi.put hj (by omega))⟩
theorem PI.probe2 (h : PI base w0 g n F R H rt mo c s wr) (hc : c ≤ 900000000000000000) (v : Bool) (d : Int) : Calls Try.prog 24 #[.pointer (some ⟨g, 0, none⟩), .int .i64 d, .bool v] wr fun e w' => e = .returned (.int .i64 (anyP n s (fun j => (0, prbP F R H s j v)) d).1) ∧ PI base w0 g n F R H rt mo (c + 1) (anyP n s (fun j => (0, prbP F R H s j v)) d).2 w' ∧ Fr (PT wr) wr w' ∧ Fr (fun k => base ≤ k) wr w' := by
  obtain ⟨b, gw, mb, sl, ms, ha⟩ := h.at_
  have hn := h.n16
  have hN := h.hN hc
  have hi := h.inv
  rcases any_case n d with hd | ⟨j, rfl, hj⟩
  · rw [anyP_no n s _ hd]
    refine (plProbe_no _ d 1 v wr (.inl rfl) (plfind_arg ha hn hd)).mono ?_
    rintro e w' ⟨rfl, rfl⟩
    exact ⟨rfl, h.more (by omega), Fr.refl _ _, Fr.refl _ _⟩
  · rw [anyP_at n s _ hj]
    refine (plProbe_in ha hn hj v h.okr.f1 (hi.b j hj).h (by omega)).mono ?_
    rintro e w' ⟨rfl, hp⟩
    exact ⟨rfl, pi_of2 ha h hp (hi.prb h.okr hj v)⟩
theorem QI.probe (h : QI base w0 g n F R H rt mo c s wr) (hc : c ≤ 900000000000000000) (v : Bool) (d : Int) : Calls Try.prog 38 #[.pointer (some ⟨g, 0, none⟩), .int .i64 d, .bool v] wr fun e w' => e = .returned (.int .i64 (anyP n s (fun j => (0, prbP F R H s j v)) d).1) ∧ QI base w0 g n F R H rt mo (c + 1) (anyP n s (fun j => (0, prbP F R H s j v)) d).2 w' ∧ Fr (QT wr) wr w' ∧ Fr (fun k => base ≤ k) wr w' := by
  obtain ⟨a, cap, b, gw, vW, ms, ha⟩ := h.at_
  have hn := h.n16
  have hN := h.hN hc
  have hi := h.inv
  rcases any_case n d with hd | ⟨j, rfl, hj⟩
  · rw [anyP_no n s _ hd]
    refine (rplProbe_no _ d v wr (rplIs_no ha hn hd)).mono ?_
    rintro e w' ⟨rfl, rfl⟩
    exact ⟨rfl, h.more (by omega), Fr.refl _ _, Fr.refl _ _⟩
  · rw [anyP_at n s _ hj]
    refine (rplProbe_in ha hn hj v (hi.b j hj).h (by omega)).mono ?_
    rintro e w' ⟨rfl, hp⟩
    exact ⟨rfl, qi_of2 ha h hp (hi.prb h.okr hj v)⟩
theorem QI.state (h : QI base w0 g n F R H rt mo c s wr) (d : Int) : Calls Try.prog 40 #[.pointer (some ⟨g, 0, none⟩), .int .i64 d] wr fun e w' => e = .returned (.int .i64 (staI n s d)) ∧ wr = w' := by
  obtain ⟨a, cap, b, gw, vW, ms, ha⟩ := h.at_
  have hn := h.n16
  rcases any_case n d with hd | ⟨j, rfl, hj⟩
  · have e : staI n s d = -1 := if_neg (by omega)
    rw [e]
    exact rplState_no _ d wr (rplIs_no ha hn hd)
  · have e : staI n s (j : Int) = (s.X j).st := by unfold staI; rw [if_pos ⟨by omega, by omega⟩, Int.toNat_natCast]
    rw [e]
    exact rplState_in ha hn hj
theorem QI.wait (h : QI base w0 g n F R H rt mo c s wr) (d : Int) : Calls Try.prog 41 #[.pointer (some ⟨g, 0, none⟩), .int .i64 d] wr fun e w' => e = .returned (.int .i64 (waiI n s d)) ∧ wr = w' := by
  obtain ⟨a, cap, b, gw, vW, ms, ha⟩ := h.at_
  have hn := h.n16
  rcases any_case n d with hd | ⟨j, rfl, hj⟩
  · have e : waiI n s d = 0 := if_neg (by omega)
    rw [e]
    exact rplWait_no _ d wr (rplIs_no ha hn hd)
  · have e : waiI n s (j : Int) = (s.X j).wait := by unfold waiI; rw [if_pos ⟨by omega, by omega⟩, Int.toNat_natCast]
    rw [e]
    exact rplWait_in ha hn hj
theorem PI.tick2 (h : PI base w0 g n F R H rt mo c s wr) (hc : c ≤ 900000000000000000) : Calls Try.prog 13 #[.pointer (some ⟨g, 0, none⟩)] wr fun e w' => ∃ a m q, e = .returned (.slice a m q) ∧ Hid (OwnAt w' 3 (.slice a m q) (iv (dueT s.N s.T)) ∧ PI base w0 g n F R H rt mo (c + 1) (ticP n s) w' ∧ Fr (PT wr) wr w' ∧ Fr (fun k => base ≤ k) wr w') := by
  obtain ⟨b, gw, mb, sl, ms, ha⟩ := h.at_
  refine (plTick_in ha ha.size h.n16 h.okr.f1 h.inv (h.hN hc)).mono ?_
  rintro e w' ⟨a, m, q, rfl, h1, h2, h3⟩
  exact ⟨a, m, q, rfl, h1, pi_of2 ha h h3 h.inv.tic⟩
theorem QI.tick (h : QI base w0 g n F R H rt mo c s wr) (hc : c ≤ 900000000000000000) : Calls Try.prog 32 #[.pointer (some ⟨g, 0, none⟩)] wr fun e w' => ∃ a m q, e = .returned (.slice a m q) ∧ Hid (OwnAt w' 3 (.slice a m q) (iv (dueT s.N s.T)) ∧ QI base w0 g n F R H rt mo (c + 1) (ticP n s) w' ∧ Fr (QT wr) wr w' ∧ Fr (fun k => base ≤ k) wr w') := by
  obtain ⟨a, cap, b, gw, vW, ms, ha⟩ := h.at_
  refine (rplTick_in ha h.n16 h.inv (h.hN hc)).mono ?_
  rintro e w' ⟨a, m, q, rfl, h1, h2, h3⟩
  exact ⟨a, m, q, rfl, h1, qi_of2 ha h h3 h.inv.tic⟩
theorem QI.backs (h : QI base w0 g n F R H rt mo c s wr) (hc : c ≤ 900000000000000000) : Calls Try.prog 39 #[.pointer (some ⟨g, 0, none⟩)] wr fun e w' => ∃ v, e = .returned v ∧ SeeQ wr w' s.X n v ∧ Fr (fun _ => False) wr w' := by
  obtain ⟨a, cap, b, gw, vW, ms, ha⟩ := h.at_
  exact rplBacks_in ha h.n16 h.inv (by omega)
end
theorem rplNew_qi (w0 : World) (base : Nat) (w : World) (hb : base ≤ w.heap.size) (hf : Fr (fun k => base ≤ k) w0 w) (n : Nat) (F R H rt mo : Int) (hr : OkR F R H) (hp : OkP (n : Int) rt mo) : Calls Try.prog 9 #[.int .i64 (n : Int), .agg #[.int .i64 F, .int .i64 R, .int .i64 H], .int .i64 rt, .int .i64 mo] w fun e w' => ∃ g, e = .returned (.tuple #[.pointer (some ⟨g, 0, none⟩), .int .i64 0]) ∧ QI base w0 g n F R H rt mo 0 (newP rt n) w' ∧ Fr (fun _ => False) w w' := by
  refine (rplNew_yes w n F R H rt mo hr hp).mono ?_
  rintro e w' ⟨g, a, cap, b, gw, vW, ms, rfl, h1, h2⟩
  refine ⟨g, rfl, ⟨⟨a, cap, b, gw, vW, ms, ?_⟩, hf.trans (h2.mono (fun _ _ e => e.elim)), newP_inv (by have := hp.nm; omega) hr hp.r1 hp.rm, hr, hp⟩, h2⟩
  exact ⟨h1.blk, h1.row, h1.mod, ⟨h1.whl.blk, h1.whl.row, h1.whl.inv, Nat.le_trans hb h1.whl.bg, fun k hk => Nat.le_trans hb (h1.whl.bL k hk)⟩, h1.nd, Nat.le_trans hb h1.bg, fun h0 => Nat.le_trans hb (h1.bb h0), fun i hi => Nat.le_trans hb (h1.bm i hi)⟩
/-- Both, with a call's box. -/
structure BxP (base : Nat) (w0 : World) (g g2 n : Nat) (F R H rt mo c : Int) (s : Pl) (d : Int) (t : Pl) (go : Nat) (ob : Array Value) (wr : World) : Prop where
  p : PI base w0 g n F R H rt mo c s wr
  q : QI base w0 g2 n F R H rt mo d t wr
  b : wr.heap[go]? = some (.cells ob 34 (0, 0))
section
variable {base : Nat} {w0 wr w' : World} {g g2 n : Nat} {F R H rt mo c d x : Int} {s t u : Pl} {go : Nat} {ob : Array Value}
theorem BxP.later (h : BxP base w0 g g2 n F R H rt mo c s d t go ob wr) (f : Fr (fun _ => False) wr w') : BxP base w0 g g2 n F R H rt mo c s d t go ob w' := ⟨h.p.later f, h.q.later f, (f.block go (lt_of_heap h.b) id).trans h.b⟩
theorem BxP.goP (h : BxP base w0 g g2 n F R H rt mo c s d t go ob wr) (hp : PI base w0 g n F R H rt mo x u w' ∧ Fr (PT wr) wr w' ∧ Fr (fun k => base ≤ k) wr w') : BxP base w0 g g2 n F R H rt mo x u d t go ob w' :=
  ⟨hp.1, h.q.keep hp.2.1 hp.2.2, (hp.2.1.block go (lt_of_heap h.b) (pt_not h.b (by decide))).trans h.b⟩
theorem BxP.goQ (h : BxP base w0 g g2 n F R H rt mo c s d t go ob wr) (hp : QI base w0 g2 n F R H rt mo x u w' ∧ Fr (QT wr) wr w' ∧ Fr (fun k => base ≤ k) wr w') : BxP base w0 g g2 n F R H rt mo c s x u go ob w' :=
  ⟨h.p.keep hp.2.1 hp.2.2, hp.1, (hp.2.1.block go (lt_of_heap h.b) (qt_not h.b (by decide))).trans h.b⟩
end
end Go.Proofs.Ytoiencoojkahmaa
