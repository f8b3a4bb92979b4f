/- A pool's calls, whatever number they name. -/
import Derived.Test.YtoiencoojkahmaaJh
namespace Go.Proofs.Ytoiencoojkahmaa
open Go.RowKit Go.Maps
set_option linter.unusedVariables false
set_option maxRecDepth 100000
set_option maxHeartbeats 4000000

/-- A call that names a backend: refused where there is none. -/
def anyP (n : Nat) (s : Pl) (f : Nat → Int × Pl) (d : Int) : Int × Pl := if 0 ≤ d ∧ d < (n : Int) then f d.toNat else (1, s)
theorem anyP_at (n : Nat) (s : Pl) (f : Nat → Int × Pl) {j : Nat} (hj : j < n) : anyP n s f (j : Int) = f j := by
  unfold anyP
  rw [if_pos ⟨by omega, by omega⟩, Int.toNat_natCast]
theorem anyP_no (n : Nat) (s : Pl) (f : Nat → Int × Pl) {d : Int} (hd : d < 0 ∨ (n : Int) ≤ d) : anyP n s f d = (1, s) := if_neg (by omega)
theorem any_case (n : Nat) (d : Int) : (d < 0 ∨ (n : Int) ≤ d) ∨ ∃ j : Nat, d = (j : Int) ∧ j < n := by
  by_cases h : d < 0 ∨ (n : Int) ≤ d
  · exact .inl h
  · exact .inr ⟨d.toNat, by omega, by omega⟩
/-- A pool of the program's, c calls in. -/
structure PI (base : Nat) (w0 : World) (g n : Nat) (F R H rt mo c : Int) (s : Pl) (wr : World) : Prop where
  at_ : ∃ b gw mb sl ms, PAt base wr g b gw mb sl ms n F R H rt mo s
  fr : Fr (fun k => base ≤ k) w0 wr
  inv : InvP n F mo c s
  okr : OkR F R H
  okp : OkP (n : Int) rt mo
section
variable {base : Nat} {w0 wr w' : World} {g n : Nat} {F R H rt mo c : Int} {s : Pl}
theorem PI.more (h : PI base w0 g n F R H rt mo c s wr) {d : Int} (hd : c ≤ d) : PI base w0 g n F R H rt mo d s wr := ⟨h.at_, h.fr, h.inv.more hd, h.okr, h.okp⟩
theorem PI.later (h : PI base w0 g n F R H rt mo c s wr) (f : Fr (fun _ => False) wr w') : PI base w0 g n F R H rt mo c s w' := by
  obtain ⟨b, gw, mb, sl, ms, ha⟩ := h.at_
  exact ⟨⟨b, gw, mb, sl, ms, ha.later f⟩, h.fr.trans (f.mono (fun _ _ e => e.elim)), h.inv, h.okr, h.okp⟩
theorem PI.n16 (h : PI base w0 g n F R H rt mo c s wr) : n ≤ 16 := by have := h.okp.nm; omega
theorem PI.hN (h : PI base w0 g n F R H rt mo c s wr) (hc : c ≤ 900000000000000000) : s.N < 1000000000000000000 := by have := h.inv.Nc; omega
theorem pi_of {b gw mb : Nat} {sl : List Value} {ms : Nat → Nat} {d : Int} {t : Pl} (ha : PAt base wr g b gw mb sl ms n F R H rt mo s) (h : PI base w0 g n F R H rt mo c s wr) (hp : PPost base wr g b gw mb sl ms n F R H rt mo t w') (hi : InvP n F mo d t) : PI base w0 g n F R H rt mo d t w' := by
  obtain ⟨sl', h1, h2⟩ := hp
  exact ⟨⟨b, gw, mb, sl', ms, h1⟩, h.fr.trans (h2.mono (fun k _ e => ha.base_le k e)), hi, h.okr, h.okp⟩
theorem PAt.size {b gw mb : Nat} {sl : List Value} {ms : Nat → Nat} (ha : PAt base wr g b gw mb sl ms n F R H rt mo s) : base ≤ wr.heap.size := by have := ha.bg; have := lt_of_heap ha.blk; omega
/-- What may change beside a pool. -/
theorem PI.own (h : PI base w0 g n F R H rt mo c s wr) : base ≤ wr.heap.size := by
  obtain ⟨b, gw, mb, sl, ms, ha⟩ := h.at_
  exact ha.size
theorem PI.opened (h : PI base w0 g n F R H rt mo c s wr) (hc : c ≤ 900000000000000000) (d : Int) : Calls Try.prog 14 #[.pointer (some ⟨g, 0, none⟩), .int .i64 d] wr fun e w' => e = .returned (.int .i64 (anyP n s (opnP rt s) d).1) ∧ PI base w0 g n F R H rt mo (c + 1) (anyP n s (opnP rt s) d).2 w' := by
  obtain ⟨b, gw, mb, sl, ms, ha⟩ := h.at_
  have hn := h.n16
  have hN := h.hN hc
  have hi := h.inv
  rcases any_case n d with hd | ⟨j, rfl, hj⟩
  · rw [anyP_no n s _ hd]
    refine (plOpened_no _ d 1 wr (.inl rfl) (plfind_arg ha hn hd)).mono ?_
    rintro e w' ⟨rfl, rfl⟩
    exact ⟨rfl, h.more (by omega)⟩
  · rw [anyP_at n s _ hj]
    refine (plOpened_in ha hn hj (fun e => (hi.b j hj).ld (by omega))).mono ?_
    rintro e w' ⟨rfl, hp⟩
    exact ⟨rfl, pi_of ha h hp (hi.opn hj h.okp.r1 h.okp.rm)⟩
theorem PI.failed (h : PI base w0 g n F R H rt mo c s wr) (hc : c ≤ 900000000000000000) (d : Int) : Calls Try.prog 16 #[.pointer (some ⟨g, 0, none⟩), .int .i64 d] wr fun e w' => e = .returned (.int .i64 (anyP n s (faiP mo s) d).1) ∧ PI base w0 g n F R H rt mo (c + 1) (anyP n s (faiP mo s) d).2 w' := by
  obtain ⟨b, gw, mb, sl, ms, ha⟩ := h.at_
  have hn := h.n16
  have hN := h.hN hc
  have hi := h.inv
  rcases any_case n d with hd | ⟨j, rfl, hj⟩
  · rw [anyP_no n s _ hd]
    refine (plFailed_no _ d 1 wr (.inl rfl) (plfind_arg ha hn hd)).mono ?_
    rintro e w' ⟨rfl, rfl⟩
    exact ⟨rfl, h.more (by omega)⟩
  · rw [anyP_at n s _ hj]
    refine (plFailed_in ha hn hj ha.size hN (hi.b j hj).w1 (hi.b j hj).w2 h.okp.mm).mono ?_
    rintro e w' ⟨rfl, hp⟩
    exact ⟨rfl, pi_of ha h hp (hi.fai hj (by omega))⟩
theorem PI.drain (h : PI base w0 g n F R H rt mo c s wr) (hc : c ≤ 900000000000000000) (d : Int) : Calls Try.prog 21 #[.pointer (some ⟨g, 0, none⟩), .int .i64 d] wr fun e w' => e = .returned (.int .i64 (anyP n s (draP s) d).1) ∧ PI base w0 g n F R H rt mo (c + 1) (anyP n s (draP s) d).2 w' := by
  obtain ⟨b, gw, mb, sl, ms, ha⟩ := h.at_
  have hn := h.n16
  have hN := h.hN hc
  have hi := h.inv
  rcases any_case n d with hd | ⟨j, rfl, hj⟩
  · rw [anyP_no n s _ hd]
    refine (plDrain_no _ d 1 wr (.inl rfl) (plfind_arg ha hn hd)).mono ?_
    rintro e w' ⟨rfl, rfl⟩
    exact ⟨rfl, h.more (by omega)⟩
  · rw [anyP_at n s _ hj]
    refine (plDrain_in ha hn hj ha.size hN).mono ?_
    rintro e w' ⟨rfl, hp⟩
    exact ⟨rfl, pi_of ha h hp (hi.dra hj (by omega))⟩
theorem PI.limit (h : PI base w0 g n F R H rt mo c s wr) (hc : c ≤ 900000000000000000) (v : Int) (hv : v ≤ 9223372036854775807) (d : Int) : Calls Try.prog 22 #[.pointer (some ⟨g, 0, none⟩), .int .i64 d, .int .i64 v] wr fun e w' => e = .returned (.int .i64 (anyP n s (fun j => limP s j v) d).1) ∧ PI base w0 g n F R H rt mo (c + 1) (anyP n s (fun j => limP s j v) d).2 w' := by
  obtain ⟨b, gw, mb, sl, ms, ha⟩ := h.at_
  have hn := h.n16
  have hN := h.hN hc
  have hi := h.inv
  rcases any_case n d with hd | ⟨j, rfl, hj⟩
  · rw [anyP_no n s _ hd]
    refine (plLimit_no _ d 1 v wr (.inl rfl) (plfind_arg ha hn hd)).mono ?_
    rintro e w' ⟨rfl, rfl⟩
    exact ⟨rfl, h.more (by omega)⟩
  · rw [anyP_at n s _ hj]
    refine (plLimit_in ha hn hj v (hi.b j hj).s0 (hi.b j hj).s3).mono ?_
    rintro e w' ⟨rfl, hp⟩
    exact ⟨rfl, pi_of ha h hp (hi.lim hj hv)⟩
theorem PI.take (h : PI base w0 g n F R H rt mo c s wr) (hc : c ≤ 900000000000000000) (d : Int) : Calls Try.prog 18 #[.pointer (some ⟨g, 0, none⟩), .int .i64 d] wr fun e w' => e = .returned (.int .i64 (anyP n s (takP s) d).1) ∧ PI base w0 g n F R H rt mo (c + 1) (anyP n s (takP s) d).2 w' := by
  obtain ⟨b, gw, mb, sl, ms, ha⟩ := h.at_
  have hn := h.n16
  have hN := h.hN hc
  have hi := h.inv
  rcases any_case n d with hd | ⟨j, rfl, hj⟩
  · rw [anyP_no n s _ hd]
    refine (plTake_no _ d 1 wr (.inl rfl) (plfind_arg ha hn hd)).mono ?_
    rintro e w' ⟨rfl, rfl⟩
    exact ⟨rfl, h.more (by omega)⟩
  · rw [anyP_at n s _ hj]
    refine (plTake_in ha hn hj (hi.b j hj).l0 (by have := (hi.b j hj).lc; omega)).mono ?_
    rintro e w' ⟨rfl, hp⟩
    exact ⟨rfl, pi_of ha h hp (hi.tak hj)⟩
theorem PI.put (h : PI base w0 g n F R H rt mo c s wr) (hc : c ≤ 900000000000000000) (d : Int) : Calls Try.prog 23 #[.pointer (some ⟨g, 0, none⟩), .int .i64 d] wr fun e w' => e = .returned (.int .i64 (anyP n s (putP s) d).1) ∧ PI base w0 g n F R H rt mo (c + 1) (anyP n s (putP s) d).2 w' := by
  obtain ⟨b, gw, mb, sl, ms, ha⟩ := h.at_
  have hn := h.n16
  have hN := h.hN hc
  have hi := h.inv
  rcases any_case n d with hd | ⟨j, rfl, hj⟩
  · rw [anyP_no n s _ hd]
    refine (plPut_no _ d 1 wr (.inl rfl) (plfind_arg ha hn hd)).mono ?_
    rintro e w' ⟨rfl, rfl⟩
    exact ⟨rfl, h.more (by omega)⟩
  · rw [anyP_at n s _ hj]
    refine (plPut_in ha hn hj ha.size hN (hi.b j hj).l0 (by have := (hi.b j hj).lc; omega)).mono ?_
    rintro e w' ⟨rfl, hp⟩
    exact ⟨rfl, pi_of ha h hp (hi.put hj (by omega))⟩
theorem PI.probe (h : PI base w0 g n F R H rt mo c s wr) (hc : c ≤ 900000000000000000) (v : Bool) (d : Int) : Calls Try.prog 24 #[.pointer (some ⟨g, 0, none⟩), .int .i64 d, .bool v] wr fun e w' => e = .returned (.int .i64 (anyP n s (fun j => (0, prbP F R H s j v)) d).1) ∧ PI base w0 g n F R H rt mo (c + 1) (anyP n s (fun j => (0, prbP F R H s j v)) d).2 w' := by
  obtain ⟨b, gw, mb, sl, ms, ha⟩ := h.at_
  have hn := h.n16
  have hi := h.inv
  rcases any_case n d with hd | ⟨j, rfl, hj⟩
  · rw [anyP_no n s _ hd]
    refine (plProbe_no _ d 1 v wr (.inl rfl) (plfind_arg ha hn hd)).mono ?_
    rintro e w' ⟨rfl, rfl⟩
    exact ⟨rfl, h.more (by omega)⟩
  · rw [anyP_at n s _ hj]
    refine (plProbe_in ha hn hj v h.okr.f1 (hi.b j hj).h (by omega)).mono ?_
    rintro e w' ⟨rfl, hp⟩
    exact ⟨rfl, pi_of ha h hp (hi.prb h.okr hj v)⟩
/-- State and Wait, whatever number. -/
def staI (n : Nat) (s : Pl) (d : Int) : Int := if 0 ≤ d ∧ d < (n : Int) then (s.X d.toNat).st else -1
def waiI (n : Nat) (s : Pl) (d : Int) : Int := if 0 ≤ d ∧ d < (n : Int) then (s.X d.toNat).wait else 0
theorem PI.state (h : PI base w0 g n F R H rt mo c s wr) (d : Int) : Calls Try.prog 20 #[.pointer (some ⟨g, 0, none⟩), .int .i64 d] wr fun e w' => e = .returned (.int .i64 (staI n s d)) ∧ wr = w' := by
  obtain ⟨b, gw, mb, sl, ms, ha⟩ := h.at_
  have hn := h.n16
  rcases any_case n d with hd | ⟨j, rfl, hj⟩
  · have e : staI n s d = -1 := if_neg (by omega)
    rw [e]
    exact plState_no _ d 1 wr (.inl rfl) (plfind_arg ha hn hd)
  · have e : staI n s (j : Int) = (s.X j).st := by unfold staI; rw [if_pos ⟨by omega, by omega⟩, Int.toNat_natCast]
    rw [e]
    exact plState_in ha hn hj
theorem PI.wait (h : PI base w0 g n F R H rt mo c s wr) (d : Int) : Calls Try.prog 15 #[.pointer (some ⟨g, 0, none⟩), .int .i64 d] wr fun e w' => e = .returned (.int .i64 (waiI n s d)) ∧ wr = w' := by
  obtain ⟨b, gw, mb, sl, ms, ha⟩ := h.at_
  have hn := h.n16
  rcases any_case n d with hd | ⟨j, rfl, hj⟩
  · have e : waiI n s d = 0 := if_neg (by omega)
    rw [e]
    exact plWait_no _ d 1 wr (.inl rfl) (plfind_arg ha hn hd)
  · have e : waiI n s (j : Int) = (s.X j).wait := by unfold waiI; rw [if_pos ⟨by omega, by omega⟩, Int.toNat_natCast]
    rw [e]
    exact plWait_in ha hn hj
theorem PI.tick (h : PI base w0 g n F R H rt mo c s wr) (hc : c ≤ 900000000000000000) : Calls Try.prog 13 #[.pointer (some ⟨g, 0, none⟩)] wr fun e w' => ∃ a m q, e = .returned (.slice a m q) ∧ Hid (OwnAt w' 3 (.slice a m q) (iv (dueT s.N s.T)) ∧ (∀ k, (Value.slice a m q).ownBlock = some k → wr.heap.size ≤ k) ∧ PI base w0 g n F R H rt mo (c + 1) (ticP n s) w') := by
  obtain ⟨b, gw, mb, sl, ms, ha⟩ := h.at_
  refine (plTick_in ha ha.size h.n16 h.okr.f1 h.inv (h.hN hc)).mono ?_
  rintro e w' ⟨a, m, q, rfl, h1, h2, h3⟩
  exact ⟨a, m, q, rfl, h1, h2, pi_of ha h h3 h.inv.tic⟩
theorem PI.backs (h : PI base w0 g n F R H rt mo c s wr) (hc : c ≤ 900000000000000000) : Calls Try.prog 17 #[.pointer (some ⟨g, 0, none⟩)] wr fun e w' => ∃ v, e = .returned v ∧ SeeAt wr w' s.X n v ∧ Fr (fun _ => False) wr w' := by
  obtain ⟨b, gw, mb, sl, ms, ha⟩ := h.at_
  exact plBacks_in ha h.n16 h.okr.f1 h.inv (by omega)
end
theorem plNew_pi (w : World) (n : Nat) (F R H rt mo : Int) (hr : OkR F R H) (hp : OkP (n : Int) rt mo) : Calls Try.prog 8 #[.int .i64 (n : Int), .agg #[.int .i64 F, .int .i64 R, .int .i64 H], .int .i64 rt, .int .i64 mo] w fun e w' => ∃ g, e = .returned (.tuple #[.pointer (some ⟨g, 0, none⟩), .int .i64 0]) ∧ PI w.heap.size w g n F R H rt mo 0 (newP rt n) w' ∧ Fr (fun _ => False) w w' := by
  refine (plNew_yes w n F R H rt mo hr hp).mono ?_
  rintro e w' ⟨g, b, gw, mb, sl, ms, rfl, h1, h2⟩
  exact ⟨g, rfl, ⟨⟨b, gw, mb, sl, ms, h1⟩, h2.mono (fun _ _ e => e.elim), newP_inv (by have := hp.nm; omega) hr hp.r1 hp.rm, hr, hp⟩, h2⟩
/-- One backend, dialled. -/
theorem plawake_in (w : World) : Calls Try.prog 12 #[] w fun e w' => e = .returned (.bool true) ∧ Fr (fun _ => False) w w' := by
  have KN := plNew_pi w 1 1 1 0 1 1 ⟨by decide, by decide, by decide, by decide, by decide, by decide⟩ ⟨by decide, by decide, by decide, by decide, by decide⟩
  have e2 : staI 1 (ticP 1 (newP 1 1)) 0 = 1 := by decide
  have e3 : (dueT (newP 1 1).N (newP 1 1).T).length = 1 := by decide
  have KT : ∀ g wr, PI w.heap.size w g 1 1 1 0 1 1 0 (newP 1 1) wr → _ := fun g wr h => h.tick (by decide)
  have KS : ∀ g wr, PI w.heap.size w g 1 1 1 0 1 1 (0 + 1) (ticP 1 (newP 1 1)) wr → _ := fun g wr h => h.state 0
  simp only [e2] at KS
  go_enter Try.func12, Try.ntmps12
  go_wp2_with (first | (go_at_call 8; refine KN.mono ?_; clear KN; rintro e w1 ⟨g, rfl, p1, f1⟩; have K1 := KT g w1 p1) | (go_at_call 13; refine K1.mono ?_; clear K1; rintro e w2 ⟨a, m, q, rfl, Y2⟩; obtain rfl : m = 1 := (by have := Y2.out.1.lenI.1; rw [e3] at this; exact this); have K2 := KS g w2 Y2.out.2.2) | (go_at_call 20; refine K2.mono ?_; clear K2; rintro e w3 ⟨rfl, rfl⟩))
  go_ret
  exact ⟨rfl, Y2.out.2.2.fr.mono (fun k hk e => by omega)⟩
end Go.Proofs.Ytoiencoojkahmaa
