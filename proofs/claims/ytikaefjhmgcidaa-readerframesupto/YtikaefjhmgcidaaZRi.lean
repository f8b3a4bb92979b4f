/- Contract of the document's Write. -/
import Derived.Test.YtikaefjhmgcidaaZRh
import Derived.Test.YtikaefjhmgcidaaZMRd1
import Derived.Test.YtikaefjhmgcidaaZMFi
namespace Go.Proofs.Ytikaefjhmgcidaa
open Go.RowKit
set_option linter.unusedVariables false
set_option maxRecDepth 100000
set_option maxHeartbeats 4000000

theorem putOut24' (n : Nat) (h : ¬ n ≤ 16777215) : putOut 3 16777216 (n : Int) = (1, []) := if_pos (by omega)

theorem rWrite_in (f : Fra) (p q : Option Addr) (cp cq : Nat) (w : World) (hin : FrIn w f p q cq) :
    Calls Try.prog 20 #[.agg #[.int .i64 f.k, .int .i64 f.fl, .int .i64 f.st, .slice p f.X.length cp, .int .i64 f.pad, .int .u32 f.code, .int .i64 f.last, .int .i64 f.inc, .int .i64 f.dep, .bool f.only, .int .i64 f.wt, .slice q f.Y.length cq]] w fun e w' => WroteAs w (writeO f) e w' := by
  obtain ⟨W, hW⟩ : ∃ W, W = w.alloc (.cells #[.int .i64 f.k, .int .i64 f.fl, .int .i64 f.st, .slice p f.X.length cp, .int .i64 f.pad, .int .u32 f.code, .int .i64 f.last, .int .i64 f.inc, .int .i64 f.dep, .bool f.only, .int .i64 f.wt, .slice q f.Y.length cq] 36) := ⟨_, rfl⟩
  have HF : Hid (FAt W w.heap.size f p cp q cq) := by rw [hW]; exact heap_alloc_new w _
  have HFW : Hid (Fr (fun _ => False) w W) := by rw [hW]; exact (Fr.refl _ _).alloc _
  have HI : Hid (FrIn W f p q cq) := hin.later HFW.out
  have K1 : Hid (∀ w, Calls Try.prog 25 #[.int .i64 f.k] w fun e w' => e = .returned (.bool (knownB f.k)) ∧ w = w') := fun w => rKnown_in f.k w
  cases hk : knownB f.k
  case false =>
    rw [writeO_unknown f hk]
    rw [hk] at K1
    clear hin hk
    go_enter Try.func20, Try.ntmps20
    go_wp2_with (fail)
    rw [← hW]
    clear hW
    refine (K1.out _).mono ?_
    rintro e w1 ⟨rfl, rfl⟩
    go_wp2
    go_ret2
    exact ⟨none, 0, 0, rfl, rfl, Gath.ofNil HFW.out⟩
  case true =>
    rw [writeO_may f hk]
    have KM : Hid (Calls Try.prog 26 #[.agg #[.int .i64 f.k, .int .i64 f.fl, .int .i64 f.st, .slice p f.X.length cp, .int .i64 f.pad, .int .u32 f.code, .int .i64 f.last, .int .i64 f.inc, .int .i64 f.dep, .bool f.only, .int .i64 f.wt, .slice q f.Y.length cq]] W fun e w' => e = .returned (.bool (mayB f)) ∧ Fr (fun _ => False) W w') := may_in f p q cp cq W hk HI.out.sets
    have hkr : 0 ≤ f.k ∧ f.k ≤ 9 := by simpa [knownB] using hk
    rw [hk] at K1
    cases hm : mayB f
    case false =>
      rw [hm] at KM
      simp only [Bool.false_eq_true, if_false]
      obtain ⟨c0, c1, c2, c3, c4, c5, c6, c7, c8, c9, c10, c11⟩ := fcells HF.out
      clear hin hk hm hkr
      go_enter Try.func20, Try.ntmps20
      go_wp2_with (fail)
      rw [← hW]
      clear hW
      refine (K1.out _).mono ?_
      rintro e w1 ⟨rfl, rfl⟩
      go_wp2_with (fail)
      refine KM.out.mono ?_
      rintro e w1 ⟨rfl, hf1⟩
      go_wp2
      go_ret2
      exact ⟨none, 0, 0, rfl, rfl, Gath.ofNil (HFW.out.trans hf1)⟩
    case true =>
      rw [hm] at KM
      simp only [if_true]
      have KB : Hid (∀ w', Fr (fun _ => False) W w' → Calls Try.prog 27 #[.agg #[.int .i64 f.k, .int .i64 f.fl, .int .i64 f.st, .slice p f.X.length cp, .int .i64 f.pad, .int .u32 f.code, .int .i64 f.last, .int .i64 f.inc, .int .i64 f.dep, .bool f.only, .int .i64 f.wt, .slice q f.Y.length cq]] w' fun e w2 => BodyAs w' (allP f).2.flatten e w2) := fun w' hf => body_in f p q cp cq w' (HI.out.later hf) hk hm
      have hmm := hm
      rw [mayB_eq f hk] at hmm
      simp only [Bool.and_eq_true, decide_eq_true_eq] at hmm
      have hlen := (allP_len hin.few hin.sets.few hmm.1.2).1
      have hst : idOk f.st = true := by
        have := hmm.1.1.1
        simp [headOk] at this
        exact this.2
      have hflr : 0 ≤ f.fl ∧ f.fl ≤ 255 := by
        have := hmm.1.1.1
        simp [headOk] at this
        omega
      obtain ⟨sm, hsm, hsb⟩ := natOf hst
      obtain ⟨B, hB⟩ : ∃ B, (allP f).2.flatten = B := ⟨_, rfl⟩
      rw [hB] at KB hlen ⊢
      obtain ⟨n, hn⟩ : ∃ n, B.length = n := ⟨_, rfl⟩
      rw [hn] at hlen ⊢
      have HN : Hid (B.length = n) := hn
      obtain ⟨u, hu⟩ : ∃ u : UInt8, u = UInt8.ofNat f.k.toNat := ⟨_, rfl⟩
      obtain ⟨v, hv⟩ : ∃ v : UInt8, v = UInt8.ofNat f.fl.toNat := ⟨_, rfl⟩
      have e1 : f.k % 256 = (u.toNat : Int) := by rw [hu]; simp; omega
      have e2 : f.fl % 256 = (v.toNat : Int) := by rw [hv]; simp; omega
      have HB : Hid (headB f n = be 3 n ++ [u, v] ++ be 4 sm) := by show _ = _; rw [headB, hu, hv, hsm]; rfl
      have KP : Hid (∀ w, Calls Try.prog 28 #[.int .i64 n] w fun e w' => PutsAs w (putOut 3 16777216 (n : Int)) e w' ∧ Fr (fun _ => False) w w') := fun w => RPut24 n w (i64w (by omega) (by omega))
      have KS : Hid (∀ w, Calls Try.prog 29 #[.int .i64 f.st] w fun e w' => (∃ sp, e = .returned (.slice sp 4 4) ∧ New w w' sp (be 4 sm)) ∧ Fr (fun _ => False) w w') := fun w => by rw [hsm]; exact four_in sm w hsb
      obtain ⟨c0, c1, c2, c3, c4, c5, c6, c7, c8, c9, c10, c11⟩ := fcells HF.out
      obtain ⟨j, J1, J2, J3, J4⟩ := info5
      have J1 : Hid _ := J1
      have J2 : Hid _ := J2
      have J3 : Hid _ := J3
      have J4 : Hid _ := J4
      clear hin hk hm hkr hmm hst hflr hsm hB hn hu hv
      by_cases hbig : n ≤ 16777215
      case neg =>
        have e3 := putOut24' n hbig
        rw [e3] at KP
        rw [if_neg hbig]
        clear e3
        go_enter Try.func20, Try.ntmps20
        go_wp2_with (fail)
        rw [← hW]
        clear hW
        refine (K1.out _).mono ?_
        rintro e w1 ⟨rfl, rfl⟩
        go_wp2_with (fail)
        refine KM.out.mono ?_
        rintro e w1 ⟨rfl, hf1⟩
        have F1 : Hid (Fr (fun _ => False) W w1) := hf1
        clear hf1 c0 c1 c2 c3 c4 c5 c6 c7 c8 c9 c10 c11
        obtain ⟨c0, c1, c2, c3, c4, c5, c6, c7, c8, c9, c10, c11⟩ := fcells (HF.out.later F1.out)
        go_wp2_with (fail)
        refine (KB.out _ F1.out).mono ?_
        rintro e w2 ⟨a, n', c, rfl, hn', hS, hf2⟩
        rw [HN.out] at hn'
        subst hn'
        have F2 : Hid (Fr (fun _ => False) W w2) := F1.out.trans hf2
        clear hS hf2
        go_wp2_with (fail)
        refine (KP.out _).mono ?_
        rintro e w3 ⟨⟨sp, l, rfl, hl, hs3⟩, hf3⟩
        dsimp only
        go_wp2
        go_ret2
        exact ⟨none, 0, 0, rfl, rfl, Gath.ofNil ((HFW.out.trans F2.out).trans hf3)⟩
      case pos =>
        have e3 := putOut24 n hbig
        rw [e3] at KP
        rw [if_pos hbig, HB.out]
        clear e3
        go_enter Try.func20, Try.ntmps20
        go_wp2_with (fail)
        rw [← hW]
        clear hW
        refine (K1.out _).mono ?_
        rintro e w1 ⟨rfl, rfl⟩
        go_wp2_with (fail)
        refine KM.out.mono ?_
        rintro e w1 ⟨rfl, hf1⟩
        have F1 : Hid (Fr (fun _ => False) W w1) := hf1
        clear hf1 c0 c1 c2 c3 c4 c5 c6 c7 c8 c9 c10 c11
        obtain ⟨c0, c1, c2, c3, c4, c5, c6, c7, c8, c9, c10, c11⟩ := fcells (HF.out.later F1.out)
        go_wp2_with (fail)
        refine (KB.out _ F1.out).mono ?_
        rintro e w2 ⟨a, n', c, rfl, hn', hS, hf2⟩
        rw [HN.out] at hn'
        subst hn'
        have F2 : Hid (Fr (fun _ => False) W w2 ∧ SrcAt w2 a B) := ⟨F1.out.trans hf2, hS⟩
        clear hS hf2
        go_wp2_with (fail)
        refine (KP.out _).mono ?_
        rintro e w3 ⟨⟨sp, l, rfl, hl, hs3⟩, hf3⟩
        obtain rfl : 3 = l := hl
        dsimp only
        have H3 : Hid (SrcAt w3 sp (be 3 n) ∧ Fr (fun _ => False) W w3 ∧ SrcAt w3 a B) := ⟨hs3.1, F2.out.1.trans hf3, F2.out.2.oldF hf3⟩
        clear hs3 hf3 c0 c1 c2 c3 c4 c5 c6 c7 c8 c9 c10 c11
        obtain ⟨c0, c1, c2, c3, c4, c5, c6, c7, c8, c9, c10, c11⟩ := fcells (HF.out.later H3.out.2.1)
        go_wp2_with (first
          | (refine wpList_full (w0 := w3) rfl (.tmp 26) (.tmp 33) 31 31 rfl j Try.underlying31 Try.underlying31 J1.out J2.out J3.out J4.out sp 3 (be 3 n) (by go_simp) (H3.out.1.oldF ((Fr.refl _ _).alloc _)) (be_length _ _) ((Fr.refl _ _).alloc _) (some ⟨w3.heap.size, 0, none⟩) 2 2 (by go_simp) [u, v] (src_two w3 u v) rfl (by omega) (by simp [be_length]) ?_; intro a4 n4 d4 w4 N4 G4 F4; clear c0 c1 c2 c3 c4 c5 c6 c7 c8 c9 c10 c11; obtain ⟨c0, c1, c2, c3, c4, c5, c6, c7, c8, c9, c10, c11⟩ := fcells (HF.out.later (H3.out.2.1.trans G4.2.2)))
          | (go_at_call 29; refine (KS.out _).mono ?_; rintro e w5 ⟨⟨s5, rfl, hs5⟩, hf5⟩; have H5 : Hid (SrcAt w5 s5 (be 4 sm) ∧ Fr (fun _ => False) w4 w5) := ⟨hs5.1, hf5⟩; clear hs5 hf5)
          | (refine wpList_gather (w0 := w3) rfl (.tmp 35) (.tmp 38) 31 31 rfl j Try.underlying31 Try.underlying31 J1.out J2.out J3.out J4.out (.slice a4 n4 d4) (be 3 n ++ [u, v]) (by go_simp) (G4.fr H5.out.2) s5 4 4 (by go_simp) (be 4 sm) H5.out.1 (be_length _ _) (by simp [be_length]) ?_; intro a6 n6 d6 w6 N6 G6 F6)
          | (refine wpList_gather (w0 := w3) rfl (.tmp 40) (.tmp 41) 31 31 rfl j Try.underlying31 Try.underlying31 J1.out J2.out J3.out J4.out (.slice a6 n6 d6) (be 3 n ++ [u, v] ++ be 4 sm) (by go_simp) G6 a n c (by go_simp) B (H3.out.2.2.oldF G6.2.2) HN.out (by simp [be_length]; omega) ?_; intro a7 n7 d7 w7 N7 G7 F7))
        go_ret2
        exact ⟨a7, n7, d7, rfl, (own_len G7.1).1.symm, G7.old (HFW.out.trans H3.out.2.1)⟩
end Go.Proofs.Ytikaefjhmgcidaa
