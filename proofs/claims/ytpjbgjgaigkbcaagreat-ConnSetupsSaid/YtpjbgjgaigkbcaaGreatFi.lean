/- Contract of the program's Write. -/
import Derived.Test.YtpjbgjgaigkbcaaGreatFh
namespace Go.Proofs.YtpjbgjgaigkbcaaGreat
open Go.RowKit
set_option linter.unusedVariables false
set_option maxRecDepth 100000
set_option maxHeartbeats 4000000

theorem src_two (w : World) (c d : UInt8) : SrcAt (w.alloc (.cells #[.int .u8 c.toNat, .int .u8 d.toNat] 5)) (some ⟨w.heap.size, 0, none⟩) [c, d] := by
  intro j x hj
  match j with
  | 0 => simp at hj; subst hj; exact ⟨_, rfl, by rw [add_none]; exact cell_of_heap (last_at _ rfl) rfl⟩
  | 1 => simp at hj; subst hj; exact ⟨_, rfl, by rw [add_none]; exact cell_of_heap (last_at _ rfl) rfl⟩
  | j + 2 => simp at hj
theorem putOut24 (n : Nat) (h : n ≤ 16777215) : putOut 3 16777216 (n : Int) = (0, be 3 n) := (if_neg (by omega)).trans (by simp)

theorem head_in (f : Fra) (p q : Option Addr) (cp cq : Nat) (n : Nat) (w : World) (hs : (Lit.int .i64 f.st).wf = true) (hk : 0 ≤ f.k ∧ f.k ≤ 9) (hf : 0 ≤ f.fl ∧ f.fl ≤ 255) (hst : idOk f.st = true) (hn : n ≤ 16777215) :
    Calls Tryz.prog 48 #[.agg #[.int .i64 f.k, .int .i64 f.fl, .int .i64 f.st, .slice p f.X.length cp, .int .i64 f.pad, .int .u32 f.code, .int .i64 f.last, .int .i64 f.inc, .int .i64 f.dep, .bool f.only, .int .i64 f.wt, .slice q f.Y.length cq], .int .i64 n] w fun e w' => ∃ a c, e = .returned (.slice a 9 c) ∧ Gath w w' (.slice a 9 c) (headB f n) := by
  obtain ⟨W, hW⟩ : ∃ W, W = w.alloc (.cells #[.int .i64 f.k, .int .i64 f.fl, .int .i64 f.st, .slice p f.X.length cp, .int .i64 f.pad, .int .u32 f.code, .int .i64 f.last, .int .i64 f.inc, .int .i64 f.dep, .bool f.only, .int .i64 f.wt, .slice q f.Y.length cq] 66) := ⟨_, rfl⟩
  have HF : Hid (FAt W w.heap.size f p cp q cq) := by rw [hW]; exact heap_alloc_new w _
  have HFW : Hid (Fr (fun _ => False) w W) := by rw [hW]; exact (Fr.refl _ _).alloc _
  have K1 : Hid (∀ w, Calls Tryz.prog 62 #[.int .i64 n] w fun e w' => PutsAs w (0, be 3 n) e w' ∧ Fr (fun _ => False) w w') := fun w => by have := Put24 n w (i64w (by omega) (by omega)); rwa [putOut24 n hn] at this
  have K2 : Hid (∀ w, Calls Tryz.prog 63 #[.int .i64 f.st] w fun e w' => PutsAs w (0, be 4 f.st.toNat) e w' ∧ Fr (fun _ => False) w w') := fun w => by have := Put31 f.st w hs; rwa [putOut31 hst] at this
  obtain ⟨u, hu⟩ : ∃ u : UInt8, u = UInt8.ofNat f.k.toNat := ⟨_, rfl⟩
  obtain ⟨v, hv⟩ : ∃ v : UInt8, v = UInt8.ofNat f.fl.toNat := ⟨_, rfl⟩
  have e1 : f.k % 256 = (u.toNat : Int) := by rw [hu]; simp; omega
  have e2 : f.fl % 256 = (v.toNat : Int) := by rw [hv]; simp; omega
  have HB : Hid (headB f n = be 3 n ++ [u, v] ++ be 4 f.st.toNat) := by show _ = _; rw [headB, hu, hv]
  obtain ⟨out, hout⟩ : ∃ out, headB f n = out := ⟨_, rfl⟩
  rw [hout] at HB ⊢
  obtain ⟨j, J1, J2, J3, J4⟩ := info5
  have J1 : Hid _ := J1
  have J2 : Hid _ := J2
  have J3 : Hid _ := J3
  have J4 : Hid _ := J4
  clear hout hu hv hk hf hst hs
  go_enter Tryz.func48, Tryz.ntmps48
  go_wp2_with (fail)
  rw [← hW]
  refine (K1.out _).mono ?_
  rintro e w1 ⟨⟨sp, l, rfl, hl, hs1⟩, hf1⟩
  obtain rfl : 3 = l := hl
  have H1 : Hid (SrcAt w1 sp (be 3 n) ∧ Fr (fun _ => False) W w1) := ⟨hs1.1, hf1⟩
  obtain ⟨c0, c1, c2, c3, c4, c5, c6, c7, c8, c9, c10, c11⟩ := fcells (HF.out.later H1.out.2)
  clear hs1 hf1
  go_wp2_with (fail)
  refine (K2.out _).mono ?_
  rintro e w2 ⟨⟨sp2, l2, rfl, hl2, hs2⟩, hf2⟩
  obtain rfl : 4 = l2 := hl2
  have H2 : Hid (SrcAt w2 sp (be 3 n) ∧ SrcAt w2 sp2 (be 4 f.st.toNat) ∧ Fr (fun _ => False) W w2) := ⟨H1.out.1.oldF hf2, hs2.1, H1.out.2.trans hf2⟩
  clear hs2 hf2 c0 c1 c2 c3 c4 c5 c6 c7 c8 c9 c10 c11
  obtain ⟨c0, c1, c2, c3, c4, c5, c6, c7, c8, c9, c10, c11⟩ := fcells (HF.out.later H2.out.2.2)
  go_wp2_with (first
    | (refine wpList_full (w0 := W) rfl (.tmp 20) (.tmp 27) 43 43 rfl j Tryz.underlying43 Tryz.underlying43 J1.out J2.out J3.out J4.out sp 3 (be 3 n) (by go_simp) (H2.out.1.oldF ((Fr.refl _ _).alloc _)) (be_length _ _) (H2.out.2.2.alloc _) (some ⟨w2.heap.size, 0, none⟩) 2 2 (by go_simp) [u, v] (src_two w2 u v) rfl (by omega) (by simp [be_length]) ?_; intro a3 n3 d3 w3 Hn3 G3 F3)
    | (refine wpList_gather (w0 := W) rfl (.tmp 29) (.tmp 30) 43 43 rfl j Tryz.underlying43 Tryz.underlying43 J1.out J2.out J3.out J4.out (.slice a3 n3 d3) (be 3 n ++ [u, v]) (by go_simp) G3 sp2 4 4 (by go_simp) (be 4 f.st.toNat) (H2.out.2.1.oldF (((Fr.refl _ _).alloc _).trans F3.out)) (be_length _ _) (by simp [be_length]) ?_; intro a4 n4 d4 w4 Hn4 G4 F4))
  go_ret
  obtain rfl : n4 = 9 := by rw [Hn4.out]; simp [be_length]
  refine ⟨a4, d4, rfl, ?_⟩
  rw [HB.out]
  exact G4.old HFW.out
end Go.Proofs.YtpjbgjgaigkbcaaGreat
