/- The walk of FrameParses. -/
import Derived.Test.YthcjgjmbicnklaaRr
import Derived.Test.YthcjgjmbicnklaaSm
namespace Go.Proofs.Ythcjgjmbicnklaa
open Go.RowKit
set_option linter.unusedVariables false
set_option maxRecDepth 100000
set_option maxHeartbeats 8000000

theorem parses_walk (a : Option Addr) (cap : Nat) (B : List UInt8) (most : Int) (w : World) (hs : SrcAt w a B) (hc : B.length ≤ cap) (hB : B.length < 2 ^ 47) (hmost : (Lit.int .i64 most).wf = true) :
    Calls Try.prog 4 #[.slice a B.length cap, .int .i64 most] w fun e w' => e = .returned (.bool true) ∧ Below w.heap.size w w' := by
  obtain ⟨len, hl⟩ : ∃ len, B.length = len := ⟨_, rfl⟩
  rw [hl] at hc hB ⊢
  have HL : Hid (B.length = len) := hl
  have HS : Hid (SrcAt w a B) := hs
  have HC : Hid (len ≤ cap) := hc
  have HM : Hid ((Lit.int .i64 most).wf = true) := hmost
  obtain ⟨⟨gf, n, fo, er⟩, ho⟩ : ∃ o, parseO B most = o := ⟨_, rfl⟩
  have KP : Hid (∀ a' c' w', SrcAt w' a' B → len ≤ c' → Calls Try.prog 12 #[.slice a' len c', .int .i64 most] w' fun e w2 => ParsedAs w' (gf, n, fo, er) e w2) := fun a' c' w' h1 h2 => by
    have h := Parse_in a' len c' B most w' h1 HL.out h2 (by omega) HM.out
    rw [ho] at h
    exact h
  have KQ : Hid (∀ w', Fr (fun _ => False) w w' → Calls Try.prog 13 #[.slice a len cap, .int .i64 most] w' fun e w2 => ParsedAs w' (gf, n, fo, er) e w2) := fun w' hf => by
    have h := rParse_in a len cap B most w' (HS.out.oldF hf) HL.out HC.out (by omega) HM.out
    rw [ho] at h
    exact h
  obtain ⟨j, J1, J2, J3, J4⟩ := info5
  have J1 : Hid _ := J1
  have J2 : Hid _ := J2
  have J3 : Hid _ := J3
  have J4 : Hid _ := J4
  clear hs hl hc hmost ho
  go_enter Try.func4, Try.ntmps4
  go_wp2_with (first
    | (refine wpList_gather (w0 := w) rfl (.tmp 14) (.tmp 15) 22 22 rfl j Try.underlying22 Try.underlying22 J1.out J2.out J3.out J4.out (.slice (some ⟨w.heap.size, 0, none⟩) 0 0) [] (by go_simp) (Gath.start (Fr.refl _ _)) a len cap (by go_simp) B (HS.out.oldF ((Fr.refl _ _).alloc _)) HL.out (by simp only [List.length_nil]; omega) ?_; intro a1 n1 c1 w1 N1 G1 F1; refine Hid.out ?_))
  unfold Hid
  obtain rfl : n1 = len := by rw [N1.out]; simp
  have G1' : Hid (Gath w w1 (.slice a1 n1 c1) B) := G1
  clear G1 N1 F1
  go_wp2_with (go_at_call 12; refine (KP.out a1 c1 w1 (own_src G1'.out.1) (own_len G1'.out.1).2).mono ?_; rintro e w2 ⟨p2, k2, q2, d2, rfl, hX2, hY2, hf2⟩; refine Hid.out ?_)
  unfold Hid
  try dsimp only at hX2 hY2
  have F2 : Hid (Fr (fun _ => False) w w2) := G1'.out.2.2.trans hf2
  have X2 : Hid (SrcAt w2 p2 gf.X ∧ SetsAt w2 q2 d2 gf.Y) := ⟨hX2, hY2⟩
  clear hX2 hY2 hf2
  obtain ⟨wa, hwa⟩ : ∃ wa, wa = (w2.alloc (.cells #[.int .i64 0, .int .i64 0, .int .i64 0, .slice none 0 0, .int .i64 0, .int .u32 0, .int .i64 0, .int .i64 0, .int .i64 0, .bool false, .int .i64 0, .slice none 0 0] 26)).alloc (.cells #[.bool false, .int .i64 0, .int .i64 0] 35) := ⟨_, rfl⟩
  have HWA : Hid (wa.heap[w2.heap.size]? = some (.cells #[.int .i64 0, .int .i64 0, .int .i64 0, .slice none 0 0, .int .i64 0, .int .u32 0, .int .i64 0, .int .i64 0, .int .i64 0, .bool false, .int .i64 0, .slice none 0 0] 26 (0, 0)) ∧ wa.heap[w2.heap.size + 1]? = some (.cells #[.bool false, .int .i64 0, .int .i64 0] 35 (0, 0)) ∧ Fr (fun _ => False) w2 wa) := by rw [hwa]; exact ⟨past_at _ (heap_alloc_new w2 _), last_at _ (by simp), ((Fr.refl _ _).alloc _).alloc _⟩
  have hone2 : (#[.int .i64 gf.k, .int .i64 gf.fl, .int .i64 gf.st, .slice p2 gf.X.length k2, .int .i64 gf.pad, .int .u32 gf.code, .int .i64 gf.last, .int .i64 gf.inc, .int .i64 gf.dep, .bool gf.only, .int .i64 gf.wt, .slice q2 gf.Y.length d2] : Array Value).all (·.oneCell') = true := by simp [Value.oneCell']
  have hinf2 : (Try.prog.info? 26).map (·.size) = some (#[.int .i64 gf.k, .int .i64 gf.fl, .int .i64 gf.st, .slice p2 gf.X.length k2, .int .i64 gf.pad, .int .u32 gf.code, .int .i64 gf.last, .int .i64 gf.inc, .int .i64 gf.dep, .bool gf.only, .int .i64 gf.wt, .slice q2 gf.Y.length d2] : Array Value).size := by kernel_rfl
  go_upto_region 2 with (first
    | (refine wpList_storeB rfl 26 (.tmp 5) (.tmp 19) rfl w2.heap.size #[.int .i64 0, .int .i64 0, .int .i64 0, .slice none 0 0, .int .i64 0, .int .u32 0, .int .i64 0, .int .i64 0, .int .i64 0, .bool false, .int .i64 0, .slice none 0 0] #[.int .i64 gf.k, .int .i64 gf.fl, .int .i64 gf.st, .slice p2 gf.X.length k2, .int .i64 gf.pad, .int .u32 gf.code, .int .i64 gf.last, .int .i64 gf.inc, .int .i64 gf.dep, .bool gf.only, .int .i64 gf.wt, .slice q2 gf.Y.length d2] 26 rfl rfl (by rw [← hwa]; exact HWA.out.1) rfl hinf2 hone2 ?_; intro w3 H3 F3)
    | (refine wpList_storeB rfl 35 (.tmp 7) (.tmp 21) rfl (w2.heap.size + 1) #[.bool false, .int .i64 0, .int .i64 0] #[.bool fo.is, .int .i64 fo.st, .int .i64 fo.code] 35 rfl rfl ((F3.out.block _ (by rw [← hwa]; exact lt_of_heap HWA.out.2.1) (by omega)).trans (by rw [← hwa]; exact HWA.out.2.1)) rfl (by kernel_rfl) (by simp [Value.oneCell']) ?_; intro w4 H4 F4))
  rw [← hwa] at F3
  clear hwa
  have A4 : Hid (FAt w4 w2.heap.size gf p2 k2 q2 d2) := (F4.out.block _ (lt_of_heap H3.out) (by omega)).trans H3.out
  have B4 : Hid (w4.heap[w2.heap.size + 1]? = some (.cells #[.bool fo.is, .int .i64 fo.st, .int .i64 fo.code] 35 (0, 0))) := H4.out
  have F24 : Hid (Fr (fun _ => False) w2 w4) := (((HWA.out.2.2.mono (T := fun k => w2.heap.size ≤ k) (fun _ _ e => e.elim)).trans (F3.out.mono (fun k _ e => by omega))).trans (F4.out.mono (fun k _ e => by omega))).mono (fun k hk e => by omega)
  clear H3 H4 F3 F4 HWA
  go_wp2_with (go_at_call 13; refine (KQ.out w4 (F2.out.trans F24.out)).mono ?_; rintro e w5 ⟨p5, k5, q5, d5, rfl, hX5, hY5, hf5⟩; refine Hid.out ?_)
  unfold Hid
  try dsimp only at hX5 hY5
  have F5 : Hid (Fr (fun _ => False) w4 w5) := hf5
  have X5 : Hid (SrcAt w5 p5 gf.X ∧ SetsAt w5 q5 d5 gf.Y) := ⟨hX5, hY5⟩
  clear hX5 hY5 hf5
  obtain ⟨wb, hwb⟩ : ∃ wb, wb = (w5.alloc (.cells #[.int .i64 0, .int .i64 0, .int .i64 0, .slice none 0 0, .int .i64 0, .int .u32 0, .int .i64 0, .int .i64 0, .int .i64 0, .bool false, .int .i64 0, .slice none 0 0] 26)).alloc (.cells #[.bool false, .int .i64 0, .int .i64 0] 35) := ⟨_, rfl⟩
  have HWB : Hid (wb.heap[w5.heap.size]? = some (.cells #[.int .i64 0, .int .i64 0, .int .i64 0, .slice none 0 0, .int .i64 0, .int .u32 0, .int .i64 0, .int .i64 0, .int .i64 0, .bool false, .int .i64 0, .slice none 0 0] 26 (0, 0)) ∧ wb.heap[w5.heap.size + 1]? = some (.cells #[.bool false, .int .i64 0, .int .i64 0] 35 (0, 0)) ∧ Fr (fun _ => False) w5 wb) := by rw [hwb]; exact ⟨past_at _ (heap_alloc_new w5 _), last_at _ (by simp), ((Fr.refl _ _).alloc _).alloc _⟩
  have hone5 : (#[.int .i64 gf.k, .int .i64 gf.fl, .int .i64 gf.st, .slice p5 gf.X.length k5, .int .i64 gf.pad, .int .u32 gf.code, .int .i64 gf.last, .int .i64 gf.inc, .int .i64 gf.dep, .bool gf.only, .int .i64 gf.wt, .slice q5 gf.Y.length d5] : Array Value).all (·.oneCell') = true := by simp [Value.oneCell']
  have hinf5 : (Try.prog.info? 26).map (·.size) = some (#[.int .i64 gf.k, .int .i64 gf.fl, .int .i64 gf.st, .slice p5 gf.X.length k5, .int .i64 gf.pad, .int .u32 gf.code, .int .i64 gf.last, .int .i64 gf.inc, .int .i64 gf.dep, .bool gf.only, .int .i64 gf.wt, .slice q5 gf.Y.length d5] : Array Value).size := by kernel_rfl
  go_upto_region 3 with (first
    | (refine wpList_storeB rfl 26 (.tmp 9) (.tmp 27) rfl w5.heap.size #[.int .i64 0, .int .i64 0, .int .i64 0, .slice none 0 0, .int .i64 0, .int .u32 0, .int .i64 0, .int .i64 0, .int .i64 0, .bool false, .int .i64 0, .slice none 0 0] #[.int .i64 gf.k, .int .i64 gf.fl, .int .i64 gf.st, .slice p5 gf.X.length k5, .int .i64 gf.pad, .int .u32 gf.code, .int .i64 gf.last, .int .i64 gf.inc, .int .i64 gf.dep, .bool gf.only, .int .i64 gf.wt, .slice q5 gf.Y.length d5] 26 rfl rfl (by rw [← hwb]; exact HWB.out.1) rfl hinf5 hone5 ?_; intro w6 H6 F6)
    | (refine wpList_storeB rfl 35 (.tmp 11) (.tmp 29) rfl (w5.heap.size + 1) #[.bool false, .int .i64 0, .int .i64 0] #[.bool fo.is, .int .i64 fo.st, .int .i64 fo.code] 35 rfl rfl ((F6.out.block _ (by rw [← hwb]; exact lt_of_heap HWB.out.2.1) (by omega)).trans (by rw [← hwb]; exact HWB.out.2.1)) rfl (by kernel_rfl) (by simp [Value.oneCell']) ?_; intro w7 H7 F7))
  rw [← hwb] at F6
  clear hwb
  have C7 : Hid (FAt w7 w5.heap.size gf p5 k5 q5 d5) := (F7.out.block _ (lt_of_heap H6.out) (by omega)).trans H6.out
  have D7 : Hid (w7.heap[w5.heap.size + 1]? = some (.cells #[.bool fo.is, .int .i64 fo.st, .int .i64 fo.code] 35 (0, 0))) := H7.out
  have F57 : Hid (Fr (fun _ => False) w5 w7) := (((HWB.out.2.2.mono (T := fun k => w5.heap.size ≤ k) (fun _ _ e => e.elim)).trans (F6.out.mono (fun k _ e => by omega))).trans (F7.out.mono (fun k _ e => by omega))).mono (fun k hk e => by omega)
  have F47 : Hid (Fr (fun _ => False) w4 w7) := F5.out.trans F57.out
  clear H6 H7 F6 F7 HWB
  obtain ⟨b0, b1, b2, b3, b4, b5, b6, b7, b8, b9, b10, b11⟩ := fcells (A4.out.later F47.out)
  obtain ⟨c0, c1', c2, c3, c4, c5, c6, c7, c8, c9, c10, c11⟩ := fcells C7.out
  have KS : Hid (Calls Try.prog 14 #[.agg #[.int .i64 gf.k, .int .i64 gf.fl, .int .i64 gf.st, .slice p2 gf.X.length k2, .int .i64 gf.pad, .int .u32 gf.code, .int .i64 gf.last, .int .i64 gf.inc, .int .i64 gf.dep, .bool gf.only, .int .i64 gf.wt, .slice q2 gf.Y.length d2], .agg #[.int .i64 gf.k, .int .i64 gf.fl, .int .i64 gf.st, .slice p5 gf.X.length k5, .int .i64 gf.pad, .int .u32 gf.code, .int .i64 gf.last, .int .i64 gf.inc, .int .i64 gf.dep, .bool gf.only, .int .i64 gf.wt, .slice q5 gf.Y.length d5]] w7 fun e w' => e = .returned (.bool true) ∧ Fr (fun _ => False) w7 w') := same_in gf p2 q2 p5 q5 k2 d2 k5 d5 w7 (X2.out.1.oldF (F24.out.trans F47.out)) (X5.out.1.oldF F57.out) (X2.out.2.later (F24.out.trans F47.out)) (X5.out.2.later F57.out)
  go_wp2_with (go_at_call 14; refine KS.out.mono ?_; rintro e w8 ⟨rfl, hf8⟩; refine Hid.out ?_)
  unfold Hid
  have F8 : Hid (Fr (fun _ => False) w7 w8) := hf8
  have B8 := (F47.out.trans F8.out).block _ (lt_of_heap B4.out) id
  rw [B4.out] at B8
  have D8 := F8.out.block _ (lt_of_heap D7.out) id
  rw [D7.out] at D8
  obtain ⟨s0, s1, s2⟩ := cells3 B8
  obtain ⟨t0, t1, t2⟩ := cells3 D8
  clear b0 b1 b2 b3 b4 b5 b6 b7 b8 b9 b10 b11 c0 c1' c2 c3 c4 c5 c6 c7 c8 c9 c10 c11 B8 D8 hf8
  go_wp2_with (go_at_call 11; refine (fawake_in _).mono ?_; rintro e w9 ⟨rfl, rfl⟩)
  go_ret
  exact ⟨rfl, (((F2.out.trans F24.out).trans F47.out).trans F8.out).below (fun _ _ => id)⟩
end Go.Proofs.Ythcjgjmbicnklaa
