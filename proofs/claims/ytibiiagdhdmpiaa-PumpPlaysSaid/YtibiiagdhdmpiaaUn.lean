/- Put and Tail of both pumps; one call of a script, whichever it is. -/
import Derived.Test.YtibiiagdhdmpiaaUm
namespace Go.Proofs.Ytibiiagdhdmpiaa
open Go.RowKit
set_option linter.unusedVariables false
set_option maxRecDepth 100000
set_option maxHeartbeats 4000000

/-- append onto a new empty slice, as a step of a region that draws. -/
theorem step_fresh {w wa : World} {ops : Array Oper} {o : Oper} {a : Act} {K : Act → World → Prop} {Q : Exit → Act → World → Prop} {E : Prop} (hgd : o.guard = none) (s x : Operand)
    (ho : o.op = .call { callee := .builtin .append, args := #[s, x], argTypes := #[31, 31] }) (hW : Fr (fun _ => False) wa w) (hown : OwnAt w 5 (.slice (some ⟨wa.heap.size, 0, none⟩) 0 0) (bv []))
    (hsv : a.eval s = .slice (some ⟨wa.heap.size, 0, none⟩) 0 0) (sp : Option Addr) (N c : Nat) (hxv : a.eval x = .slice sp N c) (X : List UInt8) (hX : SrcAt w sp X) (hm : X.length = N) (hN : N < 2 ^ 47)
    (h : ∀ a' c' w', Hid (SrcAt w' a' X ∧ N ≤ c' ∧ ∀ ad, a' = some ad → wa.heap.size ≤ ad.block) → Hid (Fr (fun _ => False) wa w') → K (a.put o.dst (.slice a' N c')) w') :
    if Region.wanted o (yielded ops a.tmps) = true then Oper.wp Try.prog o a w K Q else E := by
  obtain ⟨i, hi1, hi2, hi3, hi4⟩ := info5
  refine step_append_bytes hgd s x 31 31 ho 5 i Try.underlying31 Try.underlying31 hi1 hi2 hi3 hi4 _ [] hsv hown sp N c hxv X hX hm (by simp; omega) ?_
  intro a' n' c' w' hn ho' hf hk
  have e : n' = N := by have := hn.out; simpa using this
  subst e
  have hl := own_len ho'
  exact h a' c' w' ⟨own_src ho', hl.2, fun ad had => newB hW.size hk.out ad had⟩ (newF hW hf.out)
/-- The same of headers. -/
theorem step_fresh_hd {w W0 : World} {ops : Array Oper} {o : Oper} {a : Act} {K : Act → World → Prop} {Q : Exit → Act → World → Prop} {E : Prop} (hgd : o.guard = none) (s x : Operand)
    (ho : o.op = .call { callee := .builtin .append, args := #[s, x], argTypes := #[32, 32] }) (hty : o.type = 32) (hw : w = W0.alloc (.cells #[] 71))
    (hsv : a.eval s = .slice (some ⟨W0.heap.size, 0, none⟩) 0 0) (q : Option Addr) (N c : Nat) (hxv : a.eval x = .slice q N c) (l : List Hd) (hl : HL W0 q c l) (hm : l.length = N)
    (h : ∀ q' c' w', Hid (HL w' q' c' l ∧ ∀ ad, q' = some ad → W0.heap.size ≤ ad.block) → Hid (Fr (fun _ => False) W0 w') → K (a.put o.dst (.slice q' N c')) w') :
    if Region.wanted o (yielded ops a.tmps) = true then Oper.wp Try.prog o a w K Q else E := by
  have hwt : Region.wanted o (yielded ops a.tmps) = true := by simp [Region.wanted, hgd]
  rw [if_pos hwt]
  obtain ⟨q', c', w', hr, hl', bel, hnew⟩ := copy_run hl
  subst hw
  rw [hm] at hr
  unfold Oper.wp execOp
  simp only [ho, hty, resolve, invoke, builtin, Sem.run_bind, Sem.run_pure, Result.andThen_ok, List.map_toArray, List.map_cons, List.map_nil, hsv, hxv, hr]
  exact h q' c' w' ⟨hl', hnew⟩ (Fr.of_below bel)
section
variable {w0 wr : World} {b c : Nat} {L : List UInt8} {op : Bool} {T : Option (List Hd)} {lim : Nat}
theorem uplay0 (h : TwU w0 b c L lim op T wr) (n : Int) (bp : Option Addr) (bc : Nat) (bs : List UInt8) (lp : Option Addr) (lc : Nat) (l : List Hd) (hx : POpAt w0 (0, n, bp, bc, bs, lp, lc, l)) : Calls Try.prog 9 #[.pointer (some ⟨b, 0, none⟩), .pointer (some ⟨c, 0, none⟩), .agg #[.int .i64 0, .int .i64 n, .slice bp bs.length bc, .slice lp l.length lc]] wr fun e w' => e = .returned (.bool true) ∧ TwU w0 b c (putL op L lim bs) lim op T w' := by
  have HX : Hid (POpAt w0 (0, n, bp, bc, bs, lp, lc, l)) := hx
  obtain ⟨N, hN⟩ : ∃ N, bs.length = N := ⟨_, rfl⟩
  obtain ⟨M, hM⟩ : ∃ M, l.length = M := ⟨_, rfl⟩
  rw [hN, hM]
  have HNN : Hid (bs.length = N) := hN
  have HMM : Hid (l.length = M) := hM
  have HO0 : Hid (BxU w0 b c L op T L op T lim wr.heap.size #[.int .i64 0, .int .i64 n, .slice bp N bc, .slice lp M lc] (wr.alloc (.cells #[.int .i64 0, .int .i64 n, .slice bp N bc, .slice lp M lc] 34))) := h.boxed #[.int .i64 0, .int .i64 n, .slice bp N bc, .slice lp M lc]
  clear h hx hN hM
  go_enter Try.func9, Try.ntmps9
  go_upto_region 1 with (fail)
  obtain ⟨wa, hwa⟩ : ∃ wa, wa = wr.alloc (.cells #[.int .i64 0, .int .i64 n, .slice bp N bc, .slice lp M lc] 34) := ⟨_, rfl⟩
  obtain ⟨go, hgo⟩ : ∃ go, go = wr.heap.size := ⟨_, rfl⟩
  have HO : Hid (BxU w0 b c L op T L op T lim go #[.int .i64 0, .int .i64 n, .slice bp N bc, .slice lp M lc] wa) := by rw [hwa, hgo]; exact HO0.out
  rw [← hwa, ← hgo]
  clear hwa hgo HO0
  have o0 : wa.cell? ⟨go, 0, none⟩ = some (.int .i64 0) := cell_of_heap HO.out.box rfl
  have o1 : wa.cell? ⟨go, 1, none⟩ = some (.int .i64 n) := cell_of_heap HO.out.box rfl
  have o2 : wa.cell? ⟨go, 2, none⟩ = some (.slice bp N bc) := cell_of_heap HO.out.box rfl
  have o3 : wa.cell? ⟨go, 3, none⟩ = some (.slice lp M lc) := cell_of_heap HO.out.box rfl
  obtain ⟨E, hE⟩ : ∃ E, putE op L lim bs = E := ⟨_, rfl⟩
  obtain ⟨LN, hLN⟩ : ∃ LN, putL op L lim bs = LN := ⟨_, rfl⟩
  have hs0 := HX.out.src
  have hc0 := HX.out.cap
  have hN0 := HX.out.few
  dsimp only at hs0 hc0 hN0
  rw [HNN.out] at hc0 hN0
  have HS : Hid (∀ W, Fr (fun _ => False) w0 W → SrcAt W bp bs) := fun W f => hs0.fr f (fun _ _ _ => id)
  have K1 : ∀ (W : World) (a4 : Option Addr) (c4 : Nat), Hid (SrcAt W a4 bs ∧ N ≤ c4 ∧ ∀ ad, a4 = some ad → wa.heap.size ≤ ad.block) → Hid (Fr (fun _ => False) wa W) → Calls Try.prog 15 #[.pointer (some ⟨b, 0, none⟩), .slice a4 N c4] W fun e w' => e = .returned (.int .i64 E) ∧ Hid (BxU w0 b c LN op T L op T lim go #[.int .i64 0, .int .i64 n, .slice bp N bc, .slice lp M lc] w') := fun W a4 c4 hA hF => by
    have KK := HO.out.put hF.out a4 c4 bs hA.out.1 (by rw [HNN.out]; exact hA.out.2.1) (fun ad had _ => .inr (hA.out.2.2 ad had))
    rw [hE, hLN, HNN.out] at KK
    exact KK
  have K2 : ∀ W, Hid (BxU w0 b c LN op T L op T lim go #[.int .i64 0, .int .i64 n, .slice bp N bc, .slice lp M lc] W) → Calls Try.prog 25 #[.pointer (some ⟨c, 0, none⟩), .slice bp N bc] W fun e w' => e = .returned (.int .i64 E) ∧ Hid (BxU w0 b c LN op T LN op T lim go #[.int .i64 0, .int .i64 n, .slice bp N bc, .slice lp M lc] w') := fun W hW => by
    have KK := hW.out.rput bp bc bs (HS.out W hW.out.fr) (by rw [HNN.out]; exact hc0)
    rw [hE, hLN, HNN.out] at KK
    exact KK
  have HLN : Hid (putL op L lim bs = LN) := hLN
  have HFa : Hid (Fr (fun _ => False) w0 wa) := HO.out.fr
  have HBX : Hid (∀ W, Fr (fun _ => False) wa W → W.cell? ⟨go, 2, none⟩ = some (.slice bp N bc)) := fun W f => cell_of_heap (HO.out.later f).box rfl
  have G1 : Hid (Fr (fun _ => False) wa (wa.alloc (.cells #[] 5))) := (Fr.refl _ _).alloc _
  have G2 : Hid (Fr (fun _ => False) wa (wa.alloc (.cells #[] 5)).drew) := ((Fr.refl _ _).alloc _).drew
  have G3 : Hid (∀ k, Fr (fun _ => False) wa ((wa.drewN k).alloc (.cells #[] 5))) := fun k => ((Fr.refl _ _).drewN k).alloc _
  have G4 : Hid (∀ k, Fr (fun _ => False) wa ((wa.alloc (.cells #[] 5)).drewN k)) := fun k => ((Fr.refl _ _).alloc _).drewN k
  have G5 : Hid (Fr (fun _ => False) wa (wa.drew.alloc (.cells #[] 5))) := ((Fr.refl _ _).drew).alloc _
  have hb1 : (wa.alloc (.cells #[] 5)).cell? ⟨go, 2, none⟩ = some (.slice bp N bc) := HBX.out _ G1.out
  have HOW : Hid (OwnAt (wa.alloc (.cells #[] 5)) 5 (.slice (some ⟨wa.heap.size, 0, none⟩) 0 0) (bv [])) := own_empty wa 5
  clear hE hLN hs0
  go_upto_region 3 with (fail)
  go_region_held_law (fun w' => w'.cell? ⟨go, 2, none⟩ = some (.slice bp N bc)) (first | exact o2 | exact hb1 | exact y2 | exact cell_of_heap X2.out.box rfl | exact cell_of_heap X3.out.box rfl)
    (first
      | (refine step_fresh rfl (.tmp 20) (.tmp 22) rfl (wa := wa) (by first | exact G2.out | exact G1.out | exact G4.out _ | exact G3.out _ | exact G5.out) (by first | exact HOW.out | exact own_empty _ 5) (by go_simp) bp N bc (by go_simp) bs (by exact HS.out _ (HFa.out.trans (by first | exact G2.out | exact G1.out | exact G4.out _ | exact G3.out _ | exact G5.out))) HNN.out hN0 ?_; intro a4 c4 w4 A4 F4; have y2 := HBX.out w4 F4.out)
      | (go_at_call 15; refine (K1 _ _ _ A4 (by exact F4)).mono ?_; rintro e w2 ⟨rfl, X2⟩)
      | (go_at_call 25; refine (K2 _ (by first | exact X2)).mono ?_; rintro e w3 ⟨rfl, X3⟩))
  all_goals
    clear K1 K2 X2 o0 o1 o2 o3 HO
    go_wp2_with (fail)
    go_ret
    exact ⟨by simp, by rw [HLN.out]; exact X3.out.two⟩
theorem uplay4 (h : TwU w0 b c L lim op T wr) (n : Int) (bp : Option Addr) (bc : Nat) (bs : List UInt8) (lp : Option Addr) (lc : Nat) (l : List Hd) (hx : POpAt w0 (4, n, bp, bc, bs, lp, lc, l)) : Calls Try.prog 9 #[.pointer (some ⟨b, 0, none⟩), .pointer (some ⟨c, 0, none⟩), .agg #[.int .i64 4, .int .i64 n, .slice bp bs.length bc, .slice lp l.length lc]] wr fun e w' => e = .returned (.bool true) ∧ TwU w0 b c L lim false (tailT op T l) w' := by
  have HX : Hid (POpAt w0 (4, n, bp, bc, bs, lp, lc, l)) := hx
  obtain ⟨N, hN⟩ : ∃ N, bs.length = N := ⟨_, rfl⟩
  obtain ⟨M, hM⟩ : ∃ M, l.length = M := ⟨_, rfl⟩
  rw [hN, hM]
  have HNN : Hid (bs.length = N) := hN
  have HMM : Hid (l.length = M) := hM
  have HO0 : Hid (BxU w0 b c L op T L op T lim wr.heap.size #[.int .i64 4, .int .i64 n, .slice bp N bc, .slice lp M lc] (wr.alloc (.cells #[.int .i64 4, .int .i64 n, .slice bp N bc, .slice lp M lc] 34))) := h.boxed #[.int .i64 4, .int .i64 n, .slice bp N bc, .slice lp M lc]
  clear h hx hN hM
  go_enter Try.func9, Try.ntmps9
  go_upto_region 1 with (fail)
  obtain ⟨wa, hwa⟩ : ∃ wa, wa = wr.alloc (.cells #[.int .i64 4, .int .i64 n, .slice bp N bc, .slice lp M lc] 34) := ⟨_, rfl⟩
  obtain ⟨go, hgo⟩ : ∃ go, go = wr.heap.size := ⟨_, rfl⟩
  have HO : Hid (BxU w0 b c L op T L op T lim go #[.int .i64 4, .int .i64 n, .slice bp N bc, .slice lp M lc] wa) := by rw [hwa, hgo]; exact HO0.out
  rw [← hwa, ← hgo]
  clear hwa hgo HO0
  have o0 : wa.cell? ⟨go, 0, none⟩ = some (.int .i64 4) := cell_of_heap HO.out.box rfl
  have o1 : wa.cell? ⟨go, 1, none⟩ = some (.int .i64 n) := cell_of_heap HO.out.box rfl
  have o2 : wa.cell? ⟨go, 2, none⟩ = some (.slice bp N bc) := cell_of_heap HO.out.box rfl
  have o3 : wa.cell? ⟨go, 3, none⟩ = some (.slice lp M lc) := cell_of_heap HO.out.box rfl
  obtain ⟨E, hE⟩ : ∃ E, shutE op = E := ⟨_, rfl⟩
  obtain ⟨TN, hTN⟩ : ∃ TN, tailT op T l = TN := ⟨_, rfl⟩
  have hl0 := HX.out.hl
  dsimp only at hl0
  have HS : Hid (∀ W, Fr (fun _ => False) w0 W → HL W lp lc l) := fun W f => hl0.fr f (fun _ _ _ => id)
  have HB : Hid (∀ a, lp = some a → 0 < l.length → a.block < w0.heap.size) := fun a ha h0 => hl0.lt a ha h0
  have K1 : ∀ (W : World) (a4 : Option Addr) (c4 : Nat), Hid (HL W a4 c4 l ∧ ∀ ad, a4 = some ad → wa.heap.size ≤ ad.block) → Hid (Fr (fun _ => False) wa W) → Calls Try.prog 18 #[.pointer (some ⟨b, 0, none⟩), .slice a4 M c4] W fun e w' => e = .returned (.int .i64 E) ∧ Hid (BxU w0 b c L false TN L op T lim go #[.int .i64 4, .int .i64 n, .slice bp N bc, .slice lp M lc] w') := fun W a4 c4 hA hF => by
    have KK := HO.out.tail hF.out a4 c4 l hA.out.1 (fun ad had _ => .inr (hA.out.2 ad had))
    rw [hE, hTN, HMM.out] at KK
    exact KK
  have K2 : ∀ W, Hid (BxU w0 b c L false TN L op T lim go #[.int .i64 4, .int .i64 n, .slice bp N bc, .slice lp M lc] W) → Calls Try.prog 29 #[.pointer (some ⟨c, 0, none⟩), .slice lp M lc] W fun e w' => e = .returned (.int .i64 E) ∧ Hid (BxU w0 b c L false TN L false TN lim go #[.int .i64 4, .int .i64 n, .slice bp N bc, .slice lp M lc] w') := fun W hW => by
    have KK := hW.out.rtail lp lc l (HS.out W hW.out.fr) HB.out
    rw [hE, hTN, HMM.out] at KK
    exact KK
  have HTN : Hid (tailT op T l = TN) := hTN
  have HFa : Hid (Fr (fun _ => False) w0 wa) := HO.out.fr
  have HBX : Hid (∀ W, Fr (fun _ => False) wa W → W.cell? ⟨go, 3, none⟩ = some (.slice lp M lc)) := fun W f => cell_of_heap (HO.out.later f).box rfl
  have hb1 : (wa.alloc (.cells #[] 71)).cell? ⟨go, 3, none⟩ = some (.slice lp M lc) := HBX.out _ ((Fr.refl _ _).alloc _)
  have HFd : Hid (Fr (fun _ => False) wa wa.drew) := (Fr.refl _ _).drew
  have HLd : Hid (HL wa.drew lp lc l) := HS.out _ (HFa.out.trans HFd.out)
  clear hE hTN hl0
  go_upto_region 13 with (fail)
  go_region_held_law (fun w' => w'.cell? ⟨go, 3, none⟩ = some (.slice lp M lc)) (first | exact o3 | exact hb1 | exact y3 | exact cell_of_heap X2.out.box rfl | exact cell_of_heap X3.out.box rfl)
    (first
      | (refine step_fresh_hd (W0 := wa.drew) rfl (.tmp 77) (.tmp 79) rfl rfl rfl (by go_simp) lp M lc (by go_simp) l HLd.out HMM.out ?_; intro a4 c4 w4 A4 F4; have y3 := HBX.out w4 (HFd.out.trans F4.out))
      | (go_at_call 18; refine (K1 _ _ _ A4 (by exact (HFd.out.trans F4.out))).mono ?_; rintro e w2 ⟨rfl, X2⟩)
      | (go_at_call 29; refine (K2 _ (by first | exact X2)).mono ?_; rintro e w3 ⟨rfl, X3⟩))
  all_goals
    clear K1 K2 X2 o0 o1 o2 o3 HO
    go_wp2_with (fail)
    go_ret
    exact ⟨by simp, by rw [HTN.out]; exact X3.out.two⟩
theorem uplay_in (h : TwU w0 b c L lim op T wr) (x : POp) (hx : POpAt w0 x) : Calls Try.prog 9 #[.pointer (some ⟨b, 0, none⟩), .pointer (some ⟨c, 0, none⟩), .agg #[.int .i64 x.1, .int .i64 x.2.1, .slice x.2.2.1 x.2.2.2.2.1.length x.2.2.2.1, .slice x.2.2.2.2.2.1 x.2.2.2.2.2.2.2.length x.2.2.2.2.2.2.1]] wr fun e w' => e = .returned (.bool true) ∧ TwU w0 b c (plU lim (L, op, T) x).1 lim (plU lim (L, op, T) x).2.1 (plU lim (L, op, T) x).2.2 w' := by
  obtain ⟨wh, n, bp, bc, bs, lp, lc, l⟩ := x
  dsimp only
  by_cases h0 : wh = 0
  · subst h0
    exact uplay0 h n bp bc bs lp lc l hx
  by_cases h1 : wh = 1
  · subst h1
    exact uplay1 h n bp bc bs lp lc l hx
  by_cases h2 : wh = 2
  · subst h2
    exact uplay2 h n bp bc bs lp lc l hx
  by_cases h3 : wh = 3
  · subst h3
    exact uplay3 h n bp bc bs lp lc l hx
  by_cases h4 : wh = 4
  · subst h4
    exact uplay4 h n bp bc bs lp lc l hx
  by_cases h5 : wh = 5
  · subst h5
    exact uplay5 h n bp bc bs lp lc l hx
  have e : plU lim (L, op, T) (wh, n, bp, bc, bs, lp, lc, l) = ([], false, none) := by unfold plU; rw [if_neg h0, if_neg h1, if_neg h2, if_neg h3, if_neg h4, if_neg h5]
  rw [e]
  exact uplay6 h wh (fun k k0 k6 => by omega) n bp bc bs lp lc l hx
end
end Go.Proofs.Ytibiiagdhdmpiaa
