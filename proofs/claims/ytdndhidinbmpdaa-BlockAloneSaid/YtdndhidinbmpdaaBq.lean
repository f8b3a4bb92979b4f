/- Nothing comes between: the law's walk. -/
import Derived.Test.YtdndhidinbmpdaaBo
namespace Go.Proofs.Ytdndhidinbmpdaa
open Go.RowKit
set_option linter.unusedVariables false
set_option maxRecDepth 100000
set_option maxHeartbeats 4000000

/-- The frame that opens. -/
def firstF (id : Int) : Fra := { zeroF with k := 1, st := id, X := [1] }
theorem done0 : doneB 0 = false := by decide
theorem end0 : endB 0 = false := by decide
theorem first_out (id : Int) : inJ ((100 : Nat) : Int) none [] (firstF id) = ⟨zeroF, false, 0, some (false, id), [1]⟩ := by
  simp [inJ, firstF, follB, zeroF, done0, end0]
theorem first_in {w : World} {p : Option Addr} (id : Int) (h0 : 0 ≤ id) (h1 : id ≤ 65536) (hs : SrcAt w p [1]) : FrIn w (firstF id) p none 0 :=
  ⟨hs, SetsAt.nil _, by simp [firstF], by simp [firstF, zeroF], by simp only [firstF]; decide, by simp only [firstF, zeroF]; decide, i64w (by simp only [firstF]; omega) (by simp only [firstF]; omega), by simp only [firstF, zeroF]; decide, by simp only [firstF, zeroF]; decide, by simp only [firstF, zeroF]; decide, by simp only [firstF, zeroF]; decide, by simp only [firstF, zeroF]; decide⟩
/-- What the second frame's fault is. -/
theorem second_out (id : Int) (f : Fra) : (inJ ((100 : Nat) : Int) (some (false, id)) [1] f).code = (if f.k = 9 ∧ f.st = id then (if 99 < (f.X.length : Int) then 11 else 0) else 1) ∧ (¬ (f.k = 9 ∧ f.st = id) → (inJ ((100 : Nat) : Int) (some (false, id)) [1] f).o = none) := by
  by_cases h9 : f.k = 9
  · by_cases hs : f.st = id
    · have hfo : follB (some (false, id)) f = true := by simp [follB, h9, hs]
      refine ⟨?_, fun h => (h ⟨h9, hs⟩).elim⟩
      rw [if_pos ⟨h9, hs⟩]
      unfold inJ
      rw [if_neg (by rw [hfo]; simp), if_neg (by rw [h9]; decide)]
      by_cases hl : (99 : Int) < f.X.length
      · rw [if_pos (by simp; omega), if_pos hl]
      · rw [if_neg (by simp; omega), if_neg hl]
        cases doneB f.fl <;> simp
    · have hfo : follB (some (false, id)) f = false := by simp [follB, hs]
      refine ⟨?_, fun _ => ?_⟩
      · rw [if_neg (fun h => hs h.2)]; unfold inJ; rw [if_pos hfo]
      · unfold inJ; rw [if_pos hfo]
  · have hfo : follB (some (false, id)) f = false := by simp [follB, h9]
    refine ⟨?_, fun _ => ?_⟩
    · rw [if_neg (fun h => h9 h.1)]; unfold inJ; rw [if_pos hfo]
    · unfold inJ; rw [if_pos hfo]

theorem fresh_own {v v' : Value} {n : Nat} (h : v'.ownBlock = v.ownBlock ∨ v'.ownBlock = none ∨ ∃ k, v'.ownBlock = some k ∧ n ≤ k) (hv : v.ownBlock = none) : ∀ k, v'.ownBlock = some k → n ≤ k := by
  intro k hk
  rcases h with h1 | h1 | ⟨k', h1, h2⟩
  · rw [h1, hv] at hk; cases hk
  · rw [h1] at hk; cases hk
  · rw [h1] at hk; cases hk; exact h2
theorem balone_walk (e0 : Nat) (he0 : e0 ≤ 65535) (f : Fra) (p q : Option Addr) (cp cq : Nat) (w : World) (hI : FrIn w f p q cq) :
    Calls Try.prog 8 #[.int .u16 (e0 : Int), .agg #[.int .i64 f.k, .int .i64 f.fl, .int .i64 f.st, .slice p f.X.length cp, .int .i64 f.pad, .int .u32 f.code, .int .i64 f.last, .int .i64 f.inc, .int .i64 f.dep, .bool f.only, .int .i64 f.wt, .slice q f.Y.length cq]] w fun e w' => e = .returned (.bool true) ∧ Below w.heap.size w w' := by
  obtain ⟨W, hW⟩ : ∃ W, W = w.alloc (.cells #[.int .i64 f.k, .int .i64 f.fl, .int .i64 f.st, .slice p f.X.length cp, .int .i64 f.pad, .int .u32 f.code, .int .i64 f.last, .int .i64 f.inc, .int .i64 f.dep, .bool f.only, .int .i64 f.wt, .slice q f.Y.length cq] 34) := ⟨_, rfl⟩
  have HFW : Hid (Fr (fun _ => False) w W) := by rw [hW]; exact (Fr.refl _ _).alloc _
  have A1 : Hid (FAt W w.heap.size f p cp q cq) := by rw [hW]; exact heap_alloc_new w _
  have HI : Hid (FrIn W f p q cq) := hI.later HFW.out
  have KN : Hid (Calls Try.prog 13 #[.int .i64 100] W fun e w' => e = .returned (.tuple #[.pointer (some ⟨W.heap.size, 0, none⟩), .int .i64 0]) ∧ JC w' W.heap.size 100 none (.slice none 0 0) ∧ Fr (fun _ => False) W w') := New_yes 100 W (by decide) (by decide)
  have B0 : wrap64 (1 + (e0 : Int)) = 1 + (e0 : Int) := by unfold wrap64; omega
  clear hI
  go_enter Try.func8, Try.ntmps8
  go_upto_region 1 with (fail)
  rw [← hW]
  clear hW
  go_upto_region 5 with (go_at_call 13; refine KN.out.mono ?_; rintro e w1 ⟨rfl, hj1, hf1⟩; have T1 : Hid (JC w1 W.heap.size ((100 : Nat) : Int) none (.slice none 0 0) ∧ Fr (fun _ => False) W w1) := ⟨hj1, hf1⟩; clear hj1 hf1)
  obtain ⟨sid, hid⟩ : ∃ sid : Int, 1 + (e0 : Int) = sid := ⟨_, rfl⟩
  have HID : Hid (1 ≤ sid ∧ sid ≤ 65536) := ⟨by omega, by omega⟩
  rw [hid]
  clear hid B0
  obtain ⟨w2, hw2⟩ : ∃ w2, w2 = w1.alloc (.cells #[.int .u8 1] 5) := ⟨_, rfl⟩
  have F2 : Hid (Fr (fun _ => False) W w2) := by rw [hw2]; exact T1.out.2.alloc _
  have S2 : Hid (SrcAt w2 (some ⟨w1.heap.size, 0, none⟩) [1]) := by rw [hw2]; exact src_one w1 1
  have J2 : Hid (JAt w2 W.heap.size 100 none [] (.slice none 0 0)) := JAt.none (T1.out.1.fr (by rw [hw2]; exact (Fr.refl (fun _ => False) _).alloc _) id) (by decide)
  have KI : Hid (Calls Try.prog 15 #[.pointer (some ⟨W.heap.size, 0, none⟩), .agg #[.int .i64 1, .int .i64 0, .int .i64 sid, .slice (some ⟨w1.heap.size, 0, none⟩) 1 1, .int .i64 0, .int .u32 0, .int .i64 0, .int .i64 0, .int .i64 0, .bool false, .int .i64 0, .slice none 0 0]] w2 fun e w' => InAs w2 W.heap.size 100 (.slice none 0 0) ⟨zeroF, false, 0, some (false, sid), [1]⟩ e w') := by
    have := In_in W.heap.size 100 none [] (.slice none 0 0) (firstF sid) (some ⟨w1.heap.size, 0, none⟩) none 1 0 w2 J2.out (first_in sid (by have := HID.out; omega) HID.out.2 S2.out)
    rw [first_out] at this
    exact this
  rw [hw2] at KI
  go_upto_region 6 with (first
    | (go_at_call 15; refine KI.out.mono ?_; rw [← hw2]; clear hw2; rintro e w3 ⟨p3, cp3, q3, cq3, v3, rfl, -, -, -, hj3, hf3, hb3⟩; have T3 : Hid (JAt w3 W.heap.size 100 (some (false, sid)) [1] v3 ∧ Fr (fun k => k = W.heap.size) w2 w3) := ⟨hj3, hf3.mono (fun k _ e => by simpa [Value.ownBlock] using e)⟩; have HB3 : Hid (∀ k, v3.ownBlock = some k → w2.heap.size ≤ k) := fresh_own hb3 rfl; clear hj3 hf3 hb3; dsimp only [zeroF])
    | (refine wpList_storeB rfl 34 (.tmp 8) (.tmp 26) rfl w3.heap.size #[.int .i64 0, .int .i64 0, .int .i64 0, .slice none 0 0, .int .i64 0, .int .u32 0, .int .i64 0, .int .i64 0, .int .i64 0, .bool false, .int .i64 0, .slice none 0 0] #[.int .i64 0, .int .i64 0, .int .i64 0, .slice p3 0 cp3, .int .i64 0, .int .u32 0, .int .i64 0, .int .i64 0, .int .i64 0, .bool false, .int .i64 0, .slice q3 0 cq3] 34 rfl rfl (past_at _ (heap_alloc_new w3 _)) rfl (by kernel_rfl) (by simp [Value.oneCell']) ?_; intro x1 X1 Y1)
    | (refine wpList_storeB rfl 43 (.tmp 10) (.tmp 28) rfl (w3.heap.size + 1) #[.bool false, .int .i64 0, .int .i64 0] #[.bool false, .int .i64 0, .int .i64 0] 43 rfl rfl ((Y1.out.block _ (by simp) (by omega)).trans (last_at _ (by simp))) rfl (by kernel_rfl) (by simp [Value.oneCell']) ?_; intro x2 X2 Y2))
  have F3 : Hid (Fr (fun _ => False) w3 x2) := ((((Fr.refl (fun k => k = w3.heap.size ∨ k = w3.heap.size + 1) _).alloc _).alloc _).trans ((Y1.out.mono (fun _ _ e => .inl e)).trans (Y2.out.mono (fun _ _ e => .inr e)))).mono (fun k hk e => by omega)
  have J3 : Hid (JAt x2 W.heap.size 100 (some (false, sid)) [1] v3) := T3.out.1.later F3.out
  have FA : Hid (Fr (fun k => k = W.heap.size) W x2) := (F2.out.mono (fun _ _ e => e.elim)).trans (T3.out.2.trans (F3.out.mono (fun _ _ e => e.elim)))
  have HLW : Hid (w.heap.size < W.heap.size) := lt_of_heap A1.out
  have A3 : Hid (FAt x2 w.heap.size f p cp q cq) := (FA.out.block _ (lt_of_heap A1.out) (by have := HLW.out; omega)).trans A1.out
  have HI3 : Hid (FrIn x2 f p q cq) := { HI.out with src := HI.out.src.fr FA.out (fun ad e hl e2 => by have := srcB_lt HI.out.src ad e hl; omega), sets := HI.out.sets.fr FA.out (fun ad e hl e2 => by have := sets_lt HI.out.sets ad e hl; omega) }
  obtain ⟨s0, s1, s2⟩ := cells3 X2.out
  have KS : Hid (Calls Try.prog 17 #[.pointer (some ⟨W.heap.size, 0, none⟩)] x2 fun e w' => e = .returned (.int .i64 sid) ∧ x2 = w') := Stream_in W.heap.size _ _ _ x2 J3.out.c
  obtain ⟨d0, d1, d2, d3, d4, d5, d6, d7, d8, d9, d10, d11⟩ := fcells A3.out
  go_upto_region 8 with (go_at_call 17; refine KS.out.mono ?_; rintro e w' ⟨rfl, rfl⟩)
  have KI2 : Hid (Calls Try.prog 15 #[.pointer (some ⟨W.heap.size, 0, none⟩), .agg #[.int .i64 f.k, .int .i64 f.fl, .int .i64 f.st, .slice p f.X.length cp, .int .i64 f.pad, .int .u32 f.code, .int .i64 f.last, .int .i64 f.inc, .int .i64 f.dep, .bool f.only, .int .i64 f.wt, .slice q f.Y.length cq]] x2 fun e w' => InAs x2 W.heap.size 100 v3 (inJ ((100 : Nat) : Int) (some (false, sid)) [1] f) e w') := In_in W.heap.size 100 _ _ _ f p q cp cq x2 J3.out HI3.out
  have SO := second_out sid f
  obtain ⟨r, hr⟩ : ∃ r, inJ ((100 : Nat) : Int) (some (false, sid)) [1] f = r := ⟨_, rfl⟩
  rw [hr] at KI2 SO
  have HSO : Hid (r.code = (if f.k = 9 ∧ f.st = sid then (if 99 < (f.X.length : Int) then 11 else 0) else 1) ∧ (¬ (f.k = 9 ∧ f.st = sid) → r.o = none)) := SO
  clear SO hr s0 s1 s2
  go_upto_region 9 with (first
    | (go_at_call 15; refine KI2.out.mono ?_; rintro e w4 ⟨p4, cp4, q4, cq4, v4, rfl, -, -, -, hj4, hf4, -⟩; have T4 : Hid (JAt w4 W.heap.size 100 r.o r.H v4 ∧ Fr (fun k => k = W.heap.size ∨ v3.ownBlock = some k) x2 w4) := ⟨hj4, hf4⟩; clear hj4 hf4; obtain ⟨rc, hrc⟩ : ∃ rc, r.code = rc := ⟨_, rfl⟩; obtain ⟨rb, hrb⟩ : ∃ rb, decide (rc ≠ 0) = rb := ⟨_, rfl⟩; rw [hrc, hrb]; have HRC : Hid (r.code = rc ∧ decide (rc ≠ 0) = rb) := ⟨hrc, hrb⟩; clear hrc hrb; have H4 : Hid (w4.heap[w3.heap.size + 1]? = some (.cells #[.bool false, .int .i64 0, .int .i64 0] 43 (0, 0))) := (T4.out.2.block _ (lt_of_heap X2.out) (fun e => by rcases e with e | e; have := T3.out.2.size; have := F2.out.size; have := lt_of_heap J2.out.c; omega; have := T3.out.1.own.lt _ e; omega)).trans X2.out)
    | (refine wpList_storeB rfl 43 (.tmp 10) (.tmp 46) rfl (w3.heap.size + 1) #[.bool false, .int .i64 0, .int .i64 0] #[.bool rb, .int .i64 0, .int .i64 rc] 43 rfl rfl H4.out rfl (by kernel_rfl) (by simp [Value.oneCell']) ?_; intro w5 X5 Y5))
  have HLJ : Hid (W.heap.size < w2.heap.size) := lt_of_heap J2.out.c
  have HZ : Hid (w2.heap.size ≤ w3.heap.size) := T3.out.2.size
  have HLW2 := HLW.out
  have FZ : Hid (Fr (fun k => k = W.heap.size ∨ v3.ownBlock = some k ∨ k = w3.heap.size + 1) x2 w5) := (T4.out.2.mono (fun k _ e => by rcases e with e | e; exact .inl e; exact .inr (.inl e))).trans (Y5.out.mono (fun _ _ e => .inr (.inr e)))
  have A5 : Hid (FAt w5 w.heap.size f p cp q cq) := (FZ.out.block _ (lt_of_heap A3.out) (fun e => by
    have h1 := HLJ.out
    have h2 := HZ.out
    rcases e with e | e | e
    · omega
    · have := HB3.out _ e; omega
    · omega)).trans A3.out
  have FALL : Hid (Below w.heap.size w w5) := by
    have h1 := HLJ.out
    have h2 := HZ.out
    exact Fr.below (S := fun k => w.heap.size ≤ k) (((HFW.out.mono (fun _ _ e => e.elim)).trans (FA.out.mono (fun k _ e => by omega))).trans (FZ.out.mono (fun k _ e => by
      rcases e with e | e | e
      · omega
      · have := HB3.out _ e; omega
      · omega))) (fun k hk e => by omega)
  have J5 : Hid (JC w5 W.heap.size ((100 : Nat) : Int) r.o v4) := T4.out.1.c.fr Y5.out (by have h1 := HLJ.out; have h2 := HZ.out; omega)
  clear d0 d1 d2 d3 d4 d5 d6 d7 d8 d9 d10 d11
  obtain ⟨d0, d1, d2, d3, d4, d5, d6, d7, d8, d9, d10, d11⟩ := fcells A5.out
  obtain ⟨s0, s1, s2⟩ := cells3 X5.out
  have HR := HSO.out
  rw [HRC.out.1] at HR
  have hrb := HRC.out.2
  by_cases h9 : f.k = 9
  · have D9 : decide (f.k = 9) = true := by simpa using h9
    have E9 : (f.k == 9) = true := by simpa using h9
    by_cases hst : f.st = sid
    · have DS : decide (f.st = sid) = true := by simpa using hst
      have ES : (f.st == sid) = true := by simpa using hst
      by_cases hl : 99 < f.X.length
      · have hc : rc = 11 := by rw [HR.1, if_pos ⟨h9, hst⟩, if_pos (by omega)]
        subst hc
        obtain rfl : rb = _ := hrb.symm
        clear HRC
        have L1 : (99 : Int) < (f.X.length : Int) := by omega
        clear HR h9 hst
        go_wp2_with (fail)
        go_ret
        exact ⟨rfl, FALL.out⟩
      · have hc : rc = 0 := by rw [HR.1, if_pos ⟨h9, hst⟩, if_neg (by omega)]
        subst hc
        obtain rfl : rb = _ := hrb.symm
        clear HRC
        have L1 : ¬ (99 : Int) < (f.X.length : Int) := by omega
        clear HR h9 hst
        go_wp2_with (fail)
        go_ret
        exact ⟨rfl, FALL.out⟩
    · have DS : decide (f.st = sid) = false := by simpa using hst
      have ES : (f.st == sid) = false := by simpa using hst
      have hc : rc = 1 := by rw [HR.1, if_neg (fun h => hst h.2)]
      subst hc
      obtain rfl : rb = _ := hrb.symm
      clear HRC
      have KZ : Hid (Calls Try.prog 17 #[.pointer (some ⟨W.heap.size, 0, none⟩)] w5 fun e w' => e = .returned (.int .i64 0) ∧ w5 = w') := by
        have := Stream_in W.heap.size _ _ _ w5 J5.out
        rw [HR.2 (fun h => hst h.2)] at this
        exact this
      clear HR h9 hst
      go_wp2_with (go_at_call 17; refine KZ.out.mono ?_; rintro e w' ⟨rfl, rfl⟩)
      go_ret
      exact ⟨rfl, FALL.out⟩
  · have D9 : decide (f.k = 9) = false := by simpa using h9
    have E9 : (f.k == 9) = false := by simpa using h9
    have hc : rc = 1 := by rw [HR.1, if_neg (fun h => h9 h.1)]
    subst hc
    obtain rfl : rb = _ := hrb.symm
    clear HRC
    have KZ : Hid (Calls Try.prog 17 #[.pointer (some ⟨W.heap.size, 0, none⟩)] w5 fun e w' => e = .returned (.int .i64 0) ∧ w5 = w') := by
      have := Stream_in W.heap.size _ _ _ w5 J5.out
      rw [HR.2 (fun h => h9 h.1)] at this
      exact this
    clear HR h9
    go_wp2_with (go_at_call 17; refine KZ.out.mono ?_; rintro e w' ⟨rfl, rfl⟩)
    go_ret
    exact ⟨rfl, FALL.out⟩
end Go.Proofs.Ytdndhidinbmpdaa
