/- What a setup offers; Offer of settings that nothing waits of; a frame is written. -/
import Derived.Test.YtpjbgjgaigkbcaaGreatKb
import Derived.Test.YtpjbgjgaigkbcaaGreatFj
namespace Go.Proofs.YtpjbgjgaigkbcaaGreat
open Go.RowKit Go.Maps
set_option linter.unusedVariables false
set_option maxRecDepth 100000
set_option maxHeartbeats 4000000

/-- The settings that an end tells. -/
def offY (sv : Bool) (st wd fr ls tb : Nat) : List (Int × Nat) := if sv then [(1, tb), (3, st), (4, wd), (5, fr), (6, ls), (8, 1)] else [(1, tb), (2, 0), (4, wd), (5, fr), (6, ls)]
theorem sets_lit {w : World} {g : Nat} {cs : Array Value} {Y : List (Int × Nat)} (hg : w.heap[g]? = some (.cells cs 114 (0, 0))) (hcs : cs.toList = rowS Y) (hf : Y.length ≤ 100) (hs : ∀ y ∈ Y, (Lit.int .i64 y.1).wf = true ∧ y.2 < 4294967296) :
    SetsAt w (some ⟨g, 0, none⟩) Y.length Y := by
  refine ⟨Nat.le_refl _, by unfold maxLen; omega, by omega, fun r y hr => ?_⟩
  obtain ⟨h1, h2⟩ := rowS_at hr
  rw [← hcs] at h1 h2
  rw [Array.getElem?_toList] at h1 h2
  have hy := hs y (List.mem_of_getElem? hr)
  refine ⟨g, 0, rfl, lt_of_heap hg, ?_, ?_, hy.1, hy.2⟩
  · rw [Nat.zero_add]; exact cell_of_heap hg h1
  · rw [Nat.zero_add]; exact cell_of_heap hg h2
/-- What is answered to one who asks for the offer. -/
def Offered (w : World) (Y : List (Int × Nat)) (e : Ending) (w' : World) : Prop := ∃ q m c, e = .returned (.slice q m c) ∧ Y.length = m ∧ SetsAt w' q c Y ∧ (∀ ad, q = some ad → w.heap.size ≤ ad.block) ∧ Fr (fun _ => False) w w'
theorem offer_in (sv : Bool) (st wd fr ls tb qu : Nat) (w : World) (h1 : st ≤ 1024) (h2 : wd ≤ 2147483647) (h3 : fr ≤ 16777215) (h4 : ls ≤ 2147483647) (h5 : tb ≤ 65536) :
    Calls Tryz.prog 19 #[.agg #[.bool sv, .int .i64 (st : Int), .int .i64 (wd : Int), .int .i64 (fr : Int), .int .i64 (ls : Int), .int .i64 (tb : Int), .int .i64 (qu : Int)]] w (Offered w (offY sv st wd fr ls tb)) := by
  have k1 : IntKind.u32.wrap (st : Int) = (st : Int) := by rw [IntKind.wrap_u32]; omega
  have k2 : IntKind.u32.wrap (wd : Int) = (wd : Int) := by rw [IntKind.wrap_u32]; omega
  have k3 : IntKind.u32.wrap (fr : Int) = (fr : Int) := by rw [IntKind.wrap_u32]; omega
  have k4 : IntKind.u32.wrap (ls : Int) = (ls : Int) := by rw [IntKind.wrap_u32]; omega
  have k5 : IntKind.u32.wrap (tb : Int) = (tb : Int) := by rw [IntKind.wrap_u32]; omega
  have HB : Hid (st ≤ 1024 ∧ wd ≤ 2147483647 ∧ fr ≤ 16777215 ∧ ls ≤ 2147483647 ∧ tb ≤ 65536) := ⟨h1, h2, h3, h4, h5⟩
  clear h1 h2 h3 h4 h5
  cases sv
  · go_enter Tryz.func19, Tryz.ntmps19
    go_wp2_with (fail)
    go_ret
    obtain ⟨b1, b2, b3, b4, b5⟩ := HB.out
    refine ⟨_, 5, 5, rfl, rfl, ?_, fun ad e => by cases e; dsimp only; omega, ((((((Fr.refl _ _).alloc _).alloc _).alloc _).alloc _).alloc _).alloc _⟩
    refine sets_lit (Y := offY false st wd fr ls tb) (last_at _ (by simp)) rfl (by simp [offY]) ?_
    intro y hy
    simp [offY] at hy
    rcases hy with rfl | rfl | rfl | rfl | rfl
    all_goals exact ⟨rfl, by dsimp only; omega⟩
  · go_enter Tryz.func19, Tryz.ntmps19
    go_wp2_with (fail)
    go_ret
    obtain ⟨b1, b2, b3, b4, b5⟩ := HB.out
    refine ⟨_, 6, 6, rfl, rfl, ?_, fun ad e => by cases e; dsimp only; omega, (((((((Fr.refl _ _).alloc _).alloc _).alloc _).alloc _).alloc _).alloc _).alloc _⟩
    refine sets_lit (Y := offY true st wd fr ls tb) (last_at _ (by simp)) rfl (by simp [offY]) ?_
    intro y hy
    simp [offY] at hy
    rcases hy with rfl | rfl | rfl | rfl | rfl | rfl
    all_goals exact ⟨rfl, by dsimp only; omega⟩
theorem Off_in (g b : Nat) (q : Option Addr) (cq m : Nat) (Y : List (Int × Nat)) (w : World) (h : SetC w g b (.slice none 0 0)) (hY : SetsAt w q cq Y) (hm : Y.length = m) :
    Calls Tryz.prog 20 #[.pointer (some ⟨g, 0, none⟩), .slice q m cq] w fun e w' => e = .returned (.int .i64 0) ∧ Fr (fun k => k = g) w w' := by
  have K1 := smade_in g b _ w h
  obtain ⟨p, d, w1, hr, hc1, hf1⟩ := copyS_run (hY.later ((Fr.refl _ _).drew)) (.slice none 0 0) (World.ownsRow_nil _ _ _ _)
  rw [hm] at hr
  have HF1 : Hid (Fr (fun _ => False) w w1) := ((Fr.refl _ _).drew).trans (hf1.mono (fun k _ e => by simp [Value.ownBlock] at e))
  have KA := qadd_in g b none 0 0 [] p m d w1 (h.fr HF1.out id) (OwnAt.nil _ _) (by simp)
  clear h hY hm hc1 hf1
  go_enter Tryz.func20, Tryz.ntmps20
  go_upto_region 3 with (go_at_call 34; refine K1.mono ?_; clear K1; rintro e w2 ⟨rfl, rfl⟩)
  refine wp_region_held_drew (S := fun _ => True) (by kernel_rfl) trivial (fun hHeld => ?_)
  refine wpAnyH_take (i := 0) (oi := _) (v := .pointer (some ⟨g, 0, none⟩)) rfl (by kernel_rfl) (by kernel_rfl) (by kernel_rfl) (fun _ _ _ h => h) (Or.inl ⟨by kernel_rfl, fun w2 hw => by go_simp⟩) hHeld ?_
  refine wpAnyH_take (i := 1) (oi := _) (v := .pointer (some ⟨g, 0, none⟩)) rfl (by kernel_rfl) (by kernel_rfl) (by kernel_rfl) (fun _ _ _ h => h) (Or.inl ⟨by kernel_rfl, fun w2 hw => by go_simp⟩) hHeld ?_
  refine wpAnyH_take (i := 2) (oi := _) (v := .pointer (some ⟨g, 1, none⟩)) rfl (by kernel_rfl) (by kernel_rfl) (by kernel_rfl) (fun _ _ _ h => h) (Or.inl ⟨by kernel_rfl, fun w2 hw => by go_simp⟩) hHeld ?_
  refine wpAnyH_take (i := 3) (oi := _) (v := .slice q m cq) rfl (by kernel_rfl) (by kernel_rfl) (by kernel_rfl) (fun _ _ _ h => h) (Or.inl ⟨by kernel_rfl, fun w2 hw => by go_simp⟩) hHeld ?_
  simp only [Act.put, List.getElem_toArray, List.getElem_cons_succ, List.getElem_cons_zero, List.setIfInBounds_toArray, List.set_cons_zero, List.set_cons_succ]
  refine wpAnyH_ready (rs := [4]) (by kernel_rfl) (by simp) ?_
  refine AllReadyH.cons rfl (fun K hK => ?_) AllReadyH.nil
  refine stepR_append_run rfl (.const (.slice none 0 0)) (.tmp 11) 60 rfl 12 rfl 60 rfl (.slice none 0 0) (.slice q m cq) (.slice p m d) rfl (by go_simp) hr ?_
  refine hK.out _ _ trivial (fun _ => ?_)
  clear hK K hr
  simp only [Act.put, List.setIfInBounds_toArray, List.set_cons_zero, List.set_cons_succ]
  refine wpAnyH_ready (rs := [5]) (by kernel_rfl) (by simp) ?_
  refine AllReadyH.cons rfl (fun K hK => ?_) AllReadyH.nil
  go_simp
  refine KA.mono ?_
  clear KA
  rintro e w3 ⟨rfl, ha⟩
  refine hK.out _ _ trivial (fun _ => ?_)
  clear hK K
  refine wpAnyH_done (by kernel_rfl) ?_ _
  have HA : Hid (AddAs w1 g b (.slice none 0 0) ([] ++ [.slice p m d]) w3) := ha
  clear ha
  go_wp2_with (fail)
  go_ret
  obtain ⟨a', n', c', h1, h2, h3, h4⟩ := HA.out
  exact ⟨rfl, (HF1.out.mono (fun _ _ e => e.elim)).trans (h3.mono (fun k _ e => e.elim id (fun e => by simp [Value.ownBlock] at e)))⟩

/-- A connection's block. -/
def ConnC (w : World) (c : Nat) (V : Array Value) : Prop := w.heap[c]? = some (.cells V 45 (0, 0))
theorem ConnC.fr {S : Nat → Prop} {w w' : World} {c : Nat} {V : Array Value} (h : ConnC w c V) (hf : Fr S w w') (hs : ¬ S c) : ConnC w' c V := (hf.block c (lt_of_heap h) hs).trans h
theorem ConnC.set {w : World} {c j : Nat} {V : Array Value} (h : ConnC w c V) (v : Value) : ConnC (w.setCell ⟨c, j, none⟩ v) c (V.setIfInBounds j v) := sset h
theorem ConnC.ne {w : World} {c : Nat} {V : Array Value} {u : Value} {xs : List Value} (h : ConnC w c V) (ho : OwnAt w 5 u xs) : ∀ k, u.ownBlock = some k → k ≠ c := by
  rintro k hk rfl
  rcases ho with ⟨rfl, -⟩ | ⟨g', off, cap, cur, rfl, hg, -⟩
  · simp [Value.ownBlock] at hk
  · simp [Value.ownBlock] at hk
    subst hk
    rw [ConnC, hg] at h
    simp at h
/-- What write leaves. -/
def WritAs (w : World) (c : Nat) (V : Array Value) (v : Value) (k : Nat) (e : Ending) (w' : World) : Prop :=
  e = .returned (.tuple #[]) ∧ ∃ a' c', ConnC w' c (V.setIfInBounds 23 (.slice a' k c')) ∧ Fr (fun j => j = c ∨ v.ownBlock = some j) w w'
theorem writeO_len (f : Fra) : (writeO f).2.length ≤ 20000000 := by
  unfold writeO
  split
  · split
    · split
      · have : (headB f (allP f).2.flatten.length).length = 9 := by simp [headB, be_length]
        simp only [List.length_append]
        omega
      · simp
    · simp
  · simp
theorem kwrite_in (c : Nat) (V : Array Value) (a : Option Addr) (n cc : Nat) (B : List UInt8) (f : Fra) (p q : Option Addr) (cp cq : Nat) (w : World) (h : ConnC w c V) (hv : V[23]? = some (.slice a n cc)) (ho : OwnAt w 5 (.slice a n cc) (bv B)) (hB : B.length = n) (hn : n ≤ 1000000) (hin : FrIn w f p q cq) :
    Calls Tryz.prog 21 #[.pointer (some ⟨c, 0, none⟩), .agg #[.int .i64 f.k, .int .i64 f.fl, .int .i64 f.st, .slice p f.X.length cp, .int .i64 f.pad, .int .u32 f.code, .int .i64 f.last, .int .i64 f.inc, .int .i64 f.dep, .bool f.only, .int .i64 f.wt, .slice q f.Y.length cq]] w (WritAs w c V (.slice a n cc) (n + (writeO f).2.length)) := by
  obtain ⟨W, hW⟩ : ∃ W, W = w.alloc (.cells #[.int .i64 f.k, .int .i64 f.fl, .int .i64 f.st, .slice p f.X.length cp, .int .i64 f.pad, .int .u32 f.code, .int .i64 f.last, .int .i64 f.inc, .int .i64 f.dep, .bool f.only, .int .i64 f.wt, .slice q f.Y.length cq] 66) := ⟨_, rfl⟩
  have HFW : Hid (Fr (fun _ => False) w W) := by rw [hW]; exact (Fr.refl _ _).alloc _
  have KW := Write_in f p q cp cq W (hin.later HFW.out)
  have HC : Hid (ConnC w c V) := h
  have HV : Hid (V[23]? = some (.slice a n cc)) := hv
  have HO : Hid (OwnAt w 5 (.slice a n cc) (bv B)) := ho
  have HB : Hid (B.length = n ∧ n ≤ 1000000) := ⟨hB, hn⟩
  obtain ⟨i5, y1, y2, y3, y4⟩ := info5
  have Y1 : Hid (Tryz.prog.info? 5 = some i5) := y1
  have Y2 : Hid (i5.zero = some (.int .u8 0)) := y2
  have Y3 : Hid (i5.size = 1) := y3
  have Y4 : Hid (i5.bytes = 1) := y4
  have HL := writeO_len f
  have HLL : Hid ((writeO f).2.length ≤ 20000000) := HL
  clear h hv ho hB hn hin y1 y2 y3 y4 HL
  go_enter Tryz.func21, Tryz.ntmps21
  go_wp2_with (fail)
  rw [← hW]
  clear hW
  refine KW.mono ?_
  clear KW
  rintro e w1 ⟨a1, n1, c1, rfl, hn1, hg1⟩
  have HG : Hid (Gath W w1 (.slice a1 n1 c1) (writeO f).2) := hg1
  have HN1 : Hid ((writeO f).2.length = n1) := hn1
  have HF1 : Hid (Fr (fun _ => False) w w1) := HFW.out.trans hg1.2.2
  have HC1 : Hid (ConnC w1 c V) := HC.out.fr HF1.out id
  have HO1 : Hid (OwnAt w1 5 (.slice a n cc) (bv B)) := HO.out.fr HF1.out (fun _ _ => id)
  have HS1 : Hid (SrcAt w1 a1 (writeO f).2) := own_src hg1.1
  have d1 : w1.cell? ⟨c, 23, none⟩ = some (.slice a n cc) := cell_of_heap HC1.out HV.out
  clear hg1 hn1
  go_wp2_with (refine wpList_append_bytes rfl (.tmp 15) (.tmp 16) 43 43 rfl 5 i5 Tryz.underlying43 Tryz.underlying43 Y1.out Y2.out Y3.out Y4.out (.slice a n cc) B (by go_simp) HO1.out a1 n1 c1 (by go_simp) (writeO f).2 HS1.out HN1.out (by have := HB.out; have := HLL.out; have := HN1.out; omega) ?_; intro a' n' c' w2 hn' hO' hf' hk'; have HC2 : Hid (ConnC w2 c V) := HC1.out.fr hf'.out (fun e => HC1.out.ne HO1.out c e rfl); have d2 : w2.cell? ⟨c, 23, none⟩ = some (.slice a n cc) := cell_of_heap HC2.out HV.out; have z2 : w2.frozen? ⟨c, 23, none⟩ = false := frozen_of_heap HC2.out; have HO2 : Hid (OwnAt w2 5 (.slice a' n' c') (bv (B ++ (writeO f).2))) := hO'; clear hO')
  refine bodyPost_end (results_none rfl _ _ _) rfl ?_
  have e1 : n' = n + (writeO f).2.length := by have := hn'.out; have := HB.out.1; have := HN1.out; omega
  subst e1
  refine ⟨rfl, a', c', HC2.out.set _, ?_⟩
  exact ((HF1.out.mono (T := fun k => k = c ∨ (Value.slice a n cc).ownBlock = some k) (fun _ _ e => e.elim)).trans (hf'.out.mono (fun _ _ e => .inr e))).setS (.inl rfl) 23 _
/-- The same, behind bytes that fill their slice: they are copied. -/
theorem kwrite_full (c : Nat) (V : Array Value) (a : Option Addr) (n : Nat) (B : List UInt8) (f : Fra) (p q : Option Addr) (cp cq : Nat) (w : World) (h : ConnC w c V) (hv : V[23]? = some (.slice a n n)) (ho : SrcAt w a B) (hB : B.length = n) (hn : n ≤ 1000000) (hin : FrIn w f p q cq) (hpos : 0 < (writeO f).2.length) :
    Calls Tryz.prog 21 #[.pointer (some ⟨c, 0, none⟩), .agg #[.int .i64 f.k, .int .i64 f.fl, .int .i64 f.st, .slice p f.X.length cp, .int .i64 f.pad, .int .u32 f.code, .int .i64 f.last, .int .i64 f.inc, .int .i64 f.dep, .bool f.only, .int .i64 f.wt, .slice q f.Y.length cq]] w (WritAs w c V (.slice none 0 0) (n + (writeO f).2.length)) := by
  obtain ⟨W, hW⟩ : ∃ W, W = w.alloc (.cells #[.int .i64 f.k, .int .i64 f.fl, .int .i64 f.st, .slice p f.X.length cp, .int .i64 f.pad, .int .u32 f.code, .int .i64 f.last, .int .i64 f.inc, .int .i64 f.dep, .bool f.only, .int .i64 f.wt, .slice q f.Y.length cq] 66) := ⟨_, rfl⟩
  have HFW : Hid (Fr (fun _ => False) w W) := by rw [hW]; exact (Fr.refl _ _).alloc _
  have KW := Write_in f p q cp cq W (hin.later HFW.out)
  have HC : Hid (ConnC w c V) := h
  have HV : Hid (V[23]? = some (.slice a n n)) := hv
  have HO : Hid (SrcAt w a B) := ho
  have HB : Hid (B.length = n ∧ n ≤ 1000000 ∧ 0 < (writeO f).2.length) := ⟨hB, hn, hpos⟩
  obtain ⟨i5, y1, y2, y3, y4⟩ := info5
  have Y1 : Hid (Tryz.prog.info? 5 = some i5) := y1
  have Y2 : Hid (i5.zero = some (.int .u8 0)) := y2
  have Y3 : Hid (i5.size = 1) := y3
  have Y4 : Hid (i5.bytes = 1) := y4
  have HL := writeO_len f
  have HLL : Hid ((writeO f).2.length ≤ 20000000) := HL
  clear h hv ho hB hn hin y1 y2 y3 y4 HL hpos
  go_enter Tryz.func21, Tryz.ntmps21
  go_wp2_with (fail)
  rw [← hW]
  clear hW
  refine KW.mono ?_
  clear KW
  rintro e w1 ⟨a1, n1, c1, rfl, hn1, hg1⟩
  have HN1 : Hid ((writeO f).2.length = n1) := hn1
  have HF1 : Hid (Fr (fun _ => False) w w1) := HFW.out.trans hg1.2.2
  have HC1 : Hid (ConnC w1 c V) := HC.out.fr HF1.out id
  have HO1 : Hid (SrcAt w1 a B) := HO.out.oldF HF1.out
  have HS1 : Hid (SrcAt w1 a1 (writeO f).2) := own_src hg1.1
  have d1 : w1.cell? ⟨c, 23, none⟩ = some (.slice a n n) := cell_of_heap HC1.out HV.out
  clear hg1 hn1
  go_wp2_with (refine wpList_full rfl (.tmp 15) (.tmp 16) 43 43 rfl i5 Tryz.underlying43 Tryz.underlying43 Y1.out Y2.out Y3.out Y4.out a n B (by go_simp) HO1.out HB.out.1 HF1.out a1 n1 c1 (by go_simp) (writeO f).2 HS1.out HN1.out (by have := HB.out; have := HN1.out; omega) (by have := HB.out; have := HLL.out; have := HN1.out; omega) ?_; intro a' n' c' w2 hn' hG' hf'; have HC2 : Hid (ConnC w2 c V) := HC1.out.fr hf'.out id; have d2 : w2.cell? ⟨c, 23, none⟩ = some (.slice a n n) := cell_of_heap HC2.out HV.out; have z2 : w2.frozen? ⟨c, 23, none⟩ = false := frozen_of_heap HC2.out; clear hG')
  refine bodyPost_end (results_none rfl _ _ _) rfl ?_
  have e1 : n' = n + (writeO f).2.length := by have := hn'.out; have := HB.out.1; have := HN1.out; omega
  subst e1
  refine ⟨rfl, a', c', HC2.out.set _, ?_⟩
  exact ((HF1.out.trans hf'.out).mono (T := fun k => k = c ∨ (Value.slice none 0 0).ownBlock = some k) (fun _ _ e => e.elim)).setS (.inl rfl) 23 _
end Go.Proofs.YtpjbgjgaigkbcaaGreat
