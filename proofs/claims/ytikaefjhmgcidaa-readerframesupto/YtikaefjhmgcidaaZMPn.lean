/- Plain facts: a frame that is read is written as it was. -/
import Derived.Test.YtikaefjhmgcidaaZMPl
import Derived.Test.YtikaefjhmgcidaaZMTe
import Derived.Test.YtikaefjhmgcidaaZRi
namespace Go.Proofs.Ytikaefjhmgcidaa
open Go.RowKit
set_option linter.unusedVariables false
set_option maxRecDepth 100000
set_option maxHeartbeats 4000000

/-- A frame's numbers are such as fit. -/
structure Nums (f : Fra) : Prop where
  few : f.X.length < 2 ^ 47
  code : f.code < 4294967296
  k : (Lit.int .i64 f.k).wf = true
  fl : (Lit.int .i64 f.fl).wf = true
  st : (Lit.int .i64 f.st).wf = true
  pad : (Lit.int .i64 f.pad).wf = true
  last : (Lit.int .i64 f.last).wf = true
  inc : (Lit.int .i64 f.inc).wf = true
  dep : (Lit.int .i64 f.dep).wf = true
  wt : (Lit.int .i64 f.wt).wf = true
theorem FrIn.nums {w : World} {f : Fra} {p q : Option Addr} {cq : Nat} (h : FrIn w f p q cq) : Nums f := ⟨h.few, h.code, h.k, h.fl, h.st, h.pad, h.last, h.inc, h.dep, h.wt⟩
theorem Nums.frIn {w : World} {f : Fra} {p q : Option Addr} {cq : Nat} (h : Nums f) (h1 : SrcAt w p f.X) (h2 : SetsAt w q cq f.Y) : FrIn w f p q cq := ⟨h1, h2, h.few, h.code, h.k, h.fl, h.st, h.pad, h.last, h.inc, h.dep, h.wt⟩
theorem Nums.cp {f g : Fra} (hf : Nums f) (hg : Nums g) (j : Nat) : Nums (cpP f g j) := by
  unfold cpP
  repeat' split
  · exact { hg with last := hf.last }
  · exact { hg with code := hf.code }
  · exact { hg with dep := hf.dep, wt := hf.wt }
  · exact { hg with few := hf.few }
  · exact { hg with few := hg.few }
  · exact { hg with inc := hf.inc }
theorem Nums.fold {f : Fra} (hf : Nums f) : ∀ (js : List Nat) (g : Fra), Nums g → Nums (js.foldl (cpP f) g) := by
  intro js
  induction js with
  | nil => intro g hg; exact hg
  | cons j js ih => intro g hg; exact ih _ (hf.cp hg j)
theorem Nums.nf {f : Fra} (hf : Nums f) : Nums (nf f) := by
  refine hf.fold _ _ ⟨by simp [baseF, zeroF], by simp [baseF, zeroF], hf.k, hf.fl, hf.st, ?_, (by show (Lit.int .i64 0).wf = true; decide), (by show (Lit.int .i64 0).wf = true; decide), (by show (Lit.int .i64 0).wf = true; decide), (by show (Lit.int .i64 0).wf = true; decide)⟩
  unfold baseF
  dsimp only
  split
  · exact hf.pad
  · decide
theorem nf_piece {f : Fra} : ∀ j ∈ partsOf f, pieceO j (nf f) = pieceO j f := by
  have h := parts_is f
  intro j hj
  unfold nf
  generalize partsOf f = L at h hj
  simp only [List.mem_cons, List.not_mem_nil, or_false] at h
  rcases h with rfl | rfl | rfl | rfl | rfl | rfl | rfl | rfl | rfl | rfl
  all_goals simp at hj
  all_goals (try (rcases hj with rfl | rfl | rfl)) <;> (try (rcases hj with rfl | rfl)) <;> (try subst hj) <;> simp [pieceO, cpP, depW, baseF] <;> (try rfl)
theorem nf_pieces {f : Fra} (js : List Nat) (h : ∀ j ∈ js, pieceO j (nf f) = pieceO j f) : piecesO (nf f) js = piecesO f js := by
  induction js with
  | nil => rfl
  | cons j js ih => rw [piecesO, piecesO, h j (by simp), ih (fun k hk => h k (by simp [hk]))]
theorem nf_write {f : Fra} (h : (writeO f).1 = 0) : writeO (nf f) = writeO f := by
  obtain ⟨h1, h2, h3, h4, h5, h6⟩ := writeO_ok h
  obtain ⟨e1, e2, e3, e4⟩ := nf_head f
  have p1 : headOk (nf f) = headOk f := by simp only [headOk, e1, e2, e3]
  have p2 : padd (nf f) = padd f := by simp only [padd, e1, e2]
  have p3 : padOk (nf f) = true := by
    cases hp : padd f
    · simp [padOk, p2, hp, e4]
    · have : 0 ≤ f.pad ∧ f.pad ≤ 255 := by simpa [padOk, hp] using h3
      simp [padOk, p2, hp, e4, this]
  have p4 : partsOf (nf f) = partsOf f := by simp only [partsOf, e1, e2]
  have p5 : allP (nf f) = allP f := by
    have q1 : padsB (nf f) = padsB f := by
      cases hp : padd f <;> simp [padsB, p2, hp, e4]
    have q2 : padsE (nf f) = padsE f := by
      cases hp : padd f <;> simp [padsE, p2, hp, e4]
    rw [allP, allP, p4, nf_pieces _ nf_piece, q1, q2]
  have p6 : ∀ n, headB (nf f) n = headB f n := fun n => by simp only [headB, e1, e2, e3]
  rw [writeO, writeO, p1, e1, e3, p3, p5, h1, h2, h3, h4, p6]
theorem nf_X {f : Fra} (h : f.k = 0 ∨ f.k = 1 ∨ f.k = 9 ∨ f.k = 6 ∨ f.k = 7) : (nf f).X = f.X := by
  unfold nf
  rcases h with h | h | h | h | h
  · have e : partsOf f = [3] := by simp [partsOf, h]
    rw [e]; rfl
  · by_cases hh : has f.fl 32 = true
    · have e : partsOf f = [2, 3] := by simp [partsOf, h, hh]
      rw [e]; rfl
    · have e : partsOf f = [3] := by simp [partsOf, h, hh]
      rw [e]; rfl
  · have e : partsOf f = [3] := by simp [partsOf, h]
    rw [e]; rfl
  · have e : partsOf f = [5] := by simp [partsOf, h]
    rw [e]; rfl
  · have e : partsOf f = [0, 1, 3] := by simp [partsOf, h]
    rw [e]; rfl
theorem nf_code {f : Fra} (h : f.k = 3) : (nf f).code = f.code := by
  have e : partsOf f = [1] := by simp [partsOf, h]
  rw [nf, e]; rfl
theorem nf_inc {f : Fra} (h : f.k = 8) : (nf f).inc = f.inc := by
  have e : partsOf f = [6] := by simp [partsOf, h]
  rw [nf, e]; rfl
theorem nf_Y {f : Fra} (h : f.k = 4) : (nf f).Y = f.Y := by
  have e : partsOf f = [4] := by simp [partsOf, h]
  rw [nf, e]; rfl
end Go.Proofs.Ytikaefjhmgcidaa
/- Frames that are told fit; the law's own same and awake. -/
namespace Go.Proofs.Ytikaefjhmgcidaa
open Go.RowKit
set_option linter.unusedVariables false
set_option maxRecDepth 100000
set_option maxHeartbeats 4000000

theorem Nums.rdP {g : Fra} (hg : Nums g) (j : Nat) (b : List UInt8) (hb : b.length < 2 ^ 47) : Nums (rdP j g b) := by
  have h4 := num_small 4 b
  have hi : (Lit.int .i64 ((num (b.take 4) % 2147483648 : Nat) : Int)).wf = true := i64w (by omega) (by omega)
  have hw : (Lit.int .i64 ((((b.getD 4 0).toNat : Nat) : Int) + 1)).wf = true := by
    have := (b.getD 4 0).toNat_lt
    exact i64w (by omega) (by omega)
  unfold Go.Proofs.Ytikaefjhmgcidaa.rdP
  repeat' split
  · exact { hg with last := hi }
  · exact { hg with code := by show num (b.take 4) < 4294967296; omega }
  · exact { hg with dep := hi, wt := hw }
  · exact { hg with few := hb }
  · exact { hg with few := hg.few }
  · exact { hg with inc := hi }
theorem Nums.rds : ∀ (js : List Nat) (g : Fra) (b : List UInt8), Nums g → b.length < 2 ^ 47 → Nums (rd js g b) := by
  intro js
  induction js with
  | nil => intro g b hg _; exact hg
  | cons j js ih =>
    intro g b hg hb
    rw [rd]
    exact ih _ _ (hg.rdP j _ (by rw [List.length_take]; omega)) (by rw [List.length_drop]; omega)
theorem zero_nums : Nums zeroF := ⟨by simp [zeroF], by simp [zeroF], by decide, by decide, by decide, by decide, by decide, by decide, by decide, by decide⟩
theorem parse_nums (B : List UInt8) (most : Int) : Nums (parseO B most).1 := by
  unfold parseO
  repeat' split
  all_goals try exact zero_nums
  have u3 := (B.getD 3 0).toNat_lt
  have u4 := (B.getD 4 0).toNat_lt
  have hh : Nums (headF B) := ⟨by simp [headF, zeroF], by simp [headF, zeroF], i64w (by show _ ≤ (((B.getD 3 0).toNat : Nat) : Int); omega) (by show (((B.getD 3 0).toNat : Nat) : Int) ≤ _; omega), i64w (by show _ ≤ (((B.getD 4 0).toNat : Nat) : Int); omega) (by show (((B.getD 4 0).toNat : Nat) : Int) ≤ _; omega), i64w (by show _ ≤ ((num ((B.drop 5).take 4) % 2147483648 : Nat) : Int); omega) (by show ((num ((B.drop 5).take 4) % 2147483648 : Nat) : Int) ≤ _; omega), (by show (Lit.int .i64 0).wf = true; decide), (by show (Lit.int .i64 0).wf = true; decide), (by show (Lit.int .i64 0).wf = true; decide), (by show (Lit.int .i64 0).wf = true; decide), (by show (Lit.int .i64 0).wf = true; decide)⟩
  obtain ⟨h, hhd⟩ : ∃ h, headF B = h := ⟨_, rfl⟩
  rw [hhd] at hh
  dsimp only
  rw [hhd]
  unfold readO
  repeat' split
  all_goals try exact zero_nums
  all_goals
    dsimp only
    split
    · exact zero_nums
    · refine Nums.rds _ _ _ { hh with pad := ?_ } ?_
      · have hp : padN h ((B.drop 9).take (num (B.take 3))) ≤ 255 := by
          unfold padN
          split
          · have := (((B.drop 9).take (num (B.take 3))).getD 0 0).toNat_lt
            omega
          · omega
        exact i64w (by show _ ≤ ((padN h _ : Nat) : Int); omega) (by show ((padN h _ : Nat) : Int) ≤ _; omega)
      · rw [List.length_take]
        have : (padC h ((B.drop 9).take (num (B.take 3)))).length ≤ num (B.take 3) := by
          unfold padC
          split
          · rw [List.length_drop, List.length_take, List.length_drop]; omega
          · rw [List.length_take, List.length_drop]; omega
        have := num_small 3 B
        omega

theorem next_nums (most : Int) : ∀ (n : Nat) (B : List UInt8) (X : Flt), B.length < n → Nums (nextR most B X).1.1 := by
  intro n
  induction n with
  | zero => intro B X h; omega
  | succ n ih =>
    intro B X hB
    rw [nextR_eq]
    split
    · exact zero_nums
    split
    · exact zero_nums
    split
    · exact zero_nums
    split
    · exact zero_nums
    split
    · exact parse_nums B most
    · rename_i he _ _ _
      have he0 : (parseO B most).2.2.2 = 0 := Classical.byContradiction he
      obtain ⟨⟨h9, hn⟩, -⟩ := parse_more he0
      exact ih _ X (by rw [List.length_drop]; omega)
/-- The same frame twice, wherever its bytes lie. -/
theorem nsame_in (f : Fra) (p q p' q' : Option Addr) (cp cq cp' cq' : Nat) (w : World) (hn : Nums f) (h1 : SrcAt w p f.X) (h2 : SrcAt w p' f.X) (h3 : SetsAt w q cq f.Y) (h4 : SetsAt w q' cq' f.Y) :
    Calls Try.prog 14 #[.agg #[.int .i64 f.k, .int .i64 f.fl, .int .i64 f.st, .slice p f.X.length cp, .int .i64 f.pad, .int .u32 f.code, .int .i64 f.last, .int .i64 f.inc, .int .i64 f.dep, .bool f.only, .int .i64 f.wt, .slice q f.Y.length cq], .agg #[.int .i64 f.k, .int .i64 f.fl, .int .i64 f.st, .slice p' f.X.length cp', .int .i64 f.pad, .int .u32 f.code, .int .i64 f.last, .int .i64 f.inc, .int .i64 f.dep, .bool f.only, .int .i64 f.wt, .slice q' f.Y.length cq']] w fun e w' => e = .returned (.bool true) ∧ Fr (fun _ => False) w w' := by
  obtain ⟨W, hW⟩ : ∃ W, W = (w.alloc (.cells #[.int .i64 f.k, .int .i64 f.fl, .int .i64 f.st, .slice p f.X.length cp, .int .i64 f.pad, .int .u32 f.code, .int .i64 f.last, .int .i64 f.inc, .int .i64 f.dep, .bool f.only, .int .i64 f.wt, .slice q f.Y.length cq] 36)).alloc (.cells #[.int .i64 f.k, .int .i64 f.fl, .int .i64 f.st, .slice p' f.X.length cp', .int .i64 f.pad, .int .u32 f.code, .int .i64 f.last, .int .i64 f.inc, .int .i64 f.dep, .bool f.only, .int .i64 f.wt, .slice q' f.Y.length cq'] 36) := ⟨_, rfl⟩
  have HFW : Hid (Fr (fun _ => False) w W) := by rw [hW]; exact ((Fr.refl _ _).alloc _).alloc _
  have A1 : Hid (FAt W w.heap.size f p cp q cq) := by rw [hW]; exact past_at _ (heap_alloc_new w _)
  have A2 : Hid (FAt W (w.heap.size + 1) f p' cp' q' cq') := by rw [hW]; exact last_at _ (by simp)
  have K1 : Hid (∀ w', Fr (fun _ => False) W w' → Calls Try.prog 20 #[.agg #[.int .i64 f.k, .int .i64 f.fl, .int .i64 f.st, .slice p f.X.length cp, .int .i64 f.pad, .int .u32 f.code, .int .i64 f.last, .int .i64 f.inc, .int .i64 f.dep, .bool f.only, .int .i64 f.wt, .slice q f.Y.length cq]] w' fun e w2 => WroteAs w' (writeO f) e w2) := fun w' hf => rWrite_in f p q cp cq w' (hn.frIn (h1.oldF (HFW.out.trans hf)) (h3.later (HFW.out.trans hf)))
  have K2 : Hid (∀ w', Fr (fun _ => False) W w' → Calls Try.prog 20 #[.agg #[.int .i64 f.k, .int .i64 f.fl, .int .i64 f.st, .slice p' f.X.length cp', .int .i64 f.pad, .int .u32 f.code, .int .i64 f.last, .int .i64 f.inc, .int .i64 f.dep, .bool f.only, .int .i64 f.wt, .slice q' f.Y.length cq']] w' fun e w2 => WroteAs w' (writeO f) e w2) := fun w' hf => rWrite_in f p' q' cp' cq' w' (hn.frIn (h2.oldF (HFW.out.trans hf)) (h4.later (HFW.out.trans hf)))
  obtain ⟨er, B, hout⟩ : ∃ er B, writeO f = (er, B) := ⟨_, _, rfl⟩
  rw [hout] at K1 K2
  clear h1 h2 h3 h4 hn hout
  go_enter Try.func14, Try.ntmps14
  go_upto_region 1 with (fail)
  rw [← hW]
  clear hW
  obtain ⟨c0, c1, c2, c3, c4, c5, c6, c7, c8, c9, c10, c11⟩ := fcells A1.out
  go_wp2_with (fail)
  refine (K1.out _ (Fr.refl _ _)).mono ?_
  rintro e w1 ⟨a1, n1, d1, rfl, hn1, g1⟩
  have G1 : Hid (Gath W w1 (.slice a1 n1 d1) B) := g1
  clear g1 hn1 c0 c1 c2 c3 c4 c5 c6 c7 c8 c9 c10 c11
  obtain ⟨c0, c1, c2, c3, c4, c5, c6, c7, c8, c9, c10, c11⟩ := fcells (A2.out.later G1.out.2.2)
  go_wp2_with (fail)
  refine (K2.out _ G1.out.2.2).mono ?_
  rintro e w2 ⟨a2, n2, d2, rfl, hn2, g2⟩
  have G2 : Hid (Gath w1 w2 (.slice a2 n2 d2) B) := g2
  clear g2 hn2 c0 c1 c2 c3 c4 c5 c6 c7 c8 c9 c10 c11
  have c0 := (fcells (A1.out.later (G1.out.2.2.trans G2.out.2.2))).1
  have e0 := (fcells (A2.out.later (G1.out.2.2.trans G2.out.2.2))).1
  have s1 := (G1.out.fr G2.out.2.2).str
  have s2 := G2.out.str
  go_wp2_with (fail)
  go_ret
  exact ⟨rfl, HFW.out.trans (G1.out.2.2.trans G2.out.2.2)⟩
theorem nawake_in (w : World) : Calls Try.prog 17 #[] w fun e w' => e = .returned (.bool true) ∧ Fr (fun _ => False) w w' := by
  go_enter Try.func17, Try.ntmps17
  go_wp2_with (go_at_call 8; refine (New_rdr 16384 _ (by omega) (by omega)).mono ?_; rintro e w1 ⟨rfl, r1, f1⟩; have R1 : Hid (Rdr w1 w.heap.size 16384 [] ⟨false, 0, 0⟩ none 0 ∧ Fr (fun _ => False) w w1) := ⟨r1, f1⟩; clear r1 f1)
  have HS2 : Hid (SrcAt (w1.alloc (.cells #[.int .u8 1] 5)) (some ⟨w1.heap.size, 0, none⟩) [1]) := src_one w1 1
  refine (Feed_rdr w.heap.size 16384 [] ⟨false, 0, 0⟩ none 0 (some ⟨w1.heap.size, 0, none⟩) 1 1 [1] _ (R1.out.1.later ((Fr.refl _ _).alloc _)) (by omega) rfl HS2.out rfl (by omega)).mono ?_
  rintro e w3 ⟨rfl, ob3, r3, f3, o3⟩
  have F3 : Hid (Fr (fun _ => False) w w3) := (((R1.out.2.alloc _).mono (T := fun k => w.heap.size ≤ k) (fun _ _ e => e.elim)).trans (f3.mono (fun k _ e => by rcases e with e | e; exact Nat.le_of_eq e.symm; cases e))).mono (fun k hk e => by omega)
  have KR := Rest_rdr w.heap.size 16384 ([] ++ [1]) ⟨false, 0, 0⟩ ob3 (0 + 1) w3 r3 (by omega)
  clear r3 f3 o3
  go_wp2_with (go_at_call 16; refine KR.mono ?_; clear KR; rintro e w4 ⟨rfl, f4⟩)
  go_ret
  exact ⟨rfl, F3.out.trans f4⟩
end Go.Proofs.Ytikaefjhmgcidaa
