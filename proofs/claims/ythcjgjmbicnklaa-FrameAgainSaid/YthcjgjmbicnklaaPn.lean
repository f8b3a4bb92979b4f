/- Plain facts: a frame that is read is written as it was. -/
import Derived.Test.YthcjgjmbicnklaaPm
namespace Go.Proofs.Ythcjgjmbicnklaa
open Go.RowKit
set_option linter.unusedVariables false
set_option maxRecDepth 100000
set_option maxHeartbeats 4000000

/-- A frame's numbers are such as fit. -/
structure Nums (f : Fra) : Prop where
  few : f.X.length < 2 ^ 47
  code : f.code < 4294967296
  k : (Lit.int .i64 f.k).wf = true
  fl : (Lit.int .i64 f.fl).wf = true
  st : (Lit.int .i64 f.st).wf = true
  pad : (Lit.int .i64 f.pad).wf = true
  last : (Lit.int .i64 f.last).wf = true
  inc : (Lit.int .i64 f.inc).wf = true
  dep : (Lit.int .i64 f.dep).wf = true
  wt : (Lit.int .i64 f.wt).wf = true
theorem FrIn.nums {w : World} {f : Fra} {p q : Option Addr} {cq : Nat} (h : FrIn w f p q cq) : Nums f := ⟨h.few, h.code, h.k, h.fl, h.st, h.pad, h.last, h.inc, h.dep, h.wt⟩
theorem Nums.frIn {w : World} {f : Fra} {p q : Option Addr} {cq : Nat} (h : Nums f) (h1 : SrcAt w p f.X) (h2 : SetsAt w q cq f.Y) : FrIn w f p q cq := ⟨h1, h2, h.few, h.code, h.k, h.fl, h.st, h.pad, h.last, h.inc, h.dep, h.wt⟩
theorem Nums.cp {f g : Fra} (hf : Nums f) (hg : Nums g) (j : Nat) : Nums (cpP f g j) := by
  unfold cpP
  repeat' split
  · exact { hg with last := hf.last }
  · exact { hg with code := hf.code }
  · exact { hg with dep := hf.dep, wt := hf.wt }
  · exact { hg with few := hf.few }
  · exact { hg with few := hg.few }
  · exact { hg with inc := hf.inc }
theorem Nums.fold {f : Fra} (hf : Nums f) : ∀ (js : List Nat) (g : Fra), Nums g → Nums (js.foldl (cpP f) g) := by
  intro js
  induction js with
  | nil => intro g hg; exact hg
  | cons j js ih => intro g hg; exact ih _ (hf.cp hg j)
theorem Nums.nf {f : Fra} (hf : Nums f) : Nums (nf f) := by
  refine hf.fold _ _ ⟨by simp [baseF, zeroF], by simp [baseF, zeroF], hf.k, hf.fl, hf.st, ?_, (by show (Lit.int .i64 0).wf = true; decide), (by show (Lit.int .i64 0).wf = true; decide), (by show (Lit.int .i64 0).wf = true; decide), (by show (Lit.int .i64 0).wf = true; decide)⟩
  unfold baseF
  dsimp only
  split
  · exact hf.pad
  · decide
theorem nf_piece {f : Fra} : ∀ j ∈ partsOf f, pieceO j (nf f) = pieceO j f := by
  have h := parts_is f
  intro j hj
  unfold nf
  generalize partsOf f = L at h hj
  simp only [List.mem_cons, List.not_mem_nil, or_false] at h
  rcases h with rfl | rfl | rfl | rfl | rfl | rfl | rfl | rfl | rfl | rfl
  all_goals simp at hj
  all_goals (try (rcases hj with rfl | rfl | rfl)) <;> (try (rcases hj with rfl | rfl)) <;> (try subst hj) <;> simp [pieceO, cpP, depW, baseF] <;> (try rfl)
theorem nf_pieces {f : Fra} (js : List Nat) (h : ∀ j ∈ js, pieceO j (nf f) = pieceO j f) : piecesO (nf f) js = piecesO f js := by
  induction js with
  | nil => rfl
  | cons j js ih => rw [piecesO, piecesO, h j (by simp), ih (fun k hk => h k (by simp [hk]))]
theorem nf_write {f : Fra} (h : (writeO f).1 = 0) : writeO (nf f) = writeO f := by
  obtain ⟨h1, h2, h3, h4, h5, h6⟩ := writeO_ok h
  obtain ⟨e1, e2, e3, e4⟩ := nf_head f
  have p1 : headOk (nf f) = headOk f := by simp only [headOk, e1, e2, e3]
  have p2 : padd (nf f) = padd f := by simp only [padd, e1, e2]
  have p3 : padOk (nf f) = true := by
    cases hp : padd f
    · simp [padOk, p2, hp, e4]
    · have : 0 ≤ f.pad ∧ f.pad ≤ 255 := by simpa [padOk, hp] using h3
      simp [padOk, p2, hp, e4, this]
  have p4 : partsOf (nf f) = partsOf f := by simp only [partsOf, e1, e2]
  have p5 : allP (nf f) = allP f := by
    have q1 : padsB (nf f) = padsB f := by
      cases hp : padd f <;> simp [padsB, p2, hp, e4]
    have q2 : padsE (nf f) = padsE f := by
      cases hp : padd f <;> simp [padsE, p2, hp, e4]
    rw [allP, allP, p4, nf_pieces _ nf_piece, q1, q2]
  have p6 : ∀ n, headB (nf f) n = headB f n := fun n => by simp only [headB, e1, e2, e3]
  rw [writeO, writeO, p1, e1, e3, p3, p5, h1, h2, h3, h4, p6]
theorem nf_X {f : Fra} (h : f.k = 0 ∨ f.k = 1 ∨ f.k = 9 ∨ f.k = 6 ∨ f.k = 7) : (nf f).X = f.X := by
  unfold nf
  rcases h with h | h | h | h | h
  · have e : partsOf f = [3] := by simp [partsOf, h]
    rw [e]; rfl
  · by_cases hh : has f.fl 32 = true
    · have e : partsOf f = [2, 3] := by simp [partsOf, h, hh]
      rw [e]; rfl
    · have e : partsOf f = [3] := by simp [partsOf, h, hh]
      rw [e]; rfl
  · have e : partsOf f = [3] := by simp [partsOf, h]
    rw [e]; rfl
  · have e : partsOf f = [5] := by simp [partsOf, h]
    rw [e]; rfl
  · have e : partsOf f = [0, 1, 3] := by simp [partsOf, h]
    rw [e]; rfl
theorem nf_code {f : Fra} (h : f.k = 3) : (nf f).code = f.code := by
  have e : partsOf f = [1] := by simp [partsOf, h]
  rw [nf, e]; rfl
theorem nf_inc {f : Fra} (h : f.k = 8) : (nf f).inc = f.inc := by
  have e : partsOf f = [6] := by simp [partsOf, h]
  rw [nf, e]; rfl
theorem nf_Y {f : Fra} (h : f.k = 4) : (nf f).Y = f.Y := by
  have e : partsOf f = [4] := by simp [partsOf, h]
  rw [nf, e]; rfl
end Go.Proofs.Ythcjgjmbicnklaa
