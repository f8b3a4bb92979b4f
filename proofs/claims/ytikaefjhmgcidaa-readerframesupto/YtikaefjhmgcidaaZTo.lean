/- Frames one behind the other, unknown ones between them. -/
import Derived.Test.YtikaefjhmgcidaaZMPn
import Derived.Test.YtikaefjhmgcidaaZTm
import Derived.Test.YtikaefjhmgcidaaZMPl
namespace Go.Proofs.Ytikaefjhmgcidaa
open Go.RowKit
set_option linter.unusedVariables false
set_option maxRecDepth 100000
set_option maxHeartbeats 4000000

/-- Two frames that are written the same. -/
theorem nsame2_in (f f2 : Fra) (p q p' q' : Option Addr) (cp cq cp' cq' : Nat) (w : World) (hn : Nums f) (hn2 : Nums f2) (h1 : SrcAt w p f.X) (h2 : SrcAt w p' f2.X) (h3 : SetsAt w q cq f.Y) (h4 : SetsAt w q' cq' f2.Y) (hw : writeO f2 = writeO f) (hk : f2.k = f.k) :
    Calls Try.prog 14 #[.agg #[.int .i64 f.k, .int .i64 f.fl, .int .i64 f.st, .slice p f.X.length cp, .int .i64 f.pad, .int .u32 f.code, .int .i64 f.last, .int .i64 f.inc, .int .i64 f.dep, .bool f.only, .int .i64 f.wt, .slice q f.Y.length cq], .agg #[.int .i64 f2.k, .int .i64 f2.fl, .int .i64 f2.st, .slice p' f2.X.length cp', .int .i64 f2.pad, .int .u32 f2.code, .int .i64 f2.last, .int .i64 f2.inc, .int .i64 f2.dep, .bool f2.only, .int .i64 f2.wt, .slice q' f2.Y.length cq']] w fun e w' => e = .returned (.bool true) ∧ Fr (fun _ => False) w w' := by
  obtain ⟨W, hW⟩ : ∃ W, W = (w.alloc (.cells #[.int .i64 f.k, .int .i64 f.fl, .int .i64 f.st, .slice p f.X.length cp, .int .i64 f.pad, .int .u32 f.code, .int .i64 f.last, .int .i64 f.inc, .int .i64 f.dep, .bool f.only, .int .i64 f.wt, .slice q f.Y.length cq] 36)).alloc (.cells #[.int .i64 f2.k, .int .i64 f2.fl, .int .i64 f2.st, .slice p' f2.X.length cp', .int .i64 f2.pad, .int .u32 f2.code, .int .i64 f2.last, .int .i64 f2.inc, .int .i64 f2.dep, .bool f2.only, .int .i64 f2.wt, .slice q' f2.Y.length cq'] 36) := ⟨_, rfl⟩
  have HFW : Hid (Fr (fun _ => False) w W) := by rw [hW]; exact ((Fr.refl _ _).alloc _).alloc _
  have A1 : Hid (FAt W w.heap.size f p cp q cq) := by rw [hW]; exact past_at _ (heap_alloc_new w _)
  have A2 : Hid (FAt W (w.heap.size + 1) f2 p' cp' q' cq') := by rw [hW]; exact last_at _ (by simp)
  have K1 : Hid (∀ w', Fr (fun _ => False) W w' → Calls Try.prog 20 #[.agg #[.int .i64 f.k, .int .i64 f.fl, .int .i64 f.st, .slice p f.X.length cp, .int .i64 f.pad, .int .u32 f.code, .int .i64 f.last, .int .i64 f.inc, .int .i64 f.dep, .bool f.only, .int .i64 f.wt, .slice q f.Y.length cq]] w' fun e w2 => WroteAs w' (writeO f) e w2) := fun w' hf => rWrite_in f p q cp cq w' (hn.frIn (h1.oldF (HFW.out.trans hf)) (h3.later (HFW.out.trans hf)))
  have K2 : Hid (∀ w', Fr (fun _ => False) W w' → Calls Try.prog 20 #[.agg #[.int .i64 f2.k, .int .i64 f2.fl, .int .i64 f2.st, .slice p' f2.X.length cp', .int .i64 f2.pad, .int .u32 f2.code, .int .i64 f2.last, .int .i64 f2.inc, .int .i64 f2.dep, .bool f2.only, .int .i64 f2.wt, .slice q' f2.Y.length cq']] w' fun e w2 => WroteAs w' (writeO f) e w2) := fun w' hf => hw ▸ rWrite_in f2 p' q' cp' cq' w' (hn2.frIn (h2.oldF (HFW.out.trans hf)) (h4.later (HFW.out.trans hf)))
  obtain ⟨er, B, hout⟩ : ∃ er B, writeO f = (er, B) := ⟨_, _, rfl⟩
  rw [hout] at K1 K2
  have HKE : Hid (f2.k = f.k) := hk
  clear h1 h2 h3 h4 hn hn2 hw hout hk
  go_enter Try.func14, Try.ntmps14
  go_upto_region 1 with (fail)
  rw [← hW]
  clear hW
  obtain ⟨c0, c1, c2, c3, c4, c5, c6, c7, c8, c9, c10, c11⟩ := fcells A1.out
  go_wp2_with (fail)
  refine (K1.out _ (Fr.refl _ _)).mono ?_
  rintro e w1 ⟨a1, n1, d1, rfl, hn1, g1⟩
  have G1 : Hid (Gath W w1 (.slice a1 n1 d1) B) := g1
  clear g1 hn1 c0 c1 c2 c3 c4 c5 c6 c7 c8 c9 c10 c11
  obtain ⟨c0, c1, c2, c3, c4, c5, c6, c7, c8, c9, c10, c11⟩ := fcells (A2.out.later G1.out.2.2)
  go_wp2_with (fail)
  refine (K2.out _ G1.out.2.2).mono ?_
  rintro e w2 ⟨a2, n2, d2, rfl, hn2, g2⟩
  have G2 : Hid (Gath w1 w2 (.slice a2 n2 d2) B) := g2
  clear g2 hn2 c0 c1 c2 c3 c4 c5 c6 c7 c8 c9 c10 c11
  have c0 := (fcells (A1.out.later (G1.out.2.2.trans G2.out.2.2))).1
  have e0 := (fcells (A2.out.later (G1.out.2.2.trans G2.out.2.2))).1
  rw [HKE.out] at e0
  have s1 := (G1.out.fr G2.out.2.2).str
  have s2 := G2.out.str
  go_wp2_with (fail)
  go_ret
  exact ⟨rfl, HFW.out.trans (G1.out.2.2.trans G2.out.2.2)⟩

/-- A frame that may be written and is not too long. -/
def SegOk (f : Fra) : Prop := Fits f ∧ (writeO f).1 = 0 ∧ (writeO f).2.length ≤ 16384
def segB (unk : List UInt8) (s : Fra × Bool) : List UInt8 := (writeO s.1).2 ++ (if s.2 then unk else [])
def flatS (unk : List UInt8) (l : List (Fra × Bool)) : List UInt8 := (l.map (segB unk)).flatten
theorem flatS_snoc (unk : List UInt8) (l : List (Fra × Bool)) (s : Fra × Bool) : flatS unk (l ++ [s]) = flatS unk l ++ segB unk s := by simp [flatS]
theorem flatS_len {unk : List UInt8} (hu : unk.length ≤ 9) : ∀ {l : List (Fra × Bool)}, (∀ s ∈ l, SegOk s.1) → (flatS unk l).length ≤ l.length * 16393 := by
  intro l
  induction l with
  | nil => intro _; simp [flatS]
  | cons s l ih =>
    intro h
    have h1 := (h s (by simp)).2.2
    have h2 := ih (fun x hx => h x (by simp [hx]))
    have h3 : (segB unk s).length ≤ 16393 := by
      unfold segB
      rw [List.length_append]
      split
      · omega
      · simp; omega
    have e : flatS unk (s :: l) = segB unk s ++ flatS unk l := by simp [flatS]
    rw [e, List.length_append, List.length_cons]
    omega
theorem next_seg {unk : List UInt8} {f : Fra} {b : Bool} {l : List (Fra × Bool)} (h : SegOk f) : nextR 16384 (flatS unk ((f, b) :: l)) ⟨false, 0, 0⟩ = ((nf f, true, ⟨false, 0, 0⟩), (if b then unk else []) ++ flatS unk l, ⟨false, 0, 0⟩) := by
  have e : flatS unk ((f, b) :: l) = (writeO f).2 ++ ((if b then unk else []) ++ flatS unk l) := by simp [flatS, segB]
  rw [e]
  obtain ⟨h1, h2, h3, h4, h5, h6⟩ := writeO_ok h.2.1
  have hl := h.2.2
  rw [h6, List.length_append, headB_len] at hl
  exact next_frame h.1 h.2.1 _ 16384 (by omega) _ rfl
theorem next_pass {k fl : UInt8} (hk : 10 ≤ k.toNat) (b : Bool) (Z : List UInt8) : nextR 16384 ((if b then [0, 0, 0, k, fl, 0, 0, 0, 1] else []) ++ Z) ⟨false, 0, 0⟩ = nextR 16384 Z ⟨false, 0, 0⟩ := by
  cases b
  · simp
  · simp only [if_true]
    exact next_unknown k fl hk Z 16384 (by omega) _ rfl
/-- Where the building stands: the bytes, the frames that are wanted. -/
structure BldS (w : World) (unk : List UInt8) (vb vw : Value) (segs : List (Fra × Bool)) (ws : List FM) (wr : World) : Prop where
  ob : OwnAt wr 5 vb (bv (flatS unk segs))
  fl : wr.ownsRow 0 36 12 vw ws.length (frows ws)
  nb : ∀ k, vb.ownBlock = some k → w.heap.size ≤ k
  nw : ∀ k, vw.ownBlock = some k → w.heap.size ≤ k
  fr : Fr (fun _ => False) w wr
  mp : ws.map Prod.fst = segs.map Prod.fst
  ok : ∀ s ∈ segs, SegOk s.1
  zi : ∀ z ∈ ws, FrIn w z.1 z.2.1 z.2.2.2.1 z.2.2.2.2
theorem BldS.apart {w : World} {unk : List UInt8} {vb vw : Value} {segs : List (Fra × Bool)} {ws : List FM} {wr : World} (h : BldS w unk vb vw segs ws wr) : ∀ k, vb.ownBlock = some k → vw.ownBlock ≠ some k := by
  intro k hk e
  obtain ⟨-, cur, hc⟩ := row_lt h.fl k e
  rcases h.ob with ⟨rfl, -⟩ | ⟨g', off, cap, cur', rfl, hg, -⟩
  · simp [Value.ownBlock] at hk
  · simp [Value.ownBlock] at hk
    subst hk
    rw [hc] at hg
    simp at hg
theorem BldS.later {w : World} {unk : List UInt8} {vb vw : Value} {segs : List (Fra × Bool)} {ws : List FM} {wr w2 : World} (h : BldS w unk vb vw segs ws wr) (hf : Fr (fun _ => False) wr w2) : BldS w unk vb vw segs ws w2 :=
  { h with ob := h.ob.fr hf (fun _ _ => id), fl := row_fr h.fl hf (fun _ _ => id), fr := h.fr.trans hf }
theorem fr_new {w wr w2 : World} {v : Value} (h : Fr (fun _ => False) w wr) (hf : Fr (fun k => v.ownBlock = some k) wr w2) (hn : ∀ k, v.ownBlock = some k → w.heap.size ≤ k) : Fr (fun _ => False) w w2 :=
  ((h.mono (T := fun k => w.heap.size ≤ k) (fun _ _ e => e.elim)).trans (hf.mono (fun k _ e => hn k e))).mono (fun k hk e => by omega)
theorem new_own {w wr : World} {v v' : Value} (hz : w.heap.size ≤ wr.heap.size) (hn : ∀ k, v.ownBlock = some k → w.heap.size ≤ k) (ho : v'.ownBlock = v.ownBlock ∨ ∃ k, v'.ownBlock = some k ∧ wr.heap.size ≤ k) : ∀ k, v'.ownBlock = some k → w.heap.size ≤ k := by
  intro k hk
  rcases ho with e | ⟨j, hj, hj2⟩
  · exact hn k (e ▸ hk)
  · rw [hj] at hk; cases hk; omega
end Go.Proofs.Ytikaefjhmgcidaa
