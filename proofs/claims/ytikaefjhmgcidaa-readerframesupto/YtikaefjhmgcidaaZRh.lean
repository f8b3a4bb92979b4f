/- Contract of the document's body, of every frame that may be written. -/
import Derived.Test.YtikaefjhmgcidaaZRf2
import Derived.Test.YtikaefjhmgcidaaZRf3
import Derived.Test.YtikaefjhmgcidaaZRg
namespace Go.Proofs.Ytikaefjhmgcidaa
open Go.RowKit
set_option linter.unusedVariables false
set_option maxRecDepth 100000
set_option maxHeartbeats 4000000

theorem byteOf {n : Int} (h0 : 0 ≤ n) (h1 : n ≤ 255) : ∃ u : UInt8, n = (u.toNat : Int) ∧ UInt8.ofNat n.toNat = u :=
  ⟨UInt8.ofNat n.toNat, by simp; omega, rfl⟩
theorem natOf {n : Int} (h : idOk n = true) : ∃ m : Nat, n = (m : Int) ∧ m < 2147483648 := by
  simp [idOk] at h
  exact ⟨n.toNat, by omega, by omega⟩

theorem body_in (f : Fra) (p q : Option Addr) (cp cq : Nat) (w : World) (hin : FrIn w f p q cq) (hk : knownB f.k = true) (hm : mayB f = true) :
    Calls Try.prog 27 #[.agg #[.int .i64 f.k, .int .i64 f.fl, .int .i64 f.st, .slice p f.X.length cp, .int .i64 f.pad, .int .u32 f.code, .int .i64 f.last, .int .i64 f.inc, .int .i64 f.dep, .bool f.only, .int .i64 f.wt, .slice q f.Y.length cq]] w fun e w' => BodyAs w (allP f).2.flatten e w' := by
  have hfl := allP_flat hm hk
  have hXl : f.X.length < 140737488355328 := hin.few
  simp only [mayB, Bool.and_eq_true, decide_eq_true_eq] at hm
  obtain ⟨⟨⟨⟨⟨⟨h0, h1⟩, hst⟩, hr⟩, hP⟩, hQ⟩, hL⟩ := hm
  simp only [mayP, Bool.or_eq_true, Bool.not_eq_true', Bool.and_eq_true, decide_eq_true_eq] at hP
  simp only [mayQ, Bool.or_eq_true, Bool.not_eq_true', Bool.and_eq_true, decide_eq_true_eq] at hQ
  have hprio : prioB f.k f.fl = true → ∃ (d : Nat) (v : UInt8), f.dep = (d : Int) ∧ f.wt = (v.toNat : Int) + 1 ∧ d < 2147483648 ∧ d + (if f.only then 2147483648 else 0) = depW f ∧ pieceO 2 f = (0, be 4 (depW f) ++ [v]) := fun hq => by
    rw [hq] at hQ
    simp at hQ
    obtain ⟨d, hd, hdb⟩ := natOf hQ.1
    obtain ⟨v, hv, hv2⟩ := byteOf (n := f.wt - 1) (by omega) (by omega)
    refine ⟨d, v, hd, by omega, hdb, by simp [depW, hd], ?_⟩
    have h3 : decide (1 ≤ f.wt ∧ f.wt ≤ 256) = true := by simp; omega
    simp only [pieceO, hQ.1, h3, hv2]
    rfl
  have hpadB : canP f.k = true → has f.fl 8 = true → ∃ u : UInt8, f.pad = (u.toNat : Int) ∧ padsB f = [[u]] ∧ padsE f = [List.replicate u.toNat 0] := fun hc h8 => by
    rw [hc] at hP
    simp at hP
    obtain ⟨u, hu, hu2⟩ := byteOf hP.1.1 hP.1.2
    refine ⟨u, hu, ?_, ?_⟩
    · simp [padsB, padd, hc, h8, hu2]
    · simp [padsE, padd, hc, h8, hu]
  have hpad0 : (canP f.k = false ∨ has f.fl 8 = false) → padsB f = [] ∧ padsE f = [] := fun h => by
    rcases h with h | h <;> simp [padsB, padsE, padd, h]
  have p3 : pieceO 3 f = (0, f.X) := rfl
  have p1 : pieceO 1 f = (0, be 4 f.code) := rfl
  rw [hfl]
  rcases kinds f.k with h | h | h | h | h | h | h | h | h | h | h
  · have hpt : partsOf f = [3] := by simp [partsOf, h]
    rw [h] at hpadB hpad0 ⊢
    cases h8 : has f.fl 8
    · obtain ⟨e1, e2⟩ := hpad0 (.inr h8)
      rw [show (padsB f ++ (piecesO f (partsOf f)).2 ++ padsE f).flatten = ([]) ++ (f.X) by simp [e1, e2, hpt, piecesO, p3]]
      exact body_0n f.fl f.st f.X f.pad f.code f.last f.inc f.dep f.wt f.only f.Y p q cp cq w h0 h1 hin.src hXl h8
    · obtain ⟨u, hu, e1, e2⟩ := hpadB (by decide) h8
      rw [show (padsB f ++ (piecesO f (partsOf f)).2 ++ padsE f).flatten = ((([]) ++ ([u])) ++ (f.X)) ++ List.replicate u.toNat 0 by simp [e1, e2, hpt, piecesO, p3], hu]
      exact body_0p f.fl f.st f.X u f.code f.last f.inc f.dep f.wt f.only f.Y p q cp cq w h0 h1 hin.src hXl h8
  · rw [h] at hpadB hpad0 hprio ⊢
    cases hq : has f.fl 32
    · have hpt : partsOf f = [3] := by simp [partsOf, h, hq]
      cases h8 : has f.fl 8
      · obtain ⟨e1, e2⟩ := hpad0 (.inr h8)
        rw [show (padsB f ++ (piecesO f (partsOf f)).2 ++ padsE f).flatten = ([]) ++ (f.X) by simp [e1, e2, hpt, piecesO, p3]]
        exact body_1n f.fl f.st f.X f.pad f.code f.last f.inc f.dep f.wt f.only f.Y p q cp cq w h0 h1 hin.src hXl h8 hq
      · obtain ⟨u, hu, e1, e2⟩ := hpadB (by decide) h8
        rw [show (padsB f ++ (piecesO f (partsOf f)).2 ++ padsE f).flatten = ((([]) ++ ([u])) ++ (f.X)) ++ List.replicate u.toNat 0 by simp [e1, e2, hpt, piecesO, p3], hu]
        exact body_1p f.fl f.st f.X u f.code f.last f.inc f.dep f.wt f.only f.Y p q cp cq w h0 h1 hin.src hXl h8 hq
    · have hpt : partsOf f = [2, 3] := by simp [partsOf, h, hq]
      obtain ⟨d, v, hd, hv, hdb, hdm, p2⟩ := hprio (by simp [prioB, hq])
      cases h8 : has f.fl 8
      · obtain ⟨e1, e2⟩ := hpad0 (.inr h8)
        rw [show (padsB f ++ (piecesO f (partsOf f)).2 ++ padsE f).flatten = (([]) ++ (be 4 (depW f) ++ [v])) ++ (f.X) by simp [e1, e2, hpt, piecesO, p3, p2], hd, hv]
        exact body_1qn f.fl f.st f.X f.pad f.code f.last f.inc d v f.only f.Y p q cp cq w h0 h1 hin.src hXl h8 hq (depW f) hdb hdm
      · obtain ⟨u, hu, e1, e2⟩ := hpadB (by decide) h8
        rw [show (padsB f ++ (piecesO f (partsOf f)).2 ++ padsE f).flatten = (((([]) ++ ([u])) ++ (be 4 (depW f) ++ [v])) ++ (f.X)) ++ List.replicate u.toNat 0 by simp [e1, e2, hpt, piecesO, p3, p2], hu, hd, hv]
        exact body_1qp f.fl f.st f.X u f.code f.last f.inc d v f.only f.Y p q cp cq w h0 h1 hin.src hXl h8 hq (depW f) hdb hdm
  · have hpt : partsOf f = [2] := by simp [partsOf, h]
    rw [h] at hpad0 hprio ⊢
    obtain ⟨e1, e2⟩ := hpad0 (.inl (by decide))
    obtain ⟨d, v, hd, hv, hdb, hdm, p2⟩ := hprio (by simp [prioB])
    rw [show (padsB f ++ (piecesO f (partsOf f)).2 ++ padsE f).flatten = ([]) ++ (be 4 (depW f) ++ [v]) by simp [e1, e2, hpt, piecesO, p2], hd, hv]
    exact body_2 f.fl f.st f.X f.pad f.code f.last f.inc d v f.only f.Y p q cp cq w h0 h1 hin.src hXl (depW f) hdb hdm
  · have hpt : partsOf f = [1] := by simp [partsOf, h]
    rw [h] at hpad0 ⊢
    obtain ⟨e1, e2⟩ := hpad0 (.inl (by decide))
    rw [show (padsB f ++ (piecesO f (partsOf f)).2 ++ padsE f).flatten = be 4 f.code by simp [e1, e2, hpt, piecesO, p1]]
    exact body_3 f.fl f.st f.X f.pad f.code f.last f.inc f.dep f.wt f.only f.Y p q cp cq w h0 h1 hin.src hXl hin.code
  · have hpt : partsOf f = [4] := by simp [partsOf, h]
    simp [mayL, h] at hL
    have hall : f.Y.all setOk = true := by rw [List.all_eq_true]; exact fun s hs => hL.1 s.1 s.2 hs
    have p4 : pieceO 4 f = (0, setsB f.Y) := by
      have e1 : (decide (0 < f.Y.length) && has f.fl 1) = false := by
        rcases hL.2 with h | h
        · simp [h]
        · simp [h]
      simp only [pieceO, e1, hall]
      rfl
    rw [h] at hpad0 ⊢
    obtain ⟨e1, e2⟩ := hpad0 (.inl (by decide))
    rw [show (padsB f ++ (piecesO f (partsOf f)).2 ++ padsE f).flatten = setsB f.Y by simp [e1, e2, hpt, piecesO, p4]]
    exact body_4 f.fl f.st f.X f.pad f.code f.last f.inc f.dep f.wt f.only f.Y p q cp cq f.Y.length w h0 h1 hin.sets hall rfl
  · have hpt : partsOf f = [0, 3] := by simp [partsOf, h]
    have hl : idOk f.last = true := by simpa [mayL, h] using hL
    obtain ⟨lm, hlm, hlb⟩ := natOf hl
    have p0 : pieceO 0 f = (0, be 4 lm) := by simp [pieceO, hl]; simp [hlm]
    rw [h] at hpadB hpad0 ⊢
    cases h8 : has f.fl 8
    · obtain ⟨e1, e2⟩ := hpad0 (.inr h8)
      rw [show (padsB f ++ (piecesO f (partsOf f)).2 ++ padsE f).flatten = (([]) ++ (be 4 lm)) ++ (f.X) by simp [e1, e2, hpt, piecesO, p3, p0], hlm]
      exact body_5n f.fl f.st f.X f.pad f.code lm f.inc f.dep f.wt f.only f.Y p q cp cq w h0 h1 hin.src hXl h8 hlb
    · obtain ⟨u, hu, e1, e2⟩ := hpadB (by decide) h8
      rw [show (padsB f ++ (piecesO f (partsOf f)).2 ++ padsE f).flatten = (((([]) ++ ([u])) ++ (be 4 lm)) ++ (f.X)) ++ List.replicate u.toNat 0 by simp [e1, e2, hpt, piecesO, p3, p0], hu, hlm]
      exact body_5p f.fl f.st f.X u f.code lm f.inc f.dep f.wt f.only f.Y p q cp cq w h0 h1 hin.src hXl h8 hlb
  · have hpt : partsOf f = [5] := by simp [partsOf, h]
    have h5 : f.X.length = 8 := by simpa [mayL, h] using hL
    have p5 : pieceO 5 f = (0, f.X) := by simp [pieceO, h5]
    rw [h] at hpad0 ⊢
    obtain ⟨e1, e2⟩ := hpad0 (.inl (by decide))
    rw [show (padsB f ++ (piecesO f (partsOf f)).2 ++ padsE f).flatten = ([]) ++ (f.X) by simp [e1, e2, hpt, piecesO, p5]]
    exact body_6 f.fl f.st f.X f.pad f.code f.last f.inc f.dep f.wt f.only f.Y p q cp cq w h0 h1 hin.src hXl
  · have hpt : partsOf f = [0, 1, 3] := by simp [partsOf, h]
    have hl : idOk f.last = true := by simpa [mayL, h] using hL
    obtain ⟨lm, hlm, hlb⟩ := natOf hl
    have p0 : pieceO 0 f = (0, be 4 lm) := by simp [pieceO, hl]; simp [hlm]
    rw [h] at hpad0 ⊢
    obtain ⟨e1, e2⟩ := hpad0 (.inl (by decide))
    rw [show (padsB f ++ (piecesO f (partsOf f)).2 ++ padsE f).flatten = ((([]) ++ (be 4 lm)) ++ (be 4 f.code)) ++ (f.X) by simp [e1, e2, hpt, piecesO, p3, p0, p1], hlm]
    exact body_7 f.fl f.st f.X f.pad f.code lm f.inc f.dep f.wt f.only f.Y p q cp cq w h0 h1 hin.src hXl hin.code hlb
  · have hpt : partsOf f = [6] := by simp [partsOf, h]
    have hl : 1 ≤ f.inc ∧ f.inc ≤ 2147483647 := by simpa [mayL, h] using hL
    obtain ⟨im, him⟩ : ∃ im : Nat, f.inc = im := ⟨f.inc.toNat, by omega⟩
    have p6 : pieceO 6 f = (0, be 4 im) := by
      have h3 : decide (1 ≤ f.inc ∧ f.inc ≤ 2147483647) = true := by simp [hl]
      simp only [pieceO, h3]
      simp [him]
    rw [h] at hpad0 ⊢
    obtain ⟨e1, e2⟩ := hpad0 (.inl (by decide))
    rw [show (padsB f ++ (piecesO f (partsOf f)).2 ++ padsE f).flatten = be 4 im by simp [e1, e2, hpt, piecesO, p6], him]
    exact body_8 f.fl f.st f.X f.pad f.code f.last im f.dep f.wt f.only f.Y p q cp cq w h0 h1 hin.src hXl (by omega)
  · have hpt : partsOf f = [3] := by simp [partsOf, h]
    rw [h] at hpad0 ⊢
    obtain ⟨e1, e2⟩ := hpad0 (.inl (by decide))
    rw [show (padsB f ++ (piecesO f (partsOf f)).2 ++ padsE f).flatten = ([]) ++ (f.X) by simp [e1, e2, hpt, piecesO, p3]]
    exact body_9 f.fl f.st f.X f.pad f.code f.last f.inc f.dep f.wt f.only f.Y p q cp cq w h0 h1 hin.src hXl
  · simp [knownB] at hk
    omega
end Go.Proofs.Ytikaefjhmgcidaa
