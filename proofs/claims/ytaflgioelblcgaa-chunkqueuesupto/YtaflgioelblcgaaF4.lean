/- Contracts of the document's Queue (aqueductref01): Take. -/
import Derived.Test.YtaflgioelblcgaaF3
namespace Go.Proofs.Ytaflgioelblcgaa
open Go.RowKit
set_option linter.unusedVariables false

theorem cut_own (P : Program) (t e : TypeId) (ht : P.underlying t = some (.slice e)) (hsz : (P.info? e).map (·.size) = some 1) (g off len cap l : Nat) (k : IntKind) (hl : l ≤ len) (hc : len ≤ cap) :
    ∃ off', (∀ w, (Instr.slice t (.slice (some ⟨g, off, none⟩) len cap) (some (.int k (l : Int))) none none).run P w = .ok (.slice (some ⟨g, off', none⟩) (len - l) (cap - l)) w) ∧ (l < cap → off' = off + l) ∧ (l = cap → off' = off) := by
  by_cases hlc : l < cap
  · exact ⟨off + l, cut_from_lt P t e ht hsz g off len cap l k hl hlc, fun _ => rfl, fun e => by omega⟩
  · refine ⟨off, fun w => ?_, fun h => absurd h hlc, fun _ => rfl⟩
    have hb := run_sliceBound (P := P) (w := w) k (l : Int) len .sliceB (by omega) (by omega)
    have hcl : cap = l := by omega
    cases hi : P.info? e with
    | none => simp [hi] at hsz
    | some i => simp [Instr.slice, run_underlying ht, Instr.sliceBounds, hb, sizeOf, typeInfo, hi, hcl]

theorem RQ.cut {w w4 : World} {b g off k : Nat} {cap g' o cap' n : Nat} {c : List UInt8} {r : List (List UInt8)} (h : RQ w w4 b (some g) (.slice (some ⟨g, off, none⟩) n cap) (c :: r)) (hgb : g ≠ b) (hcell : w4.cell? ⟨g, off, none⟩ = some (.slice (some ⟨g', o, none⟩) c.length cap')) (hk : k < c.length) :
    RQ w (w4.setCell ⟨g, off, none⟩ (.slice (some ⟨g', o + k, none⟩) (c.length - k) (cap' - k))) b (some g) (.slice (some ⟨g, off, none⟩) n cap) (c.drop k :: r) := by
  obtain ⟨xs, h1, h2, h3, h4, h5, h6⟩ := h
  obtain ⟨u, hu, hc⟩ := h6 0 c rfl
  have hux : u = .slice (some ⟨g', o, none⟩) c.length cap' := by
    obtain ⟨g2, off2, cap2, hv, hcell2, -⟩ := h2.cells 0 _ hu
    simp only [Value.slice.injEq, Option.some.injEq, Addr.mk.injEq, and_true] at hv
    obtain ⟨⟨rfl, rfl⟩, -⟩ := hv
    rw [Nat.add_zero, hcell] at hcell2
    exact (Option.some.inj hcell2).symm
  subst hux
  refine ⟨xs.set 0 (.slice (some ⟨g', o + k, none⟩) (c.length - k) (cap' - k)), ?_, ?_, rfl, by simpa using h4, by simpa using h5, fun j d hj => ?_⟩
  · rw [setCell_other _ (Ne.symm hgb)]; exact h1
  · exact own_put h2 0 (by rw [h4]; simp) _
  · cases j with
    | zero =>
      simp at hj
      subst hj
      refine ⟨_, List.getElem?_set_self (by rw [h4]; simp), by simp; omega, ?_⟩
      obtain ⟨h0, g2, o2, cap2, e1, e2, e3, e6, e4, e5⟩ := hc
      cases e1
      refine ⟨g', o + k, cap' - k, by simp, by simp; omega, ?_, e6, e4, e5⟩
      intro j x hx
      rw [List.getElem?_drop] at hx
      obtain ⟨ad, ea, hx'⟩ := e3 _ x hx
      cases ea
      refine ⟨_, rfl, ?_⟩
      rw [add_none] at hx' ⊢
      rw [← hx']
      congr 2
      omega
    | succ j =>
      obtain ⟨u, hu', hc'⟩ := h6 (j + 1) d (by simpa using hj)
      exact ⟨u, by rw [List.getElem?_set_ne (by omega)]; exact hu', hc'⟩

theorem RQ.shift {w w4 : World} {b g off off' cap : Nat} {c : List UInt8} {r : List (List UInt8)} (h : RQ w w4 b (some g) (.slice (some ⟨g, off, none⟩) (r.length + 1) cap) (c :: r)) (hgb : g ≠ b) (h1' : 1 < cap → off' = off + 1) (h2' : 1 = cap → off' = off) :
    RQ w (w4.setCell ⟨b, 0, none⟩ (.slice (some ⟨g, off', none⟩) (r.length + 1 - 1) (cap - 1))) b (some g) (.slice (some ⟨g, off', none⟩) (r.length + 1 - 1) (cap - 1)) r := by
  obtain ⟨xs, h1, h2, h3, h4, h5, h6⟩ := h
  have h4' : xs.length = r.length + 1 := by simpa using h4
  refine ⟨xs.drop 1, setCell_heap _ h1, ?_, rfl, by simp [h4'], by simp at h5; omega, fun j d hj => ?_⟩
  · refine OwnAt.fr (S := fun k => k = b) (w := w4) ?_ (Fr.setB (Fr.refl _ _) _ _) (fun k hk e => by simp [Value.ownBlock] at hk; omega)
    rcases h2 with ⟨h, _⟩ | ⟨g2, off2, cap2, cur, hv, hg, q1, q2, q3, q4⟩
    · cases h
    · rw [h4'] at hv
      cases hv
      refine .inr ⟨g, off', cap - 1, cur, by rw [List.length_drop, h4'], hg, ?_, by rw [List.length_drop]; omega, by omega, ?_⟩
      · by_cases hc : 1 < cap
        · rw [h1' hc]; omega
        · rw [h2' (by omega)]; omega
      · rw [List.length_drop]
        by_cases hc : 1 < cap
        · rw [h1' hc]
          have e2 : xs.drop 1 = ((cur.toList.drop off).take xs.length).drop 1 := by rw [q4]
          rw [e2, List.drop_take, List.drop_drop]
        · have hz : xs.length - 1 = 0 := by omega
          rw [hz, List.take_zero, List.drop_of_length_le (by omega)]
  · obtain ⟨u, hu, hc⟩ := h6 (j + 1) d (by simpa using hj)
    exact ⟨u, by rw [List.getElem?_drop, Nat.add_comm]; exact hu, hc⟩

/-- Where Take stands: nn bytes are still to be taken. -/
structure RSt (w wr : World) (b : Nat) (own : Option Nat) (L : List (List UInt8)) (N nn : Nat) (ao : Option Addr) (no co : Nat) (v' : Value) (L' : List (List UInt8)) (out : List UInt8) : Prop where
  q : RQ w wr b own v' L'
  f : Fr (fun k => k = b ∨ own = some k) w wr
  o : OwnAt wr 5 (.slice ao no co) (bv out)
  d : ∀ k, (Value.slice ao no co).ownBlock = some k → w.heap.size ≤ k
  e : out ++ L'.flatten.take nn = L.flatten.take N
  r : restL L' nn = restL L N
  t : out.length + total L' ≤ total L

theorem RSt.step {w wr w4 : World} {b : Nat} {own : Option Nat} {L : List (List UInt8)} {N nn : Nat} {ao a4 : Option Addr} {no co n4 c4 : Nat} {v' : Value} {L' : List (List UInt8)} {out X : List UInt8} (h : RSt w wr b own L N nn ao no co v' L' out) (hbs : b < w.heap.size) (hos : ∀ k, own = some k → k < w.heap.size)
    (hf : Fr (fun k => (Value.slice ao no co).ownBlock = some k) wr w4) (O4 : OwnAt w4 5 (.slice a4 n4 c4) (bv (out ++ X))) (hk : (Value.slice a4 n4 c4).ownBlock = (Value.slice ao no co).ownBlock ∨ ∃ k, (Value.slice a4 n4 c4).ownBlock = some k ∧ wr.heap.size ≤ k) :
    RQ w w4 b own v' L' ∧ Fr (fun k => k = b ∨ own = some k) w w4 ∧ (∀ k, (Value.slice a4 n4 c4).ownBlock = some k → w.heap.size ≤ k) := by
  refine ⟨h.q.fr hf (fun e => by have := h.d b e; omega) (fun k e e' => by have := h.d k e'; have := hos k e; omega), ?_, fun k e => ?_⟩
  · have h1 : Fr (fun k => (k = b ∨ own = some k) ∨ w.heap.size ≤ k) w w4 := (h.f.mono (fun _ _ e => .inl e)).trans (hf.mono (fun k _ e => .inr (h.d k e)))
    exact h1.mono (fun k hk e => e.elim id (fun e => by omega))
  · rcases hk with h' | ⟨k', h', hk'⟩
    · exact h.d k (by rw [← h']; exact e)
    · rw [h'] at e; cases e; have := h.f.size; omega

end Go.Proofs.Ytaflgioelblcgaa
