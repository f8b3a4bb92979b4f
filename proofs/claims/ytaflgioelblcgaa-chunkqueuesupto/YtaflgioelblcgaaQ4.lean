/- Contracts of package chunk's Queue: Take. -/
import Derived.Test.YtaflgioelblcgaaQ3
namespace Go.Proofs.Ytaflgioelblcgaa
open Go.RowKit
set_option linter.unusedVariables false

/-- Where Take stands behind its loop: the chunks L', of which the first 'gone' are to go. -/
def Cut (w w5 : World) (b : Nat) (v : Value) (L : List (List UInt8)) (m gone : Nat) : Prop :=
  ∃ (ys : List Value) (L' : List (List UInt8)), w5.heap[b]? = some (.cells #[.int .i64 (total L : Nat), .bool true, v] 58 (0, 0)) ∧ OwnAt w5 31 v ys ∧ v.ownBlock ≠ some b ∧ ys.length = L'.length ∧ L'.length ≤ 4096 ∧
    (∀ (j : Nat) c, L'[j]? = some c → ∃ u, ys[j]? = some u ∧ ChunkAt w5 b v.ownBlock u c) ∧ gone ≤ L'.length ∧ restL L m = L'.drop gone ∧ Fr (fun k => k = b ∨ v.ownBlock = some k) w w5

theorem Cut.forget {w w5 : World} {b : Nat} {v : Value} {L : List (List UInt8)} {m gone : Nat} (h : Cut w w5 b v L m gone) (hm : m ≤ total L) :
    Calls Try.prog 35 #[.pointer (some ⟨b, 0, none⟩), .int .i64 gone] (w5.setCell ⟨b, 0, none⟩ (.int .i64 ((total L : Int) - (m : Int)))) fun e w' => e = .returned (.tuple #[]) ∧
      ∃ v', QueueIs w' b v' (restL L m) ∧ v'.ownBlock = v.ownBlock ∧ Fr (fun k => k = b ∨ v.ownBlock = some k) w w' ∧ Fr (fun k => k = b ∨ v.ownBlock = some k) w5 w' := by
  obtain ⟨ys, L', h1, h2, h3, h4, h5, h6, h7, h8, h9⟩ := h
  have hf : Fr (fun k => k = b) w5 (w5.setCell ⟨b, 0, none⟩ (.int .i64 ((total L : Int) - (m : Int)))) := Fr.setB (Fr.refl _ _) _ _
  have hb6 : (w5.setCell ⟨b, 0, none⟩ (.int .i64 ((total L : Int) - (m : Int)))).heap[b]? = some (.cells #[.int .i64 ((total L : Int) - (m : Int)), .bool true, v] 58 (0, 0)) := setCell_heap _ h1
  refine (forget_any b _ v ys gone _ hb6 (h2.fr hf (fun k hk e => h3 (by rw [hk, e]))) h3 (by omega) (by omega)).mono ?_
  rintro e w' ⟨rfl, v', q1, q2, q3, q4⟩
  have hall : Fr (fun k => k = b ∨ v.ownBlock = some k) w5 w' := (hf.mono (fun _ _ e => .inl e)).trans q4
  refine ⟨rfl, v', ?_, q3, h9.trans hall, hall⟩
  rw [h8]
  have hT : ((total L - m : Nat) : Int) = (total L : Int) - (m : Int) := by omega
  refine queue_of (T := total L - m) (by rw [hT]; exact q1) (by rw [← h8, total_restL L m hm]) q2 (by rw [q3]; exact h3) h4 h5 (fun j c hj => ?_)
  obtain ⟨u, hu, hc⟩ := h6 j c hj
  exact ⟨u, hu, by rw [q3]; exact hc.fr hall⟩

/-- Nothing is left: all chunks go. -/
theorem Cut.all {w w5 : World} {b : Nat} {v : Value} {L : List (List UInt8)} {m : Nat} (hq : QueueIs w b v L) (hf : Fr (fun _ => False) w w5) (hm : total L ≤ m) : Cut w w5 b v L m L.length := by
  obtain ⟨xs, h1, h2, h3, h4, h5, h6⟩ := hq.fr hf
  exact ⟨xs, L, h1, h2, h3, h4, h5, h6, Nat.le_refl _, by rw [restL_all L m hm]; simp, hf.mono (fun _ _ e => e.elim)⟩

/-- One element is stored. -/
theorem own_put {w : World} {e : TypeId} {g off n c : Nat} {xs : List Value} (h : OwnAt w e (.slice (some ⟨g, off, none⟩) n c) xs) (j : Nat) (hj : j < xs.length) (u : Value) :
    OwnAt (w.setCell ⟨g, off + j, none⟩ u) e (.slice (some ⟨g, off, none⟩) n c) (xs.set j u) := by
  rcases h with ⟨h, _⟩ | ⟨g', off', cap, cur, h, hg, h1, h2, h3, h4⟩
  · cases h
  · cases h
    refine .inr ⟨g, off, c, cur.setIfInBounds (off + j) u, by rw [List.length_set], ?_, ?_, by rw [List.length_set]; exact h2, h3, ?_⟩
    · exact setCell_heap _ hg
    · simpa using h1
    · rw [List.length_set, Array.toList_setIfInBounds]
      have e1 : xs.set j u = ((cur.toList.drop off).take xs.length).set j u := by rw [h4]
      rw [e1]
      apply List.ext_getElem?
      intro k
      simp only [List.getElem?_take, List.getElem?_drop, List.getElem?_set, List.length_take, List.length_drop, Array.length_toList]
      by_cases hk : k < xs.length
      · rw [if_pos hk]
        by_cases hkj : j = k
        · subst hkj
          rw [if_pos rfl, if_pos rfl, if_pos (by omega), if_pos (by omega)]
        · rw [if_neg (by omega), if_neg hkj, if_pos hk]
      · rw [if_neg hk]
        by_cases hkj : j = k
        · omega
        · rw [if_neg hkj, if_neg hk]

/-- The chunk at i is cut. -/
theorem Cut.at {w w4 : World} {b : Nat} {g off cap : Nat} {L : List (List UInt8)} {m i r : Nat} {c : List UInt8} {g' o : Nat} {xs : List Value} (hf : Fr (fun _ => False) w w4)
    (hb4 : w4.heap[b]? = some (.cells #[.int .i64 (total L : Nat), .bool true, .slice (some ⟨g, off, none⟩) L.length cap] 58 (0, 0))) (hown : OwnAt w4 31 (.slice (some ⟨g, off, none⟩) L.length cap) xs) (hgb : g ≠ b) (hxl : xs.length = L.length) (hL : L.length ≤ 4096)
    (hch : ∀ (j : Nat) c, L[j]? = some c → ∃ u, xs[j]? = some u ∧ ChunkAt w4 b (some g) u c)
    (hi : L[i]? = some c) (hx : xs[i]? = some (.slice (some ⟨g', o, none⟩) c.length c.length)) (hr : r = m - total (L.take i)) (h1 : total (L.take i) ≤ m) (h2 : r < c.length) :
    Cut w (w4.setCell ⟨g, off + i, none⟩ (.slice (some ⟨g', o + r, none⟩) (c.length - r) (c.length - r))) b (.slice (some ⟨g, off, none⟩) L.length cap) L m i := by
  have hil : i < L.length := (List.getElem?_eq_some_iff.1 hi).1
  have hf5 : Fr (fun k => k = g) w4 (w4.setCell ⟨g, off + i, none⟩ (.slice (some ⟨g', o + r, none⟩) (c.length - r) (c.length - r))) := Fr.setB (Fr.refl _ _) _ _
  refine ⟨xs.set i (.slice (some ⟨g', o + r, none⟩) (c.length - r) (c.length - r)), L.set i (c.drop r), ?_, own_put hown i (by omega) _, ?_, by simp [hxl], by simpa using hL, ?_, by simp; omega, ?_, ?_⟩
  · rw [setCell_other _ (Ne.symm hgb)]; exact hb4
  · intro e; simp [Value.ownBlock] at e; exact hgb e
  · intro j d hj
    have hfr : Fr (fun k => k = b ∨ some g = some k) w4 (w4.setCell ⟨g, off + i, none⟩ (.slice (some ⟨g', o + r, none⟩) (c.length - r) (c.length - r))) := hf5.mono (fun k _ e => .inr (by rw [e]))
    show ∃ u, _ ∧ ChunkAt _ b (some g) u d
    by_cases hji : i = j
    · subst hji
      rw [List.getElem?_set_self (by omega)] at hj
      cases hj
      obtain ⟨u, hu, h0, g2, o2, cur, e1, e2, e3, e4, e5⟩ := hch i c hi
      rw [hx] at hu
      cases hu
      cases e1
      refine ⟨_, List.getElem?_set_self (by omega), by simp; omega, g', o + r, cur, by simp, ?_, ?_, e4, e5⟩
      · rw [hfr.block g' (lt_of_heap e2) (by rintro (e | e); exact e4 e; exact e5 e)]; exact e2
      · have e6 : c.drop r = ((cur.drop o).take c.length).drop r := by rw [e3]
        rw [List.drop_take, List.drop_drop] at e6
        rw [e6]
        simp
    · rw [List.getElem?_set_ne hji] at hj
      obtain ⟨u, hu, hc⟩ := hch j d hj
      exact ⟨u, by rw [List.getElem?_set_ne hji]; exact hu, hc.fr hfr⟩
  · rw [hr]; exact restL_at L i m c hi h1 (by omega)
  · exact (hf.mono (fun _ _ e => e.elim)).trans (hf5.mono (fun k _ e => .inr (by rw [e]; rfl)))

end Go.Proofs.Ytaflgioelblcgaa
