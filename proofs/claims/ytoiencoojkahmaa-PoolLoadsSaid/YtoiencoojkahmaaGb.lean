/- A wheel in memory: its block, its slots, its map. -/
import Derived.Test.YtoiencoojkahmaaGa
import Derived.Test.YtoiencoojkahmaaA1
import Derived.Test.YtoiencoojkahmaaIv
namespace Go.Proofs.Ytoiencoojkahmaa
open Go.RowKit Go.Maps
set_option linter.unusedVariables false
set_option maxRecDepth 100000
set_option maxHeartbeats 4000000

def nilS : Value := .slice none 0 0
def wcells (sl : List Value) (mb : Nat) (n : Int) : Array Value := (sl ++ [Value.map (some mb), Value.int .i64 n]).toArray
/-- A wheel's block. -/
structure WC (w : World) (g : Nat) (sl : List Value) (mb : Nat) (n : Int) : Prop where
  blk : w.heap[g]? = some (.cells (wcells sl mb n) 88 (0, 0))
  len : sl.length = 64
theorem WC.lt {w : World} {g : Nat} {sl : List Value} {mb : Nat} {n : Int} (h : WC w g sl mb n) : g < w.heap.size := lt_of_heap h.blk
theorem WC.fr {S : Nat → Prop} {w w' : World} {g : Nat} {sl : List Value} {mb : Nat} {n : Int} (h : WC w g sl mb n) (f : Fr S w w') (hs : ¬ S g) : WC w' g sl mb n := ⟨(f.block g h.lt hs).trans h.blk, h.len⟩
theorem WC.slot {w : World} {g : Nat} {sl : List Value} {mb : Nat} {n : Int} (h : WC w g sl mb n) (j : Nat) (hj : j < 64) : w.cell? ⟨g, j, none⟩ = some (sl.getD j nilS) := by
  refine cell_of_heap h.blk ?_
  have := h.len
  unfold wcells
  rw [List.getElem?_toArray, List.getElem?_append_left (by omega), List.getElem?_eq_getElem (by omega), List.getD_eq_getElem?_getD, List.getElem?_eq_getElem (by omega)]
  rfl
theorem WC.map {w : World} {g : Nat} {sl : List Value} {mb : Nat} {n : Int} (h : WC w g sl mb n) : w.cell? ⟨g, 64, none⟩ = some (.map (some mb)) := by
  refine cell_of_heap h.blk ?_
  have := h.len
  unfold wcells
  rw [List.getElem?_toArray, List.getElem?_append_right (by omega), this]
  rfl
theorem WC.now {w : World} {g : Nat} {sl : List Value} {mb : Nat} {n : Int} (h : WC w g sl mb n) : w.cell? ⟨g, 65, none⟩ = some (.int .i64 n) := by
  refine cell_of_heap h.blk ?_
  have := h.len
  unfold wcells
  rw [List.getElem?_toArray, List.getElem?_append_right (by omega), this]
  rfl
theorem WC.frozen {w : World} {g : Nat} {sl : List Value} {mb : Nat} {n : Int} (h : WC w g sl mb n) (j : Nat) : w.frozen? ⟨g, j, none⟩ = false := frozen_of_heap h.blk
theorem block_set {w : World} {g j : Nat} {cs : Array Value} {t : TypeId} {v : Value} (h : w.heap[g]? = some (.cells cs t (0, 0))) : (w.setCell ⟨g, j, none⟩ v).heap[g]? = some (.cells (cs.setIfInBounds j v) t (0, 0)) := by
  have hl := lt_of_heap h
  simp [World.setCell]
  rw [Array.getElem?_eq_getElem hl] at h
  simp at h
  simp [Array.modify, Array.modifyM, hl, h]
theorem WC.set_slot {w : World} {g : Nat} {sl : List Value} {mb : Nat} {n : Int} (h : WC w g sl mb n) (j : Nat) (hj : j < 64) (v : Value) : WC (w.setCell ⟨g, j, none⟩ v) g (sl.set j v) mb n := by
  have := h.len
  refine ⟨?_, by rw [List.length_set]; exact h.len⟩
  rw [block_set h.blk]
  unfold wcells
  rw [List.setIfInBounds_toArray, List.set_append_left _ _ (by omega)]
theorem WC.set_now {w : World} {g : Nat} {sl : List Value} {mb : Nat} {n : Int} (h : WC w g sl mb n) (v : Int) : WC (w.setCell ⟨g, 65, none⟩ (.int .i64 v)) g sl mb v := by
  have := h.len
  refine ⟨?_, h.len⟩
  rw [block_set h.blk]
  unfold wcells
  rw [List.setIfInBounds_toArray, List.set_append_right _ _ (by omega), this]
  rfl
/-- The blocks that a wheel lies in. -/
def WX (g mb : Nat) (sl : List Value) (k : Nat) : Prop := k = g ∨ k = mb ∨ ∃ r, r < 64 ∧ (sl.getD r nilS).ownBlock = some k
/-- A wheel's parts. -/
structure WP (base : Nat) (w : World) (g mb : Nat) (sl : List Value) (n : Int) (m : Nat) (M : Int → Option Value) (S : Nat → List Int) : Prop where
  c : WC w g sl mb n
  s : ∀ r, r < 64 → OwnAt w 3 (sl.getD r nilS) (iv (S r))
  m : MapAt w mb m M
  a : ∀ r t, r < 64 → t < 64 → r ≠ t → ∀ k, (sl.getD r nilS).ownBlock = some k → (sl.getD t nilS).ownBlock ≠ some k
  bg : base ≤ g
  bm : base ≤ mb
  bs : ∀ r, r < 64 → ∀ k, (sl.getD r nilS).ownBlock = some k → base ≤ k
section
variable {base : Nat} {w w' : World} {g mb : Nat} {sl : List Value} {n : Int} {m : Nat} {M : Int → Option Value} {S : Nat → List Int}
theorem WP.slot_ne (h : WP base w g mb sl n m M S) (r : Nat) (hr : r < 64) (k : Nat) (hk : (sl.getD r nilS).ownBlock = some k) : k ≠ g ∧ k ≠ mb := by
  obtain ⟨cur, hc⟩ := own_tagI (h.s r hr) k hk
  exact ⟨tag_neI hc h.c.blk (by decide), fun e => h.m.ne hc e.symm⟩
theorem WP.map_ne (h : WP base w g mb sl n m M S) : mb ≠ g := h.m.ne h.c.blk
theorem WP.base_le (h : WP base w g mb sl n m M S) : ∀ k, WX g mb sl k → base ≤ k := by
  rintro k (rfl | rfl | ⟨r, hr, e⟩)
  · exact h.bg
  · exact h.bm
  · exact h.bs r hr k e
theorem WP.lt (h : WP base w g mb sl n m M S) : ∀ k, WX g mb sl k → k < w.heap.size := by
  rintro k (rfl | rfl | ⟨r, hr, e⟩)
  · exact h.c.lt
  · exact h.m.lt
  · exact (h.s r hr).lt k e
theorem WP.fr {X : Nat → Prop} (h : WP base w g mb sl n m M S) (f : Fr X w w') (hx : ∀ k, WX g mb sl k → ¬ X k) : WP base w' g mb sl n m M S :=
  ⟨h.c.fr f (hx g (.inl rfl)), fun r hr => (h.s r hr).fr f (fun k hk => hx k (.inr (.inr ⟨r, hr, hk⟩))), h.m.fr f (hx mb (.inr (.inl rfl))), h.a, h.bg, h.bm, h.bs⟩
theorem WP.later (h : WP base w g mb sl n m M S) (f : Fr (fun _ => False) w w') : WP base w' g mb sl n m M S := h.fr f (fun _ _ => id)
theorem WP.map_to (h : WP base w g mb sl n m M S) {m' : Nat} {M' : Int → Option Value} (hm : MapAt w' mb m' M') (f : Fr (fun k => k = mb) w w') : WP base w' g mb sl n m' M' S :=
  ⟨h.c.fr f (fun e => h.map_ne e.symm), fun r hr => (h.s r hr).fr f (fun k hk => (h.slot_ne r hr k hk).2), hm, h.a, h.bg, h.bm, h.bs⟩
theorem WP.now_to (h : WP base w g mb sl n m M S) (v : Int) : WP base (w.setCell ⟨g, 65, none⟩ (.int .i64 v)) g mb sl v m M S := by
  have f : Fr (fun k => k = g) w (w.setCell ⟨g, 65, none⟩ (.int .i64 v)) := (Fr.refl _ _).setB _ _
  exact ⟨h.c.set_now v, fun r hr => (h.s r hr).fr f (fun k hk => (h.slot_ne r hr k hk).1), h.m.fr f h.map_ne, h.a, h.bg, h.bm, h.bs⟩
theorem WP.same (h : WP base w g mb sl n m M S) {M' : Int → Option Value} {S' : Nat → List Int} (hM : M = M') (hS : ∀ r, r < 64 → S r = S' r) : WP base w g mb sl n m M' S' := by
  subst hM
  exact ⟨h.c, fun r hr => by rw [← hS r hr]; exact h.s r hr, h.m, h.a, h.bg, h.bm, h.bs⟩
theorem getD_set {sl : List Value} {j r : Nat} {v : Value} (hj : j < sl.length) : (sl.set j v).getD r nilS = if r = j then v else sl.getD r nilS := by
  rw [List.getD_eq_getElem?_getD, List.getD_eq_getElem?_getD, List.getElem?_set]
  by_cases h : r = j
  · subst h; simp [hj]
  · rw [if_neg (fun e => h e.symm), if_neg h]
/-- One slot is another: its row has changed, or it is a new one. -/
theorem WP.slot_to (h : WP base w g mb sl n m M S) (hb : base ≤ w.heap.size) {j : Nat} (hj : j < 64) {v : Value} {X : List Int} (f : Fr (fun k => (sl.getD j nilS).ownBlock = some k) w w') (ho : OwnAt w' 3 v (iv X))
    (hv : v.ownBlock = (sl.getD j nilS).ownBlock ∨ ∃ k, v.ownBlock = some k ∧ w.heap.size ≤ k) :
    WP base (w'.setCell ⟨g, j, none⟩ v) g mb (sl.set j v) n m M (fun r => if r = j then X else S r) ∧ Fr (WX g mb sl) w (w'.setCell ⟨g, j, none⟩ v) ∧ ∀ k, WX g mb (sl.set j v) k → k < w.heap.size → WX g mb sl k := by
  have hl := h.c.len
  have hg : ¬ (sl.getD j nilS).ownBlock = some g := fun e => (h.slot_ne j hj g e).1 rfl
  have c1 : WC w' g sl mb n := h.c.fr f hg
  have f2 : Fr (fun k => k = g) w' (w'.setCell ⟨g, j, none⟩ v) := (Fr.refl _ _).setB _ _
  have hvg : ∀ k, v.ownBlock = some k → k ≠ g := fun k hk => by
    obtain ⟨cur, hc⟩ := own_tagI ho k hk
    exact tag_neI hc c1.blk (by decide)
  refine ⟨⟨c1.set_slot j hj v, fun r hr => ?_, ?_, fun r t hr ht hrt k => ?_, h.bg, h.bm, fun r hr k => ?_⟩, ?_, ?_⟩
  · rw [getD_set (by omega)]
    by_cases e : r = j
    · rw [if_pos e]
      simp only [e, if_true]
      exact ho.fr f2 hvg
    · rw [if_neg e]
      simp only [if_neg e]
      exact ((h.s r hr).fr f (fun k hk => h.a r j hr hj e k hk)).fr f2 (fun k hk => (h.slot_ne r hr k hk).1)
  · exact (h.m.fr f (fun e => (h.slot_ne j hj mb e).2 rfl)).fr f2 h.map_ne
  · rw [getD_set (by omega), getD_set (by omega)]
    by_cases e : r = j
    · rw [if_pos e, if_neg (fun e2 => hrt (e.trans e2.symm))]
      intro hk hk2
      rcases hv with e3 | ⟨k', e3, hk'⟩
      · rw [e3] at hk
        exact h.a j t hj ht (fun e4 => hrt (e.trans e4)) k hk hk2
      · rw [e3] at hk
        cases hk
        have := (h.s t ht).lt _ hk2
        omega
    · rw [if_neg e]
      intro hk hk2
      by_cases e2 : t = j
      · rw [if_pos e2] at hk2
        rcases hv with e3 | ⟨k', e3, hk'⟩
        · rw [e3] at hk2
          exact h.a r j hr hj e k hk hk2
        · rw [e3] at hk2
          cases hk2
          have := (h.s r hr).lt _ hk
          omega
      · rw [if_neg e2] at hk2
        exact h.a r t hr ht hrt k hk hk2
  · rw [getD_set (by omega)]
    intro hk
    split at hk
    · rcases hv with e3 | ⟨k', e3, hk'⟩
      · rw [e3] at hk; exact h.bs j hj k hk
      · rw [e3] at hk; cases hk; omega
    · exact h.bs r hr k hk
  · exact (f.mono (fun k _ e => .inr (.inr ⟨j, hj, e⟩))).trans (f2.mono (fun k _ e => .inl e))
  · rintro k (rfl | rfl | ⟨r, hr, e⟩) hk
    · exact .inl rfl
    · exact .inr (.inl rfl)
    · rw [getD_set (by omega)] at e
      split at e
      · rcases hv with e3 | ⟨k', e3, hk'⟩
        · rw [e3] at e; exact .inr (.inr ⟨j, hj, e⟩)
        · rw [e3] at e; cases e; omega
      · exact .inr (.inr ⟨r, hr, e⟩)
end
/-- A wheel N ticks in, with these timers. -/
def WAt (base : Nat) (w : World) (g mb : Nat) (sl : List Value) (N : Nat) (L : List (Int × Int)) : Prop := WP base w g mb sl (N : Int) L.length (mapT L) (fun r => slotT L (r : Int)) ∧ InvT N L
section
variable {base : Nat} {w w' : World} {g mb : Nat} {sl : List Value} {N : Nat} {L : List (Int × Int)}
theorem WAt.fr {X : Nat → Prop} (h : WAt base w g mb sl N L) (f : Fr X w w') (hx : ∀ k, WX g mb sl k → ¬ X k) : WAt base w' g mb sl N L := ⟨h.1.fr f hx, h.2⟩
theorem WAt.later (h : WAt base w g mb sl N L) (f : Fr (fun _ => False) w w') : WAt base w' g mb sl N L := h.fr f (fun _ _ => id)
end
theorem MapAt.tightT {w : World} {b n : Nat} {M : Int → Option Value} (h : MapAt w b n M) (ks : List Int) (hn : ks.Nodup) (hk : ∀ k, (M k).isSome = true ↔ k ∈ ks) : MapAt w b ks.length M := by
  obtain ⟨D0, h0, hM0⟩ := id h
  obtain ⟨D, h1, h2⟩ := h.size ks hn hk
  have hsz : Maps.size D0 = Maps.size D := by
    obtain ⟨es, clock, hb, F, hs, hD⟩ := h0
    obtain ⟨es', clock', hb', F', hs', hD'⟩ := h1
    rw [hb] at hb'
    cases hb'
    rw [hD, hD']
  obtain ⟨es, clock, hb, F, hs, hD⟩ := h0
  refine ⟨D0, ⟨es, clock, hb, F, ?_, hD⟩, hM0⟩
  have e1 : Maps.size D0 = es.size := by rw [hD]; exact length_read es
  rw [← e1, hsz, h2]
  exact Nat.le_refl _
/-- Parts that are a wheel. -/
theorem WP.wheel {base : Nat} {w : World} {g mb : Nat} {sl : List Value} {n : Int} {m N : Nat} {M : Int → Option Value} {S : Nat → List Int} {L : List (Int × Int)} (h : WP base w g mb sl n m M S) (hi : InvT N L) (hn : n = (N : Int)) (hM : M = mapT L) (hS : ∀ r, r < 64 → S r = slotT L (r : Int)) : WAt base w g mb sl N L := by
  subst hn
  have h2 := h.same hM hS
  refine ⟨⟨h2.c, h2.s, ?_, h2.a, h2.bg, h2.bm, h2.bs⟩, hi⟩
  have := h2.m.tightT (L.map (·.1)) hi.nd (mapT_some L)
  rwa [List.length_map] at this
/-- What a call leaves: the wheel, in its own blocks. -/
def WPost (base : Nat) (w : World) (g mb : Nat) (sl : List Value) (N : Nat) (L : List (Int × Int)) (w' : World) : Prop := ∃ sl', WAt base w' g mb sl' N L ∧ Fr (WX g mb sl) w w' ∧ ∀ k, WX g mb sl' k → k < w.heap.size → WX g mb sl k
theorem WPost.refl {base : Nat} {w : World} {g mb : Nat} {sl : List Value} {N : Nat} {L : List (Int × Int)} (h : WAt base w g mb sl N L) : WPost base w g mb sl N L w := ⟨sl, h, Fr.refl _ _, fun _ h _ => h⟩
end Go.Proofs.Ytoiencoojkahmaa
