/- A wheel: what Tick does to a slot. -/
import Derived.Test.YtoiencoojkahmaaGe
namespace Go.Proofs.Ytoiencoojkahmaa
open Go.RowKit Go.Maps
set_option linter.unusedVariables false
set_option maxRecDepth 100000
set_option maxHeartbeats 4000000

/-- append(l[:j], d) in l's own room: the number at j is d. -/
theorem run_keepI {w : World} {gb off n c : Nat} {cur : List Int} (h : OwnAt w 3 (.slice (some ⟨gb, off, none⟩) n c) (iv cur)) (hl : cur.length = n) (j : Nat) (hj : j < n) (d : Int) :
    ∃ w', (Builtin.append_ #[38, 38] 38 #[.slice (some ⟨gb, off, none⟩) j c, .slice (some ⟨w.heap.size, 0, none⟩) 1 1]).run Try.prog (w.alloc (.cells #[.int .i64 d] 3)) = .ok (.slice (some ⟨gb, off, none⟩) (j + 1) c) w' ∧ OwnAt w' 3 (.slice (some ⟨gb, off, none⟩) n c) (iv (cur.set j d)) ∧ Fr (fun k => k = gb) w w' := by
  obtain ⟨i, I1, I2, I3, I4⟩ := infoI
  have hal : Fr (fun _ => False) w (w.alloc (.cells #[.int .i64 d] 3)) := (Fr.refl _ _).alloc _
  have hs : Src Try.prog 1 38 (.slice (some ⟨w.heap.size, 0, none⟩) 1 1) 1 [.int .i64 d] (w.alloc (.cells #[.int .i64 d] 3)) := Src.ofSlice _ Try.underlying38 _ 1 1 [.int .i64 d] rfl (fun j u hj => by
    cases j with
    | zero => simp at hj; subst hj; rw [add_none]; exact cell_of_heap (heap_alloc_new w _) rfl
    | succ j => simp at hj) (by simp [Value.oneCell'])
  have h2 := h.fr hal (fun _ _ => id)
  have h3 := h2.setI j (by omega) d
  obtain ⟨-, hnc⟩ := h2.lenI
  refine ⟨_, ?_, h3, (hal.mono (T := fun k => k = gb) (fun _ _ e => e.elim)).setB _ _⟩
  rcases h2 with ⟨e, _⟩ | ⟨g', off', cap, row, e, hg, k1, k2, k3, k4⟩
  · cases e
  · cases e
    rw [iv_length] at k2
    have hst := run_storeCells_at Try.prog gb (off + j) 3 [.int .i64 d] 0 row (w.alloc (.cells #[.int .i64 d] 3)) hg (by simp; omega) (by simp [Value.oneCell'])
    simp only [Nat.add_zero] at hst
    have hroom : j + 1 ≤ c := by omega
    have heq : (List.take (off + j) row.toList ++ [Value.int .i64 d] ++ List.drop (off + j + [Value.int .i64 d].length) row.toList).toArray = row.setIfInBounds (off + j) (.int .i64 d) := by
      apply Array.ext'
      rw [Array.toList_setIfInBounds, List.set_eq_take_append_cons_drop, if_pos (by rw [Array.length_toList]; omega)]
      simp
    rw [setCell_eq_setRow _ gb _ row 3 _ _ hg, ← heq]
    simp [Builtin.append_, run_underlying Try.underlying38, sizeOf, typeInfo, I1, hs.len, hroom, I3, hs.cells, Addr.add_lit, hst]
theorem WP.row_to {base : Nat} {w w' : World} {g mb : Nat} {sl : List Value} {n : Int} {m : Nat} {M : Int → Option Value} {S : Nat → List Int} (h : WP base w g mb sl n m M S) {j : Nat} (hj : j < 64) {X : List Int} (f : Fr (fun k => (sl.getD j nilS).ownBlock = some k) w w') (ho : OwnAt w' 3 (sl.getD j nilS) (iv X)) :
    WP base w' g mb sl n m M (fun q => if q = j then X else S q) := by
  refine ⟨h.c.fr f (fun e => (h.slot_ne j hj g e).1 rfl), fun r hr => ?_, h.m.fr f (fun e => (h.slot_ne j hj mb e).2 rfl), h.a, h.bg, h.bm, h.bs⟩
  by_cases e : r = j
  · subst e
    simp only [if_true]
    exact ho
  · simp only [if_neg e]
    exact (h.s r hr).fr f (fun k hk => h.a r j hr hj e k hk)
theorem OwnAt.shrink {w : World} {a : Option Addr} {n c : Nat} {cur : List Int} (h : OwnAt w 3 (.slice a n c) (iv cur)) (j : Nat) (hj : j ≤ cur.length) : OwnAt w 3 (.slice a j c) (iv (cur.take j)) := by
  rcases h with ⟨e, e2⟩ | ⟨g', off', cap, row, e, hg, k1, k2, k3, k4⟩
  · cases e
    have : cur.length = 0 := by have := congrArg List.length e2; rwa [iv_length] at this
    have hj0 : j = 0 := by omega
    subst hj0
    exact .inl ⟨rfl, by simp [iv]⟩
  · obtain ⟨rfl, -, rfl⟩ := Value.slice.inj e
    rw [iv_length] at k2 k4
    have hl : (iv (cur.take j)).length = j := by rw [iv_length, List.length_take]; omega
    refine .inr ⟨g', off', c, row, by rw [hl], hg, k1, by omega, k3, ?_⟩
    rw [hl]
    have e2 : (row.toList.drop off').take j = ((row.toList.drop off').take cur.length).take j := by rw [List.take_take, Nat.min_eq_left hj]
    rw [e2, k4]
    simp [iv, List.map_take]
/-- How far a tick is in its slot: those that stay stand at its head, those that are due are gathered, and gone from the map. -/
def TkS (base : Nat) (w : World) (g mb : Nat) (sl : List Value) (N : Nat) (L : List (Int × Int)) (r n i j : Nat) (da : Option Addr) (dm dc : Nat) (wr : World) : Prop :=
  ∃ cur : List Int, WP base wr g mb sl ((N : Int) + 1) L.length (goneM N L ((slotT L (r : Int)).take i)) (fun q => if q = r then cur else slotT L (q : Int)) ∧ cur.length = n ∧ cur.take j = ((slotT L (r : Int)).take i).filter (fun d => !lateB N L d) ∧ (((slotT L (r : Int)).take i).filter (fun d => !lateB N L d)).length = j ∧ cur.drop i = (slotT L (r : Int)).drop i ∧ OwnAt wr 3 (.slice da dm dc) (iv (((slotT L (r : Int)).take i).filter (lateB N L))) ∧ (∀ k, (Value.slice da dm dc).ownBlock = some k → w.heap.size ≤ k) ∧ Fr (WX g mb sl) w wr
section
variable {base : Nat} {w wr : World} {g mb : Nat} {sl : List Value} {N : Nat} {L : List (Int × Int)} {r n i j : Nat} {da : Option Addr} {dm dc : Nat}
theorem TkS.later {w' : World} (h : TkS base w g mb sl N L r n i j da dm dc wr) (f : Fr (fun _ => False) wr w') : TkS base w g mb sl N L r n i j da dm dc w' := by
  obtain ⟨cur, h1, h2, h3, h4, h5, h6, h7, h8⟩ := h
  exact ⟨cur, h1.later f, h2, h3, h4, h5, h6.fr f (fun _ _ => id), h7, h8.trans (f.mono (fun _ _ e => e.elim))⟩
theorem TkS.j_le (h : TkS base w g mb sl N L r n i j da dm dc wr) : j ≤ i := by
  obtain ⟨cur, h1, h2, h3, h4, h5, h6, h7, h8⟩ := h
  have := List.length_filter_le (fun d => !lateB N L d) ((slotT L (r : Int)).take i)
  rw [List.length_take] at this
  omega
theorem TkS.cell (h : TkS base w g mb sl N L r n i j da dm dc wr) (hr : r < 64) {d : Int} (hz : (slotT L (r : Int))[i]? = some d) {gb off c : Nat} (hv : sl.getD r nilS = .slice (some ⟨gb, off, none⟩) n c) : wr.cell? ⟨gb, off + i, none⟩ = some (.int .i64 d) := by
  obtain ⟨cur, h1, h2, h3, h4, h5, h6, h7, h8⟩ := h
  have hc : cur[i]? = some d := by
    have e1 : (cur.drop i)[0]? = ((slotT L (r : Int)).drop i)[0]? := by rw [h5]
    simpa [List.getElem?_drop, hz] using e1
  have ho := h1.s r hr
  rw [if_pos rfl, hv] at ho
  obtain ⟨b, o, e, -, hc2⟩ := ho.ints i d hc
  cases e
  exact hc2
theorem TkS.keep (h : TkS base w g mb sl N L r n i j da dm dc wr) (hr : r < 64) (hi : i < n) {d : Int} (hz : (slotT L (r : Int))[i]? = some d) (hd : lateB N L d = false) {gb off c : Nat} (hv : sl.getD r nilS = .slice (some ⟨gb, off, none⟩) n c) (hg : gb < w.heap.size) :
    ∃ w', (Builtin.append_ #[38, 38] 38 #[.slice (some ⟨gb, off, none⟩) j c, .slice (some ⟨wr.heap.size, 0, none⟩) 1 1]).run Try.prog (wr.alloc (.cells #[.int .i64 d] 3)) = .ok (.slice (some ⟨gb, off, none⟩) (j + 1) c) w' ∧ TkS base w g mb sl N L r n (i + 1) (j + 1) da dm dc w' := by
  have hji := h.j_le
  obtain ⟨cur, h1, h2, h3, h4, h5, h6, h7, h8⟩ := h
  have ho := h1.s r hr
  rw [if_pos rfl, hv] at ho
  obtain ⟨w', hrun, ho2, hf⟩ := run_keepI ho h2 j (by omega) d
  have hT : (slotT L (r : Int)).take (i + 1) = (slotT L (r : Int)).take i ++ [d] := by rw [List.take_add_one, hz]; rfl
  have hF : ((slotT L (r : Int)).take (i + 1)).filter (fun d => !lateB N L d) = ((slotT L (r : Int)).take i).filter (fun d => !lateB N L d) ++ [d] := by rw [hT, List.filter_append]; simp [hd]
  have hF2 : ((slotT L (r : Int)).take (i + 1)).filter (lateB N L) = ((slotT L (r : Int)).take i).filter (lateB N L) := by rw [hT, List.filter_append]; simp [hd]
  have hf2 : Fr (fun k => (sl.getD r nilS).ownBlock = some k) wr w' := hf.mono (fun k _ e => by rw [hv, e]; rfl)
  have hP := h1.row_to hr hf2 (by rw [hv]; exact ho2)
  refine ⟨w', hrun, cur.set j d, ?_, by rw [List.length_set]; exact h2, ?_, by rw [hF, List.length_append, h4]; rfl, ?_, ?_, h7, ?_⟩
  · refine hP.same (by rw [hT, goneM_not hd]) (fun q hq => ?_)
    by_cases e : q = r
    · simp only [if_pos e]
    · simp only [if_neg e]
  · rw [hF, ← h3, List.take_add_one, List.getElem?_set_self (by omega), List.take_set, List.set_eq_of_length_le (by rw [List.length_take]; omega)]
    rfl
  · rw [List.drop_set_of_lt (by omega), ← List.drop_drop, h5, List.drop_drop]
  · rw [hF2]
    exact h6.fr hf (fun k hk e => by have := h7 k hk; omega)
  · exact h8.trans (hf2.mono (fun k _ e => .inr (.inr ⟨r, hr, e⟩)))
theorem TkS.late (h : TkS base w g mb sl N L r n i j da dm dc wr) (hr : r < 64) {d : Int} (hz : (slotT L (r : Int))[i]? = some d) (hd : lateB N L d = true) (hfew : L.length ≤ 1024) (hw : ∀ k, WX g mb sl k → k < w.heap.size) :
    ∃ a' n' c' w', (Builtin.append_ #[38, 38] 38 #[.slice da dm dc, .slice (some ⟨wr.heap.size, 0, none⟩) 1 1]).run Try.prog (wr.alloc (.cells #[.int .i64 d] 3)) = .ok (.slice a' n' c') w' ∧ WC w' g sl mb ((N : Int) + 1) ∧ MapAt w' mb L.length (goneM N L ((slotT L (r : Int)).take i)) ∧ ∀ w2, MapAt w2 mb L.length (delM (goneM N L ((slotT L (r : Int)).take i)) d) → Fr (fun k => k = mb) w' w2 → TkS base w g mb sl N L r n (i + 1) j a' n' c' w2 := by
  obtain ⟨cur, h1, h2, h3, h4, h5, h6, h7, h8⟩ := h
  have hlen : (((slotT L (r : Int)).take i).filter (lateB N L)).length ≤ 4096 := by
    have e1 := List.length_filter_le (lateB N L) ((slotT L (r : Int)).take i)
    have e2 := List.length_take_le i (slotT L (r : Int))
    have e3 := slot_few L (r : Int)
    rw [List.length_take] at *
    omega
  obtain ⟨a', n', c', w', hrun, hn, ho, hf, hl⟩ := run_addI d h6 hlen
  have hT : (slotT L (r : Int)).take (i + 1) = (slotT L (r : Int)).take i ++ [d] := by rw [List.take_add_one, hz]; rfl
  have hF : ((slotT L (r : Int)).take (i + 1)).filter (fun d => !lateB N L d) = ((slotT L (r : Int)).take i).filter (fun d => !lateB N L d) := by rw [hT, List.filter_append]; simp [hd]
  have hF2 : ((slotT L (r : Int)).take (i + 1)).filter (lateB N L) = ((slotT L (r : Int)).take i).filter (lateB N L) ++ [d] := by rw [hT, List.filter_append]; simp [hd]
  have hP : WP base w' g mb sl ((N : Int) + 1) L.length (goneM N L ((slotT L (r : Int)).take i)) (fun q => if q = r then cur else slotT L (q : Int)) := h1.fr hf (fun k hk e => by have := h7 k e; have := hw k hk; omega)
  refine ⟨a', n', c', w', hrun, hP.c, hP.m, fun w2 hm2 hf2 => ?_⟩
  refine ⟨cur, (hP.map_to hm2 hf2).same (by rw [hT, goneM_late hd]) (fun _ _ => rfl), h2, by rw [hF]; exact h3, by rw [hF]; exact h4, by rw [← List.drop_drop, h5, List.drop_drop], ?_, ?_, ?_⟩
  · rw [hF2]
    exact ho.fr hf2 (fun k hk e => by obtain ⟨cc, hcc⟩ := own_tagI ho k hk; exact hP.m.ne hcc e.symm)
  · intro k hk
    rcases hl with e | ⟨k', e, hk'⟩
    · rw [e] at hk; exact h7 k hk
    · rw [e] at hk; cases hk; have := h8.size; omega
  · have f1 : Fr (fun k => WX g mb sl k ∨ w.heap.size ≤ k) wr w' := hf.mono (fun k _ e => .inr (h7 k e))
    have f2 : Fr (fun k => WX g mb sl k ∨ w.heap.size ≤ k) w' w2 := hf2.mono (fun k _ e => .inl (.inr (.inl e)))
    exact (((h8.mono (fun k _ e => .inl e)).trans f1).trans f2).mono (fun k hk e => by
      rcases e with e | e
      · exact e
      · omega)
end
end Go.Proofs.Ytoiencoojkahmaa
