/- The document's Offer and Ack. -/
import Derived.Test.YtmpknmcgljpfkaaMp
namespace Go.Proofs.Ytmpknmcgljpfkaa
open Go.RowKit Go.Maps
set_option linter.unusedVariables false
set_option maxRecDepth 100000
set_option maxHeartbeats 4000000

theorem own_rest {w : World} {e : TypeId} {g off n cap : Nat} {u : Value} {r : List Value} (h : OwnAt w e (.slice (some ⟨g, off, none⟩) n cap) (u :: r)) (dp : Option Addr) (hd : 1 < cap → dp = some ((⟨g, off, none⟩ : Addr).add 1)) (hd1 : cap = 1 → dp = some ⟨g, off, none⟩) :
    OwnAt w e (.slice dp (n - 1) (cap - 1)) r := by
  rcases h with ⟨h, _⟩ | ⟨g', off', cap', cur, h, hg, h1, h2, h3, h4⟩
  · cases h
  · cases h
    simp only [List.length_cons] at h2 h4
    have hr : (cur.toList.drop (off + 1)).take r.length = r := by
      have := congrArg (List.drop 1) h4
      rw [List.drop_take, List.drop_drop] at this
      simpa using this
    by_cases hc : cap = 1
    · rw [hd1 hc]
      have hrl : r = [] := List.eq_nil_of_length_eq_zero (by omega)
      subst hrl
      exact .inr ⟨g, off, cap - 1, _, by simp, hg, by omega, by simp, by omega, by simp⟩
    · rw [hd (by omega), add_none]
      exact .inr ⟨g, off + 1, cap - 1, _, by simp, hg, by omega, by omega, by omega, hr⟩
theorem rsAck_none {w0 w : World} {g b : Nat} {V : Int → Nat} {a : Option Addr} {n c : Nat} (h : RefQ w0 w g b V a n c []) :
    Calls Try.prog 19 #[.pointer (some ⟨g, 0, none⟩)] w fun e w' => e = .returned (.tuple #[.slice none 0 0, .int .i64 5]) ∧ w = w' := by
  obtain rfl : 0 = n := h.len.symm
  have c1 : w.cell? ⟨g, 1, none⟩ = some (.slice a 0 c) := cell_of_heap h.set rfl
  clear h
  go_enter Try.func19, Try.ntmps19
  go_wp2_with (fail)
  go_ret2
  exact ⟨rfl, rfl⟩
/-- What the document's Ack leaves where one waits. -/
def RAckAs (w0 w : World) (g b : Nat) (V : Int → Nat) (v : Value) (x : Option Addr × Nat × List (Int × Nat)) (L : List (Option Addr × Nat × List (Int × Nat))) (e : Ending) (w' : World) : Prop :=
  e = .returned (.tuple #[offV x, .int .i64 0]) ∧ ∃ a' n' c', RefQ w0 w' g b V a' n' c' L ∧ Copy w' x.1 x.2.1 x.2.2 ∧ Fr (fun k => k = g) w w' ∧ (Value.slice a' n' c').ownBlock = v.ownBlock
theorem rsAck_some {w0 w : World} {g b : Nat} {V : Int → Nat} {a : Option Addr} {n c : Nat} {x : Option Addr × Nat × List (Int × Nat)} {L : List (Option Addr × Nat × List (Int × Nat))} (h : RefQ w0 w g b V a n c (x :: L)) :
    Calls Try.prog 19 #[.pointer (some ⟨g, 0, none⟩)] w fun e w' => RAckAs w0 w g b V (.slice a n c) x L e w' := by
  have hlen := h.len
  obtain ⟨ga, off, cap, hv, k0, -⟩ := h.own.cells 0 (offV x) rfl
  cases hv
  rw [Nat.add_zero] at k0
  have hcap : 1 ≤ c := by
    rcases h.own with ⟨e, _⟩ | ⟨_, _, _, _, e, _, _, h2, _⟩
    · cases e
    · cases e; simp at h2; omega
  obtain ⟨N, hN⟩ : ∃ N, (List.map offV (x :: L)).length = N := ⟨_, rfl⟩
  rw [hN] at h ⊢
  have hN1 : 1 ≤ N := by rw [← hN]; simp
  obtain ⟨dp, hcut, hdp, hdp1⟩ := cut_tail Try.prog 51 33 Try.underlying51 (by kernel_rfl) ⟨ga, off, none⟩ N c hN1
  have hN2 : (0 : Int) < (N : Int) := by omega
  have hN3 : ((N : Int) == 0) = false := by simp; omega
  have HT : Hid (OwnAt w 33 (.slice dp (N - 1) (c - 1)) (L.map offV)) := own_rest h.own dp hdp hdp1
  have HB : Hid ((Value.slice dp (N - 1) (c - 1)).ownBlock = some ga) := by
    show _ = _
    by_cases h1 : c = 1
    · rw [hdp1 h1]; rfl
    · rw [hdp (by omega), add_none]; rfl
  have c1 : w.cell? ⟨g, 1, none⟩ = some (.slice (some ⟨ga, off, none⟩) N c) := cell_of_heap h.set rfl
  have z1 : w.frozen? ⟨g, 1, none⟩ = false := frozen_of_heap h.set
  have HH : Hid (RefQ w0 w g b V (some ⟨ga, off, none⟩) N c (x :: L)) := h
  have HGA : Hid (ga ≠ g) := by
    intro e
    subst e
    exact tag_own h.set h.own (by decide) rfl
  unfold offV at k0
  obtain ⟨p, d, Y⟩ := x
  dsimp only at k0
  obtain ⟨m, hm⟩ : ∃ m, Y.length = m := ⟨_, rfl⟩
  have HM : Hid (Y.length = m) := hm
  rw [hm] at k0
  clear hdp hdp1 h hN hlen hm
  go_enter Try.func19, Try.ntmps19
  go_wp2_with (fail)
  go_ret2
  have hf : Fr (fun k => k = g) w (w.setCell ⟨g, 1, none⟩ (.slice dp (N - 1) (c - 1))) := (Fr.refl _ _).setB 1 _
  have hc : ∀ k cur, w.heap[k]? = some (.cells cur 24 (0, 0)) → ¬ k = g := fun k cur hk => tag_set hk HH.out.set (by decide)
  have hq := HH.out
  refine ⟨by rw [offV]; dsimp only; rw [HM.out]; rfl, dp, N - 1, c - 1, ⟨sset hq.set, (hf.block _ (lt_of_heap hq.vals) (fun e => hq.ne e.symm)).trans hq.vals, HT.out.fr hf (fun k e e2 => ?_), fun y hy => (hq.copies y (List.mem_cons_of_mem _ hy)).fr hf hc, hq.ok, fr_new hq.fr hf (fun k e => by subst e; exact hq.new.2), hq.new, fun k e => ?_⟩, (hq.copies _ (List.mem_cons_self ..)).fr hf hc, hf, HB.out⟩
  · rw [HB.out] at e
    cases e
    exact HGA.out e2
  · rw [HB.out] at e
    exact hq.newQ k e
/-- What the document's Offer leaves. -/
def ROffAs (w0 w : World) (g b : Nat) (V : Int → Nat) (v : Value) (L : List (Option Addr × Nat × List (Int × Nat))) (Y : List (Int × Nat)) (w' : World) : Prop :=
  ∃ p d a' n' c', RefQ w0 w' g b V a' n' c' (L ++ [(p, d, Y)]) ∧ Fr (fun k => k = g ∨ v.ownBlock = some k) w w' ∧ ((Value.slice a' n' c').ownBlock = v.ownBlock ∨ ∃ k, (Value.slice a' n' c').ownBlock = some k ∧ w.heap.size ≤ k)
theorem rsOffer_in {w0 w : World} {g b : Nat} {V : Int → Nat} {a : Option Addr} {n c : Nat} {L : List (Option Addr × Nat × List (Int × Nat))} (h : RefQ w0 w g b V a n c L) (q : Option Addr) (cq m : Nat) (Y : List (Int × Nat)) (hY : SetsAt w q cq Y) (hm : Y.length = m) (hx : (L.length + 1) * 24 < 2 ^ 47) :
    Calls Try.prog 16 #[.pointer (some ⟨g, 0, none⟩), .slice q m cq] w fun e w' => e = .returned (.tuple #[]) ∧ ROffAs w0 w g b V (.slice a n c) L Y w' := by
  obtain ⟨i, j1, j2, j3, j4⟩ := info_sets
  obtain ⟨wA, hwA⟩ : ∃ wA, wA = w.drew := ⟨_, rfl⟩
  have fA : Fr (fun _ => False) w wA := by rw [hwA]; exact (Fr.refl _ _).drew
  obtain ⟨w5, hw5⟩ : ∃ w5, w5 = wA.alloc (.cells #[] 24) := ⟨_, rfl⟩
  have f5 : Fr (fun _ => False) w w5 := by rw [hw5]; exact fA.alloc _
  have hlit : w5.ownsRow 0 24 2 (.slice (some ⟨wA.heap.size, 0, none⟩) 0 0) 0 [] := by
    rw [hw5]
    exact World.ownsRow_lit (base := 0) (e := 24) (size := 2) wA #[] 0 (Nat.zero_le _) (by decide) rfl
  obtain ⟨p, d, w7, hr7, hc7, hf7⟩ := copyS_run (hY.later f5) _ hlit
  rw [hm] at hr7
  have f7 : Fr (fun _ => False) w w7 := fr_new f5 hf7 (fun k e => by simp [Value.ownBlock] at e; have := fA.size; omega)
  obtain ⟨w8, hw8⟩ : ∃ w8, w8 = w7.alloc (.cells #[.slice p m d] 33) := ⟨_, rfl⟩
  have f78 : Fr (fun _ => False) w7 w8 := by rw [hw8]; exact (Fr.refl _ _).alloc _
  have f8 : Fr (fun _ => False) w w8 := f7.trans f78
  have h8 := h.later f8
  have hs8 : Src Try.prog 1 51 (.slice (some ⟨w7.heap.size, 0, none⟩) 1 1) 1 [.slice p m d] w8 := by rw [hw8]; exact src_cell w7 33 51 33 Try.underlying51 _ rfl
  obtain ⟨v9, w9, hr9, ho9, hf9, hb9, -⟩ := run_append_at (P := Try.prog) w8 51 51 51 33 i (.slice none 0 0) Try.underlying51 j1 j2 j3 rfl (.slice a n c) (L.map offV) h8.own _ 1 [.slice p m d] hs8 (by rw [j4, List.length_map]; omega) (by rw [List.length_map]; unfold maxLen; omega)
  obtain ⟨a', c', rfl, -⟩ := ho9.form
  obtain ⟨n', hn'⟩ : ∃ n', (List.map offV L ++ [Value.slice p m d]).length = n' := ⟨_, rfl⟩
  rw [hn'] at hr9 ho9 hb9
  have hset : ∀ w', Fr (fun _ => False) w w' → w'.cell? ⟨g, 1, none⟩ = some (.slice a n c) := fun w' hf => cell_of_heap (h.later hf).set rfl
  have hg8 : (Value.slice a n c).ownBlock ≠ some g := tag_own h8.set h8.own (by decide)
  have hset9 : w9.heap[g]? = some (.cells #[.slice (some ⟨b, 0, none⟩) 9 9, .slice a n c] 53 (0, 0)) := (hf9.block _ (lt_of_heap h8.set) hg8).trans h8.set
  have HEND : Hid (ROffAs w0 w g b V (.slice a n c) L Y (w9.setCell ⟨g, 1, none⟩ (.slice a' n' c'))) := by
    have hcopy : ∀ k cur, w8.heap[k]? = some (.cells cur 24 (0, 0)) → ¬ (Value.slice a n c).ownBlock = some k := fun k cur hk e => tag_own hk h8.own (by decide) e
    have hc9 : Copy w9 p d Y := (hc7.later f78).fr hf9 hcopy
    have hfz : Fr (fun k => k = g) w9 (w9.setCell ⟨g, 1, none⟩ (.slice a' n' c')) := (Fr.refl _ _).setB 1 _
    have hvb : ¬ (Value.slice a n c).ownBlock = some b := tag_own h8.vals h8.own (by decide)
    have hv9 : w9.heap[b]? = some (.cells (rowV V) 22 (0, 0)) := (hf9.block _ (lt_of_heap h8.vals) hvb).trans h8.vals
    have hcg : ∀ k cur, w9.heap[k]? = some (.cells cur 24 (0, 0)) → ¬ k = g := fun k cur hk => tag_set hk hset9 (by decide)
    have hall : Fr (fun k => k = g ∨ (Value.slice a n c).ownBlock = some k) w (w9.setCell ⟨g, 1, none⟩ (.slice a' n' c')) := ((f8.mono (T := fun k => k = g ∨ (Value.slice a n c).ownBlock = some k) (fun _ _ e => e.elim)).trans (hf9.mono (fun _ _ e => .inr e))).trans (hfz.mono (fun _ _ e => .inl e))
    have hnew : ∀ k, (k = g ∨ (Value.slice a n c).ownBlock = some k) → w0.heap.size ≤ k := by
      rintro k (rfl | e)
      · exact h.new.2
      · exact h.newQ k e
    refine ⟨p, d, a', n', c', ⟨sset hset9, (hfz.block _ (lt_of_heap hv9) (fun e => h.ne e.symm)).trans hv9, ?_, fun x hx => ?_, h.ok, fr_new h.fr hall hnew, h.new, fun k e => ?_⟩, hall, ?_⟩
    · rw [List.map_append, List.map_singleton, show offV (p, d, Y) = .slice p m d by rw [offV]; dsimp only; rw [hm]]
      exact ho9.fr hfz (fun k e e2 => by subst e2; exact tag_own hset9 ho9 (by decide) e)
    · rcases List.mem_append.1 hx with hx | hx
      · exact ((h8.copies x hx).fr hf9 hcopy).fr hfz hcg
      · simp at hx
        subst hx
        exact hc9.fr hfz hcg
    · rcases hb9 with e4 | ⟨k', e4, hk⟩
      · exact h.newQ k (e4 ▸ e)
      · rw [e4] at e
        cases e
        have := h.fr.size
        have := f8.size
        omega
    · rcases hb9 with e4 | ⟨k', e4, hk⟩
      · exact .inl e4
      · exact .inr ⟨k', e4, Nat.le_trans f8.size hk⟩
  have HW5 : Hid (w5 = wA.alloc (.cells #[] 24)) := hw5
  have HW8 : Hid (w8 = w7.alloc (.cells #[.slice p m d] 33)) := hw8
  have cA := hset wA fA
  have c5 := hset w5 f5
  have c7 := hset w7 f7
  have c8 := hset w8 f8
  have c9 : w9.cell? ⟨g, 1, none⟩ = some (.slice a n c) := cell_of_heap hset9 rfl
  have z9 : w9.frozen? ⟨g, 1, none⟩ = false := frozen_of_heap hset9
  clear h hY hm hx j1 j2 j3 j4 fA f5 f7 f78 f8 h8 hs8 ho9 hf9 hb9 hn' hset hg8 hset9 hc7 hf7 hlit hw5 hw8
  go_enter Try.func16, Try.ntmps16
  go_wp2_with (fail)
  refine wp_region_held_drew (S := fun _ => True) (by kernel_rfl) trivial (fun hHeld => ?_)
  refine wpAnyH_take (i := 0) (oi := _) (v := .pointer (some ⟨g, 0, none⟩)) rfl (by kernel_rfl) (by kernel_rfl) (by kernel_rfl) (fun _ _ _ h => h) (Or.inl ⟨by kernel_rfl, fun w2 hw => by go_simp⟩) hHeld ?_
  refine wpAnyH_take (i := 1) (oi := _) (v := .pointer (some ⟨g, 0, none⟩)) rfl (by kernel_rfl) (by kernel_rfl) (by kernel_rfl) (fun _ _ _ h => h) (Or.inl ⟨by kernel_rfl, fun w2 hw => by go_simp⟩) hHeld ?_
  refine wpAnyH_take (i := 2) (oi := _) (v := .pointer (some ⟨g, 0, none⟩)) rfl (by kernel_rfl) (by kernel_rfl) (by kernel_rfl) (fun _ _ _ h => h) (Or.inl ⟨by kernel_rfl, fun w2 hw => by go_simp⟩) hHeld ?_
  refine wpAnyH_take (i := 3) (oi := _) (v := .pointer (some ⟨g, 1, none⟩)) rfl (by kernel_rfl) (by kernel_rfl) (by kernel_rfl) (fun _ _ _ h => h) (Or.inl ⟨by kernel_rfl, fun w2 hw => by go_simp⟩) hHeld ?_
  refine wpAnyH_take (i := 6) (oi := _) (v := .slice q m cq) rfl (by kernel_rfl) (by kernel_rfl) (by kernel_rfl) (fun _ _ _ h => h) (Or.inl ⟨by kernel_rfl, fun w2 hw => by go_simp⟩) hHeld ?_
  simp only [Act.put, List.getElem_toArray, List.getElem_cons_succ, List.getElem_cons_zero, List.setIfInBounds_toArray, List.set_cons_zero, List.set_cons_succ]
  rw [← hwA]
  clear hwA
  refine wpAnyH_ready (rs := [4, 5]) (by kernel_rfl) (by simp) ?_
  refine AllReadyH.cons rfl (fun K hK => ?_) (AllReadyH.cons rfl (fun K hK => ?_) AllReadyH.nil)
  ·
    go_simp
    refine hK.out _ _ trivial (fun _ => ?_)
    clear hK K
    refine wpAnyH_ready (rs := [5]) (by kernel_rfl) (by simp) ?_
    refine AllReadyH.cons rfl (fun K hK => ?_) AllReadyH.nil
    go_simp
    rw [← HW5.out]
    refine hK.out _ _ trivial (fun _ => ?_)
    clear hK K
    refine wpAnyH_ready (rs := [7]) (by kernel_rfl) (by simp) ?_
    refine AllReadyH.cons rfl (fun K hK => ?_) AllReadyH.nil
    refine stepR_append_run rfl (.tmp 9) (.tmp 10) 33 rfl 11 rfl 33 rfl (.slice (some ⟨wA.heap.size, 0, none⟩) 0 0) (.slice q m cq) (.slice p m d) (by go_simp) (by go_simp) hr7 ?_
    refine hK.out _ _ trivial (fun _ => ?_)
    clear hK K
    simp only [Act.put, List.setIfInBounds_toArray, List.set_cons_zero, List.set_cons_succ]
    refine wpAnyH_ready (rs := [8]) (by kernel_rfl) (by simp) ?_
    refine AllReadyH.cons rfl (fun K hK => ?_) AllReadyH.nil
    go_simp
    rw [← HW8.out]
    refine hK.out _ _ trivial (fun _ => ?_)
    clear hK K
    refine wpAnyH_ready (rs := [9]) (by kernel_rfl) (by simp) ?_
    refine AllReadyH.cons rfl (fun K hK => ?_) AllReadyH.nil
    refine stepR_append_run rfl (.tmp 8) (.tmp 12) 51 rfl 13 rfl 51 rfl (.slice a n c) (.slice (some ⟨w7.heap.size, 0, none⟩) 1 1) (.slice a' n' c') (by go_simp) (by go_simp) hr9 ?_
    refine hK.out _ _ trivial (fun _ => ?_)
    clear hK K
    simp only [Act.put, List.setIfInBounds_toArray, List.set_cons_zero, List.set_cons_succ]
    refine wpAnyH_take (i := 10) (oi := _) (v := .pointer (some ⟨g, 0, none⟩)) rfl (by kernel_rfl) (by kernel_rfl) (by kernel_rfl) (fun _ _ _ h => h) (Or.inl ⟨by kernel_rfl, fun w2 hw => by go_simp⟩) trivial ?_
    refine wpAnyH_take (i := 11) (oi := _) (v := .pointer (some ⟨g, 1, none⟩)) rfl (by kernel_rfl) (by kernel_rfl) (by kernel_rfl) (fun _ _ _ h => h) (Or.inl ⟨by kernel_rfl, fun w2 hw => by go_simp⟩) trivial ?_
    simp only [Act.put, List.getElem_toArray, List.getElem_cons_succ, List.getElem_cons_zero, List.setIfInBounds_toArray, List.set_cons_zero, List.set_cons_succ]
    refine wpAnyH_ready (rs := [12]) (by kernel_rfl) (by simp) ?_
    refine AllReadyH.cons rfl (fun K hK => ?_) AllReadyH.nil
    go_simp
    refine hK.out _ _ trivial (fun _ => ?_)
    clear hK K
    refine wpAnyH_done (by kernel_rfl) ?_ _
    go_wp2_with (fail)
    refine bodyPost_end (results_none rfl _ _ _) rfl ?_
    exact ⟨rfl, HEND.out⟩
  ·
    go_simp
    rw [← HW5.out]
    refine hK.out _ _ trivial (fun _ => ?_)
    clear hK K
    refine wpAnyH_ready (rs := [4, 7]) (by kernel_rfl) (by simp) ?_
    refine AllReadyH.cons rfl (fun K hK => ?_) (AllReadyH.cons rfl (fun K hK => ?_) AllReadyH.nil)
    ·
      go_simp
      refine hK.out _ _ trivial (fun _ => ?_)
      clear hK K
      refine wpAnyH_ready (rs := [7]) (by kernel_rfl) (by simp) ?_
      refine AllReadyH.cons rfl (fun K hK => ?_) AllReadyH.nil
      refine stepR_append_run rfl (.tmp 9) (.tmp 10) 33 rfl 11 rfl 33 rfl (.slice (some ⟨wA.heap.size, 0, none⟩) 0 0) (.slice q m cq) (.slice p m d) (by go_simp) (by go_simp) hr7 ?_
      refine hK.out _ _ trivial (fun _ => ?_)
      clear hK K
      simp only [Act.put, List.setIfInBounds_toArray, List.set_cons_zero, List.set_cons_succ]
      refine wpAnyH_ready (rs := [8]) (by kernel_rfl) (by simp) ?_
      refine AllReadyH.cons rfl (fun K hK => ?_) AllReadyH.nil
      go_simp
      rw [← HW8.out]
      refine hK.out _ _ trivial (fun _ => ?_)
      clear hK K
      refine wpAnyH_ready (rs := [9]) (by kernel_rfl) (by simp) ?_
      refine AllReadyH.cons rfl (fun K hK => ?_) AllReadyH.nil
      refine stepR_append_run rfl (.tmp 8) (.tmp 12) 51 rfl 13 rfl 51 rfl (.slice a n c) (.slice (some ⟨w7.heap.size, 0, none⟩) 1 1) (.slice a' n' c') (by go_simp) (by go_simp) hr9 ?_
      refine hK.out _ _ trivial (fun _ => ?_)
      clear hK K
      simp only [Act.put, List.setIfInBounds_toArray, List.set_cons_zero, List.set_cons_succ]
      refine wpAnyH_take (i := 10) (oi := _) (v := .pointer (some ⟨g, 0, none⟩)) rfl (by kernel_rfl) (by kernel_rfl) (by kernel_rfl) (fun _ _ _ h => h) (Or.inl ⟨by kernel_rfl, fun w2 hw => by go_simp⟩) trivial ?_
      refine wpAnyH_take (i := 11) (oi := _) (v := .pointer (some ⟨g, 1, none⟩)) rfl (by kernel_rfl) (by kernel_rfl) (by kernel_rfl) (fun _ _ _ h => h) (Or.inl ⟨by kernel_rfl, fun w2 hw => by go_simp⟩) trivial ?_
      simp only [Act.put, List.getElem_toArray, List.getElem_cons_succ, List.getElem_cons_zero, List.setIfInBounds_toArray, List.set_cons_zero, List.set_cons_succ]
      refine wpAnyH_ready (rs := [12]) (by kernel_rfl) (by simp) ?_
      refine AllReadyH.cons rfl (fun K hK => ?_) AllReadyH.nil
      go_simp
      refine hK.out _ _ trivial (fun _ => ?_)
      clear hK K
      refine wpAnyH_done (by kernel_rfl) ?_ _
      go_wp2_with (fail)
      refine bodyPost_end (results_none rfl _ _ _) rfl ?_
      exact ⟨rfl, HEND.out⟩
    ·
      refine stepR_append_run rfl (.tmp 9) (.tmp 10) 33 rfl 11 rfl 33 rfl (.slice (some ⟨wA.heap.size, 0, none⟩) 0 0) (.slice q m cq) (.slice p m d) (by go_simp) (by go_simp) hr7 ?_
      refine hK.out _ _ trivial (fun _ => ?_)
      clear hK K
      simp only [Act.put, List.setIfInBounds_toArray, List.set_cons_zero, List.set_cons_succ]
      refine wpAnyH_ready (rs := [4, 8]) (by kernel_rfl) (by simp) ?_
      refine AllReadyH.cons rfl (fun K hK => ?_) (AllReadyH.cons rfl (fun K hK => ?_) AllReadyH.nil)
      ·
        go_simp
        refine hK.out _ _ trivial (fun _ => ?_)
        clear hK K
        refine wpAnyH_ready (rs := [8]) (by kernel_rfl) (by simp) ?_
        refine AllReadyH.cons rfl (fun K hK => ?_) AllReadyH.nil
        go_simp
        rw [← HW8.out]
        refine hK.out _ _ trivial (fun _ => ?_)
        clear hK K
        refine wpAnyH_ready (rs := [9]) (by kernel_rfl) (by simp) ?_
        refine AllReadyH.cons rfl (fun K hK => ?_) AllReadyH.nil
        refine stepR_append_run rfl (.tmp 8) (.tmp 12) 51 rfl 13 rfl 51 rfl (.slice a n c) (.slice (some ⟨w7.heap.size, 0, none⟩) 1 1) (.slice a' n' c') (by go_simp) (by go_simp) hr9 ?_
        refine hK.out _ _ trivial (fun _ => ?_)
        clear hK K
        simp only [Act.put, List.setIfInBounds_toArray, List.set_cons_zero, List.set_cons_succ]
        refine wpAnyH_take (i := 10) (oi := _) (v := .pointer (some ⟨g, 0, none⟩)) rfl (by kernel_rfl) (by kernel_rfl) (by kernel_rfl) (fun _ _ _ h => h) (Or.inl ⟨by kernel_rfl, fun w2 hw => by go_simp⟩) trivial ?_
        refine wpAnyH_take (i := 11) (oi := _) (v := .pointer (some ⟨g, 1, none⟩)) rfl (by kernel_rfl) (by kernel_rfl) (by kernel_rfl) (fun _ _ _ h => h) (Or.inl ⟨by kernel_rfl, fun w2 hw => by go_simp⟩) trivial ?_
        simp only [Act.put, List.getElem_toArray, List.getElem_cons_succ, List.getElem_cons_zero, List.setIfInBounds_toArray, List.set_cons_zero, List.set_cons_succ]
        refine wpAnyH_ready (rs := [12]) (by kernel_rfl) (by simp) ?_
        refine AllReadyH.cons rfl (fun K hK => ?_) AllReadyH.nil
        go_simp
        refine hK.out _ _ trivial (fun _ => ?_)
        clear hK K
        refine wpAnyH_done (by kernel_rfl) ?_ _
        go_wp2_with (fail)
        refine bodyPost_end (results_none rfl _ _ _) rfl ?_
        exact ⟨rfl, HEND.out⟩
      ·
        go_simp
        rw [← HW8.out]
        refine hK.out _ _ trivial (fun _ => ?_)
        clear hK K
        refine wpAnyH_ready (rs := [4]) (by kernel_rfl) (by simp) ?_
        refine AllReadyH.cons rfl (fun K hK => ?_) AllReadyH.nil
        go_simp
        refine hK.out _ _ trivial (fun _ => ?_)
        clear hK K
        refine wpAnyH_ready (rs := [9]) (by kernel_rfl) (by simp) ?_
        refine AllReadyH.cons rfl (fun K hK => ?_) AllReadyH.nil
        refine stepR_append_run rfl (.tmp 8) (.tmp 12) 51 rfl 13 rfl 51 rfl (.slice a n c) (.slice (some ⟨w7.heap.size, 0, none⟩) 1 1) (.slice a' n' c') (by go_simp) (by go_simp) hr9 ?_
        refine hK.out _ _ trivial (fun _ => ?_)
        clear hK K
        simp only [Act.put, List.setIfInBounds_toArray, List.set_cons_zero, List.set_cons_succ]
        refine wpAnyH_take (i := 10) (oi := _) (v := .pointer (some ⟨g, 0, none⟩)) rfl (by kernel_rfl) (by kernel_rfl) (by kernel_rfl) (fun _ _ _ h => h) (Or.inl ⟨by kernel_rfl, fun w2 hw => by go_simp⟩) trivial ?_
        refine wpAnyH_take (i := 11) (oi := _) (v := .pointer (some ⟨g, 1, none⟩)) rfl (by kernel_rfl) (by kernel_rfl) (by kernel_rfl) (fun _ _ _ h => h) (Or.inl ⟨by kernel_rfl, fun w2 hw => by go_simp⟩) trivial ?_
        simp only [Act.put, List.getElem_toArray, List.getElem_cons_succ, List.getElem_cons_zero, List.setIfInBounds_toArray, List.set_cons_zero, List.set_cons_succ]
        refine wpAnyH_ready (rs := [12]) (by kernel_rfl) (by simp) ?_
        refine AllReadyH.cons rfl (fun K hK => ?_) AllReadyH.nil
        go_simp
        refine hK.out _ _ trivial (fun _ => ?_)
        clear hK K
        refine wpAnyH_done (by kernel_rfl) ?_ _
        go_wp2_with (fail)
        refine bodyPost_end (results_none rfl _ _ _) rfl ?_
        exact ⟨rfl, HEND.out⟩
end Go.Proofs.Ytmpknmcgljpfkaa
