/- The document's wheel: Set. -/
import Derived.Test.YtoiencoojkahmaaGt
import Derived.Test.YtoiencoojkahmaaGe
namespace Go.Proofs.Ytoiencoojkahmaa
open Go.RowKit
set_option linter.unusedVariables false
set_option maxRecDepth 100000
set_option maxHeartbeats 4000000

theorem cancel_del (L : List (Int × Int)) (d : Int) : (cancelT L d).2 = delT L d := by
  unfold cancelT
  split
  · rename_i h; exact (del_same h).symm
  · rfl
theorem RPo.trans {base : Nat} {w w1 w2 : World} {g : Nat} {vL uL : Value} {N : Nat} {L : List (Int × Int)} (f : Fr (RX2 g vL) w w1) (hs : ∀ k, uL.ownBlock = some k → k < w.heap.size → vL.ownBlock = some k) (h : RPo base w1 g uL N L w2) : RPo base w g vL N L w2 := by
  obtain ⟨zL, h1, h2, h3⟩ := h
  refine ⟨zL, h1, ?_, fun k hk hl => hs k (h3 k hk (Nat.lt_of_lt_of_le hl f.size)) hl⟩
  have f' : Fr (fun k => RX2 g vL k ∨ w.heap.size ≤ k) w w1 := f.mono (fun k _ e => .inl e)
  have f2 : Fr (fun k => RX2 g vL k ∨ w.heap.size ≤ k) w1 w2 := h2.mono (fun k _ e => by
    by_cases hl : k < w.heap.size
    · rcases e with e | e
      · exact .inl (.inl e)
      · exact .inl (.inr (hs k e hl))
    · exact .inr (by omega))
  exact (f'.trans f2).mono (fun k hk e => by
    rcases e with e | e
    · exact e
    · omega)
/-- append(l, t) of timers, behind the block in which t lies. -/
theorem run_addT {w : World} {v : Value} {M : List (Int × Int)} (d t : Int) (hM : TowAt w v M) (hfew : M.length ≤ 4000) :
    ∃ a' n' c' w', (Builtin.append_ #[91, 91] 91 #[v, .slice (some ⟨w.heap.size, 0, none⟩) 1 1]).run Try.prog (w.alloc (.cells #[.int .i64 d, .int .i64 t] 95)) = .ok (.slice a' n' c') w' ∧ n' = M.length + 1 ∧ TowAt w' (.slice a' n' c') (M ++ [(d, t)]) ∧ Fr (fun k => v.ownBlock = some k) w w' ∧ ((Value.slice a' n' c').ownBlock = v.ownBlock ∨ ∃ k, (Value.slice a' n' c').ownBlock = some k ∧ w.heap.size ≤ k) := by
  have hal : Fr (fun _ => False) w (w.alloc (.cells #[.int .i64 d, .int .i64 t] 95)) := (Fr.refl _ _).alloc _
  obtain ⟨a', c', w', hr, hR, hF, hk⟩ := tow_append (hM.fr hal (fun _ _ => id)) (some ⟨w.heap.size, 0, none⟩) 1 1 (M := [(d, t)]) rfl (fun _ => ⟨_, rfl, fun j u hj => by
    rw [add_none]
    refine cell_of_heap (heap_alloc_new w _) ?_
    rw [Nat.zero_add]
    simpa [rowT] using hj⟩) (by simp; omega)
  have hlen : (M ++ [(d, t)]).length = M.length + 1 := by simp
  rw [hlen] at hr hR hk
  refine ⟨a', _, c', w', hr, rfl, hR, (hal.mono (fun _ _ e => e.elim)).trans hF, ?_⟩
  rcases hk with e | e
  · exact .inl e
  · exact .inr ⟨_, e, by simp⟩
theorem rqSet_arg {base : Nat} {w : World} {g N : Nat} {L : List (Int × Int)} {vL : Value} (h : RWA base w g N L vL) (hb : base ≤ w.heap.size) (hN : N < 1000000000000000000) (d n : Int) (hd : IsI d) (hbad : d < 0 ∨ n < 1 ∨ 1073741824 < n) :
    Calls Try.prog 30 #[.pointer (some ⟨g, 0, none⟩), .int .i64 d, .int .i64 n] w fun e w' => e = .returned (.int .i64 (setT N L d n).1) ∧ RPo base w g vL N (setT N L d n).2 w' := by
  have H : Hid (RWA base w g N L vL) := h
  have hl : setT N L d n = (1, L) := by unfold setT; rw [if_pos hbad]
  rw [hl]
  clear h hl hd
  by_cases h1 : d < 0
  · clear hbad
    go_enter Try.func30, Try.ntmps30
    go_wp2_with (fail)
    go_ret
    exact ⟨rfl, RPo.refl H.out⟩
  · by_cases h2 : n < 1
    · clear hbad
      go_enter Try.func30, Try.ntmps30
      go_wp2_with (fail)
      go_ret
      exact ⟨rfl, RPo.refl H.out⟩
    · have h3 : 1073741824 < n := by omega
      clear hbad
      go_enter Try.func30, Try.ntmps30
      go_wp2_with (fail)
      go_ret
      exact ⟨rfl, RPo.refl H.out⟩
theorem rqSet_full {base : Nat} {w : World} {g N : Nat} {L : List (Int × Int)} {vL : Value} (h : RWA base w g N L vL) (hb : base ≤ w.heap.size) (hN : N < 1000000000000000000) (d n : Int) (hd : IsI d) (h1 : ¬ d < 0) (h2 : ¬ n < 1) (h3 : ¬ 1073741824 < n) (hf : findT L d = none) (hfull : 1024 ≤ L.length) :
    Calls Try.prog 30 #[.pointer (some ⟨g, 0, none⟩), .int .i64 d, .int .i64 n] w fun e w' => e = .returned (.int .i64 (setT N L d n).1) ∧ RPo base w g vL N (setT N L d n).2 w' := by
  have H : Hid (RWA base w g N L vL) := h
  have hl : setT N L d n = (9, L) := by unfold setT; rw [if_neg (by omega), if_pos ⟨hf, hfull⟩]
  rw [hl]
  have K := rqfind_none h d hf
  obtain ⟨a, c, rfl, hcap⟩ := h.row.form
  obtain ⟨c0, c1⟩ := h.cells
  obtain ⟨len, hlen⟩ : ∃ len, L.length = len := ⟨_, rfl⟩
  rw [hlen] at c1 hfull H
  rw [hlen]
  have hfull2 : (1024 : Int) ≤ (len : Int) := by omega
  have hlen2 : (len : Int) ≤ 2000 := by have := h.inv.few; omega
  clear h hl hd hf
  go_enter Try.func30, Try.ntmps30
  go_wp2_with (go_at_call 52; refine K.mono ?_; clear K; rintro e w' ⟨rfl, rfl⟩)
  go_ret
  exact ⟨rfl, RPo.refl H.out⟩
theorem rqSet_ok {base : Nat} {w : World} {g N : Nat} {L : List (Int × Int)} {vL : Value} (h : RWA base w g N L vL) (hb : base ≤ w.heap.size) (hN : N < 1000000000000000000) (d n : Int) (hd : IsI d) (h1 : ¬ d < 0) (h2 : ¬ n < 1) (h3 : ¬ 1073741824 < n) (hfull : ¬ (findT L d = none ∧ 1024 ≤ L.length)) :
    Calls Try.prog 30 #[.pointer (some ⟨g, 0, none⟩), .int .i64 d, .int .i64 n] w fun e w' => e = .returned (.int .i64 (setT N L d n).1) ∧ RPo base w g vL N (setT N L d n).2 w' := by
  have H : Hid (RWA base w g N L vL) := h
  have hl : setT N L d n = (0, delT L d ++ [(d, (N : Int) + n)]) := by unfold setT; rw [if_neg (by omega), if_neg hfull]
  rw [hl]
  have HI2 : Hid (InvT N (delT L d ++ [(d, (N : Int) + n)])) := inv_add h.inv ⟨by omega, hd.2⟩ ⟨by omega, by omega⟩ hfull
  have HI1 : Hid (InvT N (delT L d)) := inv_del h.inv d
  obtain ⟨t, ht⟩ : ∃ t, (N : Int) + n = t := ⟨_, rfl⟩
  have ht0 : 0 ≤ t := by omega
  have ht1 : t ≤ 9223372036854775807 := by omega
  have ht2 : -9223372036854775808 ≤ (N : Int) + n := by omega
  have ht3 : (N : Int) + n ≤ 9223372036854775807 := by omega
  have hwrap : IntKind.i64.wrap t = t := by have h9 : wrap64 t = t := (by unfold wrap64; omega); rw [IntWalk.i64_left]; exact h9
  rw [ht] at HI2 ⊢
  have KC := rqCancel_in h hb d
  rw [cancel_del] at KC
  have HB : Hid (base ≤ w.heap.size) := hb
  obtain ⟨a, c, hvL, hcap⟩ := h.row.form
  obtain ⟨c0, c1⟩ := h.cells
  obtain ⟨len, hlen⟩ : ∃ len, L.length = len := ⟨_, rfl⟩
  rw [hlen] at hvL
  rw [hvL] at c1
  have hlen2 : (len : Int) ≤ 2000 := by have := h.inv.few; omega
  cases hf : findT L d with
  | none => ?_
  | some x => ?_
  case' none =>
    have K := rqfind_none h d hf
    have hnf : ¬ (1024 : Int) ≤ (len : Int) := fun e => hfull ⟨hf, by omega⟩
    clear h hl hd hf hfull hvL hlen
    go_enter Try.func30, Try.ntmps30
    go_upto_region 6 with (first
      | (go_at_call 52; refine K.mono ?_; clear K; rintro e w' ⟨rfl, rfl⟩)
      | (go_at_call 53; refine KC.mono ?_; clear KC; rintro e w2 ⟨rfl, uL, hu1, hu2, hu3⟩))
  case' some =>
    have K := rqfind_some h d hf
    clear h hl hd hf hfull hvL hlen
    go_enter Try.func30, Try.ntmps30
    go_upto_region 6 with (first
      | (go_at_call 52; refine K.mono ?_; clear K; rintro e w' ⟨⟨i, rfl, hi⟩, rfl⟩; have hi0 : ¬ (i : Int) < 0 := (by omega))
      | (go_at_call 53; refine KC.mono ?_; clear KC; rintro e w2 ⟨rfl, uL, hu1, hu2, hu3⟩))
  all_goals
    have H2 : Hid (RWA base w2 g N (delT L d) uL) := hu1
    have HF2 : Hid (Fr (RX2 g vL) w w2) := hu2
    have HX2 : Hid (∀ k, uL.ownBlock = some k → k < w.heap.size → vL.ownBlock = some k) := hu3
    clear hu1 hu2 hu3 c0 c1
    obtain ⟨wA, hwA⟩ : ∃ wA, wA = w2.drew := ⟨_, rfl⟩
    have FA : Hid (Fr (fun _ => False) w2 wA) := by rw [hwA]; exact (Fr.refl _ _).drew
    have HA : Hid (RWA base wA g N (delT L d) uL) := H2.out.later FA.out
    obtain ⟨k0, k1⟩ := HA.out.cells
    have HLA : Hid (Fr (fun _ => False) wA (wA.alloc (.cells #[.int .i64 d, .int .i64 t] 95))) := (Fr.refl _ _).alloc _
    obtain ⟨kb0, kb1⟩ := (HA.out.later HLA.out).cells
    obtain ⟨a5, n5, c5, w5, hrun, hn5, ho5, hf5, hl5⟩ := run_addT d t HA.out.row (by have := HI1.out.few; omega)
    have H5b : Hid (w5.heap[g]? = some (.cells #[.int .i64 (N : Int), uL] 93 (0, 0))) := (hf5.block g (lt_of_heap HA.out.blk) (fun e => HA.out.ne g e rfl)).trans HA.out.blk
    have k5 : w5.cell? ⟨g, 0, none⟩ = some (.int .i64 (N : Int)) := cell_of_heap H5b.out rfl
    have k51 : w5.cell? ⟨g, 1, none⟩ = some uL := cell_of_heap H5b.out rfl
    have z5 : w5.frozen? ⟨g, 1, none⟩ = false := frozen_of_heap H5b.out
    have H6b : Hid ((w5.setCell ⟨g, 1, none⟩ (.slice a5 n5 c5)).heap[g]? = some (.cells #[.int .i64 (N : Int), .slice a5 n5 c5] 93 (0, 0))) := by show _ = _; rw [block_set H5b.out]; rfl
    have k6 : (w5.setCell ⟨g, 1, none⟩ (.slice a5 n5 c5)).cell? ⟨g, 0, none⟩ = some (.int .i64 (N : Int)) := cell_of_heap H6b.out rfl
    have HEND : Hid (RPo base w g vL N (delT L d ++ [(d, t)]) (w5.setCell ⟨g, 1, none⟩ (.slice a5 n5 c5))) := by
      have f6 : Fr (fun k => k = g) w5 (w5.setCell ⟨g, 1, none⟩ (.slice a5 n5 c5)) := (Fr.refl _ _).setB _ _
      have hbA : base ≤ wA.heap.size := Nat.le_trans (Nat.le_trans HB.out HF2.out.size) FA.out.size
      refine RPo.trans HF2.out HX2.out ⟨.slice a5 n5 c5, ⟨H6b.out, ho5.fr f6 (fun k hk e => ?_), HI2.out, HA.out.bg, fun k hk => ?_⟩, ((FA.out.mono (fun _ _ e => e.elim)).trans (hf5.mono (fun k _ e => .inr e))).trans (f6.mono (fun k _ e => .inl e)), fun k hk hl => ?_⟩
      · obtain ⟨-, cur, hc⟩ := ho5.lt k hk
        exact tag_neI hc H5b.out (by decide) e
      · rcases hl5 with e | ⟨k', e, hk'⟩
        · rw [e] at hk; exact HA.out.bL k hk
        · rw [e] at hk; cases hk; omega
      · rcases hl5 with e | ⟨k', e, hk'⟩
        · rw [e] at hk; exact hk
        · rw [e] at hk; cases hk; have := FA.out.size; omega
    clear hn5 ho5 hf5 hl5
    refine wp_region_held_drew (S := fun w2 => w2.cell? ⟨g, 0, none⟩ = some (.int .i64 (N : Int))) (by kernel_rfl) (by rw [← hwA]; exact k0) (fun hHeld => ?_)
    refine wpAnyH_take (i := 0) (oi := _) (v := .pointer (some ⟨g, 0, none⟩)) rfl (by kernel_rfl) (by kernel_rfl) (by kernel_rfl) (fun _ _ _ h => h) (Or.inl ⟨by kernel_rfl, fun w2 hw => by go_simp⟩) hHeld ?_
    refine wpAnyH_take (i := 1) (oi := _) (v := .pointer (some ⟨g, 0, none⟩)) rfl (by kernel_rfl) (by kernel_rfl) (by kernel_rfl) (fun _ _ _ h => h) (Or.inl ⟨by kernel_rfl, fun w2 hw => by go_simp⟩) hHeld ?_
    refine wpAnyH_take (i := 2) (oi := _) (v := .pointer (some ⟨g, 0, none⟩)) rfl (by kernel_rfl) (by kernel_rfl) (by kernel_rfl) (fun _ _ _ h => h) (Or.inl ⟨by kernel_rfl, fun w2 hw => by go_simp⟩) hHeld ?_
    refine wpAnyH_take (i := 3) (oi := _) (v := .pointer (some ⟨g, 1, none⟩)) rfl (by kernel_rfl) (by kernel_rfl) (by kernel_rfl) (fun _ _ _ h => h) (Or.inl ⟨by kernel_rfl, fun w2 hw => by go_simp⟩) hHeld ?_
    refine wpAnyH_take (i := 5) (oi := _) (v := .int .i64 d) rfl (by kernel_rfl) (by kernel_rfl) (by kernel_rfl) (fun _ _ _ h => h) (Or.inl ⟨by kernel_rfl, fun w2 hw => by go_simp⟩) hHeld ?_
    refine wpAnyH_take (i := 6) (oi := _) (v := .pointer (some ⟨g, 0, none⟩)) rfl (by kernel_rfl) (by kernel_rfl) (by kernel_rfl) (fun _ _ _ h => h) (Or.inl ⟨by kernel_rfl, fun w2 hw => by go_simp⟩) hHeld ?_
    refine wpAnyH_take (i := 7) (oi := _) (v := .pointer (some ⟨g, 0, none⟩)) rfl (by kernel_rfl) (by kernel_rfl) (by kernel_rfl) (fun _ _ _ h => h) (Or.inl ⟨by kernel_rfl, fun w2 hw => by go_simp⟩) hHeld ?_
    refine wpAnyH_take (i := 8) (oi := _) (v := .pointer (some ⟨g, 0, none⟩)) rfl (by kernel_rfl) (by kernel_rfl) (by kernel_rfl) (fun _ _ _ h => h) (Or.inl ⟨by kernel_rfl, fun w2 hw => by go_simp⟩) hHeld ?_
    refine wpAnyH_take (i := 9) (oi := _) (v := .int .i64 (N : Int)) rfl (by kernel_rfl) (by kernel_rfl) (by kernel_rfl) (fun _ _ _ h => h) (Or.inl ⟨by kernel_rfl, fun w2 hw => by have x0 : w2.cell? ⟨g, 0, none⟩ = some (.int .i64 (N : Int)) := hw; go_simp⟩) hHeld ?_
    refine wpAnyH_take (i := 10) (oi := _) (v := .int .i64 n) rfl (by kernel_rfl) (by kernel_rfl) (by kernel_rfl) (fun _ _ _ h => h) (Or.inl ⟨by kernel_rfl, fun w2 hw => by go_simp⟩) hHeld ?_
    refine wpAnyH_take (i := 11) (oi := _) (v := .int .i64 t) rfl (by kernel_rfl) (by kernel_rfl) (by kernel_rfl) (fun _ _ _ h => h) (Or.inl ⟨by kernel_rfl, fun w2 hw => by go_simp⟩) hHeld ?_
    refine wpAnyH_take (i := 12) (oi := _) (v := .agg #[.int .i64 d, .int .i64 t]) rfl (by kernel_rfl) (by kernel_rfl) (by kernel_rfl) (fun _ _ _ h => h) (Or.inl ⟨by kernel_rfl, fun w2 hw => by go_simp⟩) hHeld ?_
    simp only [Act.put, List.getElem_toArray, List.getElem_cons_succ, List.getElem_cons_zero, List.setIfInBounds_toArray, List.set_cons_zero, List.set_cons_succ]
    clear hHeld
    rw [← hwA]
    clear hwA
    refine wpAnyH_ready (rs := [4, 13]) (by kernel_rfl) (by simp) ?_
    refine AllReadyH.cons rfl (fun K hK => ?_) (AllReadyH.cons rfl (fun K hK => ?_) AllReadyH.nil)
    ·
      go_simp
      refine hK.out _ _ k0 (fun _ => ?_)
      clear hK K
      refine wpAnyH_ready (rs := [13]) (by kernel_rfl) (by simp) ?_
      refine AllReadyH.cons rfl (fun K hK => ?_) AllReadyH.nil
      go_simp
      refine hK.out _ _ kb0 (fun _ => ?_)
      clear hK K
      refine wpAnyH_ready (rs := [14]) (by kernel_rfl) (by simp) ?_
      refine AllReadyH.cons rfl (fun K hK => ?_) AllReadyH.nil
      refine stepR_append_runI rfl (.tmp 36) (.tmp 45) 91 rfl 46 rfl 91 rfl uL (.slice (some ⟨wA.heap.size, 0, none⟩) 1 1) (.slice a5 n5 c5) (by go_simp) (by go_simp) hrun ?_
      refine hK.out _ _ k5 (fun hHeld => ?_)
      clear hK K
      simp only [Act.put, List.setIfInBounds_toArray, List.set_cons_zero, List.set_cons_succ]
      refine wpAnyH_take (i := 15) (oi := _) (v := .pointer (some ⟨g, 0, none⟩)) rfl (by kernel_rfl) (by kernel_rfl) (by kernel_rfl) (fun _ _ _ h => h) (Or.inl ⟨by kernel_rfl, fun w2 hw => by go_simp⟩) hHeld ?_
      refine wpAnyH_take (i := 16) (oi := _) (v := .pointer (some ⟨g, 1, none⟩)) rfl (by kernel_rfl) (by kernel_rfl) (by kernel_rfl) (fun _ _ _ h => h) (Or.inl ⟨by kernel_rfl, fun w2 hw => by go_simp⟩) hHeld ?_
      simp only [Act.put, List.getElem_toArray, List.getElem_cons_succ, List.getElem_cons_zero, List.setIfInBounds_toArray, List.set_cons_zero, List.set_cons_succ]
      refine wpAnyH_ready (rs := [17]) (by kernel_rfl) (by simp) ?_
      refine AllReadyH.cons rfl (fun K hK => ?_) AllReadyH.nil
      go_simp
      refine hK.out _ _ k6 (fun _ => ?_)
      clear hK K
      refine wpAnyH_done (by kernel_rfl) ?_ _
      go_wp2_with (fail)
      go_ret
      exact ⟨rfl, HEND.out⟩
    ·
      go_simp
      refine hK.out _ _ kb0 (fun _ => ?_)
      clear hK K
      refine wpAnyH_ready (rs := [4]) (by kernel_rfl) (by simp) ?_
      refine AllReadyH.cons rfl (fun K hK => ?_) AllReadyH.nil
      go_simp
      refine hK.out _ _ kb0 (fun _ => ?_)
      clear hK K
      refine wpAnyH_ready (rs := [14]) (by kernel_rfl) (by simp) ?_
      refine AllReadyH.cons rfl (fun K hK => ?_) AllReadyH.nil
      refine stepR_append_runI rfl (.tmp 36) (.tmp 45) 91 rfl 46 rfl 91 rfl uL (.slice (some ⟨wA.heap.size, 0, none⟩) 1 1) (.slice a5 n5 c5) (by go_simp) (by go_simp) hrun ?_
      refine hK.out _ _ k5 (fun hHeld => ?_)
      clear hK K
      simp only [Act.put, List.setIfInBounds_toArray, List.set_cons_zero, List.set_cons_succ]
      refine wpAnyH_take (i := 15) (oi := _) (v := .pointer (some ⟨g, 0, none⟩)) rfl (by kernel_rfl) (by kernel_rfl) (by kernel_rfl) (fun _ _ _ h => h) (Or.inl ⟨by kernel_rfl, fun w2 hw => by go_simp⟩) hHeld ?_
      refine wpAnyH_take (i := 16) (oi := _) (v := .pointer (some ⟨g, 1, none⟩)) rfl (by kernel_rfl) (by kernel_rfl) (by kernel_rfl) (fun _ _ _ h => h) (Or.inl ⟨by kernel_rfl, fun w2 hw => by go_simp⟩) hHeld ?_
      simp only [Act.put, List.getElem_toArray, List.getElem_cons_succ, List.getElem_cons_zero, List.setIfInBounds_toArray, List.set_cons_zero, List.set_cons_succ]
      refine wpAnyH_ready (rs := [17]) (by kernel_rfl) (by simp) ?_
      refine AllReadyH.cons rfl (fun K hK => ?_) AllReadyH.nil
      go_simp
      refine hK.out _ _ k6 (fun _ => ?_)
      clear hK K
      refine wpAnyH_done (by kernel_rfl) ?_ _
      go_wp2_with (fail)
      go_ret
      exact ⟨rfl, HEND.out⟩
theorem rqSet_in {base : Nat} {w : World} {g N : Nat} {L : List (Int × Int)} {vL : Value} (h : RWA base w g N L vL) (hb : base ≤ w.heap.size) (hN : N < 1000000000000000000) (d n : Int) (hd : IsI d) :
    Calls Try.prog 30 #[.pointer (some ⟨g, 0, none⟩), .int .i64 d, .int .i64 n] w fun e w' => e = .returned (.int .i64 (setT N L d n).1) ∧ RPo base w g vL N (setT N L d n).2 w' := by
  by_cases h1 : d < 0
  · exact rqSet_arg h hb hN d n hd (.inl h1)
  by_cases h2 : n < 1
  · exact rqSet_arg h hb hN d n hd (.inr (.inl h2))
  by_cases h3 : 1073741824 < n
  · exact rqSet_arg h hb hN d n hd (.inr (.inr h3))
  by_cases hf : findT L d = none ∧ 1024 ≤ L.length
  · exact rqSet_full h hb hN d n hd h1 h2 h3 hf.1 hf.2
  · exact rqSet_ok h hb hN d n hd h1 h2 h3 hf
end Go.Proofs.Ytoiencoojkahmaa
