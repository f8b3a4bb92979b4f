/- A wheel: Set. -/
import Derived.Test.YtoiencoojkahmaaGe
namespace Go.Proofs.Ytoiencoojkahmaa
open Go.RowKit Go.Maps
set_option linter.unusedVariables false
set_option maxRecDepth 100000
set_option maxHeartbeats 4000000

theorem qSet_arg {base : Nat} {w : World} {g mb : Nat} {sl : List Value} {N : Nat} {L : List (Int × Int)} (h : WAt base w g mb sl N L) (hb : base ≤ w.heap.size) (hN : N < 1000000000000000000) (d n : Int) (hd : IsI d) (hbad : d < 0 ∨ n < 1 ∨ 1073741824 < n) :
    Calls Try.prog 51 #[.pointer (some ⟨g, 0, none⟩), .int .i64 d, .int .i64 n] w fun e w' => e = .returned (.int .i64 (setT N L d n).1) ∧ WPost base w g mb sl N (setT N L d n).2 w' := by
  have K := qmade_in w h.1.c
  have c0 := h.1.c.map
  have H : Hid (WAt base w g mb sl N L) := h
  have HM : Hid (MapAt w mb L.length (mapT L)) := h.1.m
  have HD : Hid (IsI d) := hd
  have HB : Hid (base ≤ w.heap.size) := hb
  have hl : setT N L d n = (1, L) := by unfold setT; rw [if_pos hbad]
  rw [hl]
  clear h hl hd
  by_cases h1 : d < 0
  · clear hbad
    go_enter Try.func51, Try.ntmps51
    go_wp2_with (go_at_call 60; refine K.mono ?_; clear K; rintro e w' ⟨rfl, rfl⟩)
    go_ret
    exact ⟨rfl, WPost.refl H.out⟩
  · by_cases h2 : n < 1
    · clear hbad
      go_enter Try.func51, Try.ntmps51
      go_wp2_with (go_at_call 60; refine K.mono ?_; clear K; rintro e w' ⟨rfl, rfl⟩)
      go_ret
      exact ⟨rfl, WPost.refl H.out⟩
    · have h3 : 1073741824 < n := by omega
      clear hbad
      go_enter Try.func51, Try.ntmps51
      go_wp2_with (go_at_call 60; refine K.mono ?_; clear K; rintro e w' ⟨rfl, rfl⟩)
      go_ret
      exact ⟨rfl, WPost.refl H.out⟩
theorem qSet_full {base : Nat} {w : World} {g mb : Nat} {sl : List Value} {N : Nat} {L : List (Int × Int)} (h : WAt base w g mb sl N L) (hb : base ≤ w.heap.size) (hN : N < 1000000000000000000) (d n : Int) (hd : IsI d) (h1 : ¬ d < 0) (h2 : ¬ n < 1) (h3 : ¬ 1073741824 < n) (hf : findT L d = none) (hfull : 1024 ≤ L.length) :
    Calls Try.prog 51 #[.pointer (some ⟨g, 0, none⟩), .int .i64 d, .int .i64 n] w fun e w' => e = .returned (.int .i64 (setT N L d n).1) ∧ WPost base w g mb sl N (setT N L d n).2 w' := by
  have K := qmade_in w h.1.c
  have c0 := h.1.c.map
  have H : Hid (WAt base w g mb sl N L) := h
  have HM : Hid (MapAt w mb L.length (mapT L)) := h.1.m
  have HD : Hid (IsI d) := hd
  have HB : Hid (base ≤ w.heap.size) := hb
  have hl : setT N L d n = (9, L) := by unfold setT; rw [if_neg (by omega), if_pos ⟨hf, hfull⟩]
  rw [hl]
  have hv : (mapT L d).getD (.int .i64 0) = .int .i64 0 := by unfold mapT; rw [hf]; rfl
  have hs : (mapT L d).isSome = false := by unfold mapT; rw [hf]; rfl
  have HI : Hid (InvT N L) := h.2
  have hlen := h.1.m.lenT h.2
  clear h hl hd hf
  go_enter Try.func51, Try.ntmps51
  go_wp2_with (first
    | (go_at_call 60; refine K.mono ?_; clear K; rintro e w' ⟨rfl, rfl⟩)
    | (refine wpList_look_ok rfl (.tmp 28) (.tmp 29) 85 rfl 3 Try.underlying85 (.int .i64 0) qzero_int mb L.length (mapT L) rfl HM.out d rfl HD.out (.int .i64 0) hv false hs ?_))
  go_ret
  exact ⟨rfl, WPost.refl H.out⟩
theorem qSet_ok {base : Nat} {w : World} {g mb : Nat} {sl : List Value} {N : Nat} {L : List (Int × Int)} (h : WAt base w g mb sl N L) (hb : base ≤ w.heap.size) (hN : N < 1000000000000000000) (d n : Int) (hd : IsI d) (h1 : ¬ d < 0) (h2 : ¬ n < 1) (h3 : ¬ 1073741824 < n) (hfull : ¬ (findT L d = none ∧ 1024 ≤ L.length)) :
    Calls Try.prog 51 #[.pointer (some ⟨g, 0, none⟩), .int .i64 d, .int .i64 n] w fun e w' => e = .returned (.int .i64 (setT N L d n).1) ∧ WPost base w g mb sl N (setT N L d n).2 w' := by
  have K := qmade_in w h.1.c
  have c0 := h.1.c.map
  have H : Hid (WAt base w g mb sl N L) := h
  have HM : Hid (MapAt w mb L.length (mapT L)) := h.1.m
  have HD : Hid (IsI d) := hd
  have HB : Hid (base ≤ w.heap.size) := hb
  have hl : setT N L d n = (0, delT L d ++ [(d, (N : Int) + n)]) := by unfold setT; rw [if_neg (by omega), if_neg hfull]
  rw [hl]
  have HI : Hid (InvT N L) := h.2
  have HI2 : Hid (InvT N (delT L d ++ [(d, (N : Int) + n)])) := inv_add h.2 ⟨by omega, hd.2⟩ ⟨by omega, by omega⟩ hfull
  have hlen := h.1.m.lenT h.2
  obtain ⟨t, ht⟩ : ∃ t, (N : Int) + n = t := ⟨_, rfl⟩
  have ht0 : 0 ≤ t := by omega
  have ht1 : t ≤ 9223372036854775807 := by omega
  have ht2 : -9223372036854775808 ≤ (N : Int) + n := by omega
  have ht3 : (N : Int) + n ≤ 9223372036854775807 := by omega
  obtain ⟨r, hr, htr⟩ := slot_rest ht0
  have hr2 : (r : Int) < 64 := by omega
  rw [ht] at HI2 ⊢
  have HT : Hid (t % 64 = (r : Int)) := htr
  cases hf : findT L d with
  | none => ?_
  | some x => ?_
  case' none =>
    have hv : (mapT L d).getD (.int .i64 0) = .int .i64 0 := by unfold mapT; rw [hf]; rfl
    have hs : (mapT L d).isSome = false := by unfold mapT; rw [hf]; rfl
    have hnf : ¬ 1024 ≤ L.length := fun e => hfull ⟨hf, e⟩
    obtain ⟨w2, hw2⟩ : ∃ w2, w2 = w := ⟨_, rfl⟩
    have HS2 : Hid (WPost base w g mb sl N (delT L d) w2) := by rw [hw2, del_same hf]; exact WPost.refl h
    have HW2 : Hid (w2 = w) := hw2
    clear hw2
    clear h hl hd hf hfull
    go_enter Try.func51, Try.ntmps51
    go_upto_region 10 with (first
      | (go_at_call 60; refine K.mono ?_; clear K; rintro e w' ⟨rfl, rfl⟩)
      | (refine wpList_look_ok rfl (.tmp 28) (.tmp 29) 85 rfl 3 Try.underlying85 (.int .i64 0) qzero_int mb L.length (mapT L) rfl HM.out d rfl HD.out (.int .i64 0) hv false hs ?_))
    rw [← HW2.out]
    clear HW2
  case' some =>
    have KD := qdrop_in h hb hN d hd hf
    have hv : (mapT L d).getD (.int .i64 0) = .int .i64 x.2 := by unfold mapT; rw [hf]; rfl
    have hs : (mapT L d).isSome = true := by unfold mapT; rw [hf]; rfl
    clear h hl hd hf hfull
    go_enter Try.func51, Try.ntmps51
    go_upto_region 10 with (first
      | (go_at_call 60; refine K.mono ?_; clear K; rintro e w' ⟨rfl, rfl⟩)
      | (go_at_call 64; refine KD.mono ?_; clear KD; rintro e w2 ⟨rfl, h2⟩; have HS2 : Hid (WPost base w g mb sl N (delT L d) w2) := h2; clear h2)
      | (refine wpList_look_ok rfl (.tmp 28) (.tmp 29) 85 rfl 3 Try.underlying85 (.int .i64 0) qzero_int mb L.length (mapT L) rfl HM.out d rfl HD.out (.int .i64 x.2) hv true hs ?_))
  all_goals
    have HW2 : Hid (∃ sl2, WAt base w2 g mb sl2 N (delT L d) ∧ Fr (WX g mb sl) w w2 ∧ ∀ k, WX g mb sl2 k → k < w.heap.size → WX g mb sl k) := HS2.out
    obtain ⟨sl2, hw2a, hw2b, hw2c⟩ := HW2.out
    have H2 : Hid (WAt base w2 g mb sl2 N (delT L d)) := hw2a
    have HF2 : Hid (Fr (WX g mb sl) w w2) := hw2b
    have HX2 : Hid (∀ k, WX g mb sl2 k → k < w.heap.size → WX g mb sl k) := hw2c
    have HB2 : Hid (base ≤ w2.heap.size) := Nat.le_trans HB.out hw2b.size
    have HN2 : Hid ((delT L d).length ≤ 1024) := (inv_del HI.out d).few
    clear HW2 hw2a hw2b hw2c c0 hv hs hlen HS2 HM H hb
    have c0 := H2.out.1.c.map
    have cn := H2.out.1.c.now
    go_upto_region 13 with (refine wpList_put rfl (.tmp 56) (.tmp 57) (.tmp 58) 85 (.inl rfl) 3 Try.underlying85 mb (delT L d).length (mapT (delT L d)) rfl H2.out.1.m (by have := HN2.out; unfold maxLen; omega) d rfl HD.out (.int .i64 t) rfl ?_; intro w3 hm3 hf3 hs3)
    rw [htr]
    obtain ⟨wA, hwA⟩ : ∃ wA, wA = w3.drew := ⟨_, rfl⟩
    have FA : Hid (Fr (fun k => k = mb) w2 wA) := by rw [hwA]; exact hf3.drew
    have PA0 := H2.out.1.map_to (by rw [hwA]; exact hm3.fr ((Fr.refl (fun _ => False) _).drew) id) FA.out
    obtain ⟨mm, hmm⟩ : ∃ mm, (if (mapT (delT L d) d).isSome = true then (delT L d).length else (delT L d).length + 1) = mm := ⟨_, rfl⟩
    rw [hmm] at PA0
    have PA : Hid (WP base wA g mb sl2 (N : Int) mm (putM (mapT (delT L d)) d (.int .i64 t)) (fun r => slotT (delT L d) (r : Int))) := PA0
    clear PA0 hmm c0 cn hm3 hs3
    obtain ⟨a, c, hvs, hc⟩ := (PA.out.s r hr).form
    rw [iv_length] at hvs hc
    obtain ⟨nn, hnn⟩ : ∃ nn, (slotT (delT L d) (r : Int)).length = nn := ⟨_, rfl⟩
    rw [hnn] at hvs
    have HVS : Hid (sl2.getD r nilS = .slice a nn c) := hvs
    have HO : Hid (OwnAt wA 3 (.slice a nn c) (iv (slotT (delT L d) (r : Int)))) := by rw [← hvs]; exact PA.out.s r hr
    have cs : wA.cell? ⟨g, r, none⟩ = some (.slice a nn c) := by rw [← hvs]; exact PA.out.c.slot r hr
    have HLA : Hid (Fr (fun _ => False) wA (wA.alloc (.cells #[.int .i64 d] 3))) := (Fr.refl _ _).alloc _
    have cs2 : (wA.alloc (.cells #[.int .i64 d] 3)).cell? ⟨g, r, none⟩ = some (.slice a nn c) := (HLA.out.cell (p := ⟨g, r, none⟩) PA.out.c.lt id).trans cs
    obtain ⟨a5, n5, c5, w5, hrun, hn5, ho5, hf5, hl5⟩ := run_addI d HO.out (by have h1 := slot_few (delT L d) (r : Int); have h2 := HN2.out; omega)
    rw [← HVS.out] at hf5 hl5
    have hbA : base ≤ wA.heap.size := Nat.le_trans HB2.out FA.out.size
    have HS5 := PA.out.slot_to hbA hr hf5 ho5 hl5
    have cg5 := PA.out.c.fr hf5 (fun e => (PA.out.slot_ne r hr g e).1 rfl)
    have c5s : w5.cell? ⟨g, r, none⟩ = some (.slice a nn c) := by rw [cg5.slot r hr, HVS.out]
    have z5 : w5.frozen? ⟨g, r, none⟩ = false := cg5.frozen r
    have HEND : Hid (WPost base w g mb sl N (delT L d ++ [(d, t)]) (w5.setCell ⟨g, r, none⟩ (.slice a5 n5 c5))) := by
      refine WPost.trans HF2.out HX2.out ⟨_, HS5.1.wheel HI2.out rfl (mapT_add (del_not L d)).symm (fun q hq => ?_), (FA.out.mono (fun k _ e => .inr (.inl e))).trans HS5.2.1, fun k hk hl => HS5.2.2 k hk (Nat.lt_of_lt_of_le hl FA.out.size)⟩
      rw [slot_add]
      by_cases e : q = r
      · rw [if_pos e, e, if_pos HT.out]
      · rw [if_neg e, if_neg (by rw [HT.out]; omega), List.append_nil]
    clear hvs hc hnn hf5 hl5 hbA HS5 cg5 ho5 hn5 hf3
    refine wp_region_held_drew (S := fun _ => True) (by kernel_rfl) trivial (fun hHeld => ?_)
    refine wpAnyH_take (i := 0) (oi := _) (v := .pointer (some ⟨g, 0, none⟩)) rfl (by kernel_rfl) (by kernel_rfl) (by kernel_rfl) (fun _ _ _ h => h) (Or.inl ⟨by kernel_rfl, fun w2 hw => by go_simp⟩) trivial ?_
    refine wpAnyH_take (i := 1) (oi := _) (v := .int .i64 (r : Int)) rfl (by kernel_rfl) (by kernel_rfl) (by kernel_rfl) (fun _ _ _ h => h) (Or.inl ⟨by kernel_rfl, fun w2 hw => by go_simp⟩) trivial ?_
    refine wpAnyH_take (i := 2) (oi := _) (v := .pointer (some ⟨g, 0, none⟩)) rfl (by kernel_rfl) (by kernel_rfl) (by kernel_rfl) (fun _ _ _ h => h) (Or.inl ⟨by kernel_rfl, fun w2 hw => by go_simp⟩) trivial ?_
    refine wpAnyH_take (i := 3) (oi := _) (v := .int .i64 (r : Int)) rfl (by kernel_rfl) (by kernel_rfl) (by kernel_rfl) (fun _ _ _ h => h) (Or.inl ⟨by kernel_rfl, fun w2 hw => by go_simp⟩) trivial ?_
    refine wpAnyH_take (i := 4) (oi := _) (v := .pointer (some ⟨g, 0, none⟩)) rfl (by kernel_rfl) (by kernel_rfl) (by kernel_rfl) (fun _ _ _ h => h) (Or.inl ⟨by kernel_rfl, fun w2 hw => by go_simp⟩) trivial ?_
    refine wpAnyH_take (i := 5) (oi := _) (v := .pointer (some ⟨g, 0, none⟩)) rfl (by kernel_rfl) (by kernel_rfl) (by kernel_rfl) (fun _ _ _ h => h) (Or.inl ⟨by kernel_rfl, fun w2 hw => by go_simp⟩) trivial ?_
    refine wpAnyH_take (i := 6) (oi := _) (v := .pointer (some ⟨g, r, none⟩)) rfl (by kernel_rfl) (by kernel_rfl) (by kernel_rfl) (fun _ _ _ h => h) (Or.inl ⟨by kernel_rfl, fun w2 hw => by go_simp⟩) trivial ?_
    refine wpAnyH_take (i := 8) (oi := _) (v := .int .i64 d) rfl (by kernel_rfl) (by kernel_rfl) (by kernel_rfl) (fun _ _ _ h => h) (Or.inl ⟨by kernel_rfl, fun w2 hw => by go_simp⟩) trivial ?_
    refine wpAnyH_take (i := 11) (oi := _) (v := .pointer (some ⟨g, 0, none⟩)) rfl (by kernel_rfl) (by kernel_rfl) (by kernel_rfl) (fun _ _ _ h => h) (Or.inl ⟨by kernel_rfl, fun w2 hw => by go_simp⟩) trivial ?_
    refine wpAnyH_take (i := 12) (oi := _) (v := .pointer (some ⟨g, 0, none⟩)) rfl (by kernel_rfl) (by kernel_rfl) (by kernel_rfl) (fun _ _ _ h => h) (Or.inl ⟨by kernel_rfl, fun w2 hw => by go_simp⟩) trivial ?_
    simp only [Act.put, List.getElem_toArray, List.getElem_cons_succ, List.getElem_cons_zero, List.setIfInBounds_toArray, List.set_cons_zero, List.set_cons_succ]
    rw [← hwA]
    clear hwA
    refine wpAnyH_ready (rs := [7, 9]) (by kernel_rfl) (by simp) ?_
    refine AllReadyH.cons rfl (fun K hK => ?_) (AllReadyH.cons rfl (fun K hK => ?_) AllReadyH.nil)
    ·
      go_simp
      refine hK.out _ _ trivial (fun _ => ?_)
      clear hK K
      refine wpAnyH_ready (rs := [9]) (by kernel_rfl) (by simp) ?_
      refine AllReadyH.cons rfl (fun K hK => ?_) AllReadyH.nil
      go_simp
      refine hK.out _ _ trivial (fun _ => ?_)
      clear hK K
      refine wpAnyH_ready (rs := [10]) (by kernel_rfl) (by simp) ?_
      refine AllReadyH.cons rfl (fun K hK => ?_) AllReadyH.nil
      refine stepR_append_runI rfl (.tmp 68) (.tmp 70) 38 rfl 71 rfl 38 rfl (.slice a nn c) (.slice (some ⟨wA.heap.size, 0, none⟩) 1 1) (.slice a5 n5 c5) (by go_simp) (by go_simp) hrun ?_
      refine hK.out _ _ trivial (fun _ => ?_)
      clear hK K
      simp only [Act.put, List.setIfInBounds_toArray, List.set_cons_zero, List.set_cons_succ]
      refine wpAnyH_take (i := 13) (oi := _) (v := .pointer (some ⟨g, r, none⟩)) rfl (by kernel_rfl) (by kernel_rfl) (by kernel_rfl) (fun _ _ _ h => h) (Or.inl ⟨by kernel_rfl, fun w2 hw => by go_simp⟩) trivial ?_
      simp only [Act.put, List.getElem_toArray, List.getElem_cons_succ, List.getElem_cons_zero, List.setIfInBounds_toArray, List.set_cons_zero, List.set_cons_succ]
      refine wpAnyH_ready (rs := [14]) (by kernel_rfl) (by simp) ?_
      refine AllReadyH.cons rfl (fun K hK => ?_) AllReadyH.nil
      go_simp
      refine hK.out _ _ trivial (fun _ => ?_)
      clear hK K
      refine wpAnyH_done (by kernel_rfl) ?_ _
      go_wp2_with (fail)
      go_ret
      exact ⟨rfl, HEND.out⟩
    ·
      go_simp
      refine hK.out _ _ trivial (fun _ => ?_)
      clear hK K
      refine wpAnyH_ready (rs := [7]) (by kernel_rfl) (by simp) ?_
      refine AllReadyH.cons rfl (fun K hK => ?_) AllReadyH.nil
      go_simp
      refine hK.out _ _ trivial (fun _ => ?_)
      clear hK K
      refine wpAnyH_ready (rs := [10]) (by kernel_rfl) (by simp) ?_
      refine AllReadyH.cons rfl (fun K hK => ?_) AllReadyH.nil
      refine stepR_append_runI rfl (.tmp 68) (.tmp 70) 38 rfl 71 rfl 38 rfl (.slice a nn c) (.slice (some ⟨wA.heap.size, 0, none⟩) 1 1) (.slice a5 n5 c5) (by go_simp) (by go_simp) hrun ?_
      refine hK.out _ _ trivial (fun _ => ?_)
      clear hK K
      simp only [Act.put, List.setIfInBounds_toArray, List.set_cons_zero, List.set_cons_succ]
      refine wpAnyH_take (i := 13) (oi := _) (v := .pointer (some ⟨g, r, none⟩)) rfl (by kernel_rfl) (by kernel_rfl) (by kernel_rfl) (fun _ _ _ h => h) (Or.inl ⟨by kernel_rfl, fun w2 hw => by go_simp⟩) trivial ?_
      simp only [Act.put, List.getElem_toArray, List.getElem_cons_succ, List.getElem_cons_zero, List.setIfInBounds_toArray, List.set_cons_zero, List.set_cons_succ]
      refine wpAnyH_ready (rs := [14]) (by kernel_rfl) (by simp) ?_
      refine AllReadyH.cons rfl (fun K hK => ?_) AllReadyH.nil
      go_simp
      refine hK.out _ _ trivial (fun _ => ?_)
      clear hK K
      refine wpAnyH_done (by kernel_rfl) ?_ _
      go_wp2_with (fail)
      go_ret
      exact ⟨rfl, HEND.out⟩
theorem qSet_in {base : Nat} {w : World} {g mb : Nat} {sl : List Value} {N : Nat} {L : List (Int × Int)} (h : WAt base w g mb sl N L) (hb : base ≤ w.heap.size) (hN : N < 1000000000000000000) (d n : Int) (hd : IsI d) :
    Calls Try.prog 51 #[.pointer (some ⟨g, 0, none⟩), .int .i64 d, .int .i64 n] w fun e w' => e = .returned (.int .i64 (setT N L d n).1) ∧ WPost base w g mb sl N (setT N L d n).2 w' := by
  by_cases h1 : d < 0
  · exact qSet_arg h hb hN d n hd (.inl h1)
  by_cases h2 : n < 1
  · exact qSet_arg h hb hN d n hd (.inr (.inl h2))
  by_cases h3 : 1073741824 < n
  · exact qSet_arg h hb hN d n hd (.inr (.inr h3))
  by_cases hf : findT L d = none ∧ 1024 ≤ L.length
  · exact qSet_full h hb hN d n hd h1 h2 h3 hf.1 hf.2
  · exact qSet_ok h hb hN d n hd h1 h2 h3 hf
end Go.Proofs.Ytoiencoojkahmaa
