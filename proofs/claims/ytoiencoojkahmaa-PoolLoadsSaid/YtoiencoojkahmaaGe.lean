/- A wheel: drop, Cancel. -/
import Derived.Test.YtoiencoojkahmaaGc
import Derived.Test.YtoiencoojkahmaaGd
import Derived.Test.YtoiencoojkahmaaXp
import Derived.Deep.RegionHeldLaw
import Derived.BigQuiet
import Derived.Test.YtoiencoojkahmaaIv
namespace Go.Proofs.Ytoiencoojkahmaa
open Go.RowKit Go.Maps
set_option linter.unusedVariables false
set_option maxRecDepth 100000
set_option maxHeartbeats 4000000

theorem stepR_del {ops : Array Oper} {o : Oper} {a : Act} {w : World} {K : Act → World → Prop} {Q : Exit → Act → World → Prop} {E : Prop} (hgd : o.guard = none) (m x : Operand) (t : TypeId) (hop : o.op = Op.call { callee := Callee.builtin Builtin.delete, args := #[m, x], argTypes := #[t, 3] }) (e : TypeId) (ht : Try.prog.underlying t = some (.map 3 e))
    (b n : Nat) (M : Int → Option Value) (hm : a.eval m = .map (some b)) (h : MapAt w b n M) (k : Int) (hx : a.eval x = .int .i64 k) (hk : IsI k)
    (hK : ∀ w', MapAt w' b n (delM M k) → Fr (fun j => j = b) w w' → w'.heap.size = w.heap.size → K (a.put o.dst (.tuple #[])) w') : if Region.wanted o (yielded ops a.tmps) = true then Oper.wp Try.prog o a w K Q else E := by
  have hw : Region.wanted o (yielded ops a.tmps) = true := by simp [Region.wanted, hgd]
  rw [if_pos hw]
  obtain ⟨w', hrun, h1, h2, h3⟩ := h.del ht hk o.type
  unfold Oper.wp
  simp [execOp, hop, resolve, invoke, builtin, hm, hx, hrun, Result.andThen]
  exact hK w' h1 h2 h3
theorem stepR_append_runI {P : Program} {ops : Array Oper} {o : Oper} {a : Act} {w w' : World} {K : Act → World → Prop} {Q : Exit → Act → World → Prop} {E : Prop} (hgd : o.guard = none) (s x : Operand) (t : TypeId)
    (ho : o.op = .call { callee := .builtin .append, args := #[s, x], argTypes := #[t, t] }) (dst : Nat) (hdst : o.dst = some dst) (ty : TypeId) (hty : o.type = ty) (vs vx v' : Value) (hs : a.eval s = vs) (hx : a.eval x = vx)
    (hr : (Builtin.append_ #[t, t] ty #[vs, vx]).run P w = .ok v' w') (h : K (a.put (some dst) v') w') : if Region.wanted o (yielded ops a.tmps) = true then Oper.wp P o a w K Q else E := by
  have hw : Region.wanted o (yielded ops a.tmps) = true := by simp [Region.wanted, hgd]
  rw [if_pos hw]
  subst hty
  unfold Oper.wp execOp
  simp only [ho, resolve, invoke, builtin, Sem.run_bind, Sem.run_pure, Result.andThen_ok, List.map_toArray, List.map_cons, List.map_nil, hs, hx, hr]
  rw [← hdst] at h
  exact h
/-- append(l, d) of ints, behind the block in which d lies. -/
theorem run_addI {w : World} {v : Value} {M : List Int} (d : Int) (hM : OwnAt w 3 v (iv M)) (hfew : M.length ≤ 4096) :
    ∃ a' n' c' w', (Builtin.append_ #[38, 38] 38 #[v, .slice (some ⟨w.heap.size, 0, none⟩) 1 1]).run Try.prog (w.alloc (.cells #[.int .i64 d] 3)) = .ok (.slice a' n' c') w' ∧ n' = M.length + 1 ∧ OwnAt w' 3 (.slice a' n' c') (iv (M ++ [d])) ∧ Fr (fun k => v.ownBlock = some k) w w' ∧ ((Value.slice a' n' c').ownBlock = v.ownBlock ∨ ∃ k, (Value.slice a' n' c').ownBlock = some k ∧ w.heap.size ≤ k) := by
  obtain ⟨i, I1, I2, I3, I4⟩ := infoI
  have hal : Fr (fun _ => False) w (w.alloc (.cells #[.int .i64 d] 3)) := (Fr.refl _ _).alloc _
  have hs : Src Try.prog 1 38 (.slice (some ⟨w.heap.size, 0, none⟩) 1 1) 1 [.int .i64 d] (w.alloc (.cells #[.int .i64 d] 3)) := Src.ofSlice _ Try.underlying38 _ 1 1 [.int .i64 d] rfl (fun j u hj => by
    cases j with
    | zero => simp at hj; subst hj; rw [add_none]; exact cell_of_heap (heap_alloc_new w _) rfl
    | succ j => simp at hj) (by simp [Value.oneCell'])
  obtain ⟨v', w', hr, h2, h3, h4, -⟩ := run_append_at (P := Try.prog) (w.alloc (.cells #[.int .i64 d] 3)) 38 38 38 3 i (.int .i64 0) Try.underlying38 I1 I2 I3 rfl v (iv M) (hM.fr hal (fun _ _ => id)) _ 1 [.int .i64 d] hs (by rw [I4, iv_length]; omega) (by rw [iv_length]; unfold maxLen; omega)
  have e : iv M ++ [.int .i64 d] = iv (M ++ [d]) := by rw [iv_append]; rfl
  rw [e] at h2
  obtain ⟨a', c', rfl, hc⟩ := h2.form
  rw [iv_length, List.length_append, List.length_singleton] at h2 h4 hr
  refine ⟨a', _, c', w', hr, rfl, h2, (hal.mono (fun _ _ e => e.elim)).trans h3, ?_⟩
  rcases h4 with e | ⟨k, e, hk2⟩
  · exact .inl e
  · exact .inr ⟨k, e, by simp at hk2; omega⟩
theorem WPost.trans {base : Nat} {w w1 w2 : World} {g mb : Nat} {sl sl1 : List Value} {N : Nat} {L : List (Int × Int)} (f : Fr (WX g mb sl) w w1) (hs : ∀ k, WX g mb sl1 k → k < w.heap.size → WX g mb sl k) (h : WPost base w1 g mb sl1 N L w2) : WPost base w g mb sl N L w2 := by
  obtain ⟨sl2, h1, h2, h3⟩ := h
  refine ⟨sl2, h1, ?_, fun k hk hl => hs k (h3 k hk (Nat.lt_of_lt_of_le hl f.size)) hl⟩
  have f' : Fr (fun k => WX g mb sl k ∨ w.heap.size ≤ k) w w1 := f.mono (fun k _ e => .inl e)
  have f2 : Fr (fun k => WX g mb sl k ∨ w.heap.size ≤ k) w1 w2 := h2.mono (fun k _ e => by
    by_cases hl : k < w.heap.size
    · exact .inl (hs k e hl)
    · exact .inr (by omega))
  exact (f'.trans f2).mono (fun k hk e => by
    rcases e with e | e
    · exact e
    · omega)
theorem ownB_same (a : Option Addr) (n m c e : Nat) : (Value.slice a n c).ownBlock = (Value.slice a m e).ownBlock := by cases a <;> rfl
theorem MapAt.lenT {w : World} {b : Nat} {L : List (Int × Int)} {N : Nat} (h : MapAt w b L.length (mapT L)) (hi : InvT N L) : (Builtin.len_ #[85] 3 #[.map (some b)]).run Try.prog w = .ok (.int .i64 (L.length : Nat)) w := by
  obtain ⟨D, h1, h2⟩ := h.size (L.map (·.1)) hi.nd (mapT_some L)
  have := h1.len Try.underlying85 3
  rw [h2, List.length_map] at this
  exact this
theorem slot_rest {x : Int} (h0 : 0 ≤ x) : ∃ r : Nat, r < 64 ∧ x % 64 = (r : Int) := ⟨(x % 64).toNat, by omega, by omega⟩
theorem qdrop_in {base : Nat} {w : World} {g mb : Nat} {sl : List Value} {N : Nat} {L : List (Int × Int)} (h : WAt base w g mb sl N L) (hb : base ≤ w.heap.size) (hN : N < 1000000000000000000) (d : Int) (hd : IsI d) {x : Int × Int} (hf : findT L d = some x) :
    Calls Try.prog 64 #[.pointer (some ⟨g, 0, none⟩), .int .i64 d] w fun e w' => e = .returned (.tuple #[]) ∧ WPost base w g mb sl N (delT L d) w' := by
  have hx := h.2.due x (findT_some hf).1
  have hx0 : 0 ≤ x.2 := by omega
  have hx1 : x.2 ≤ 9223372036854775807 := by omega
  obtain ⟨r, hr, hxr⟩ := slot_rest hx0
  have hr2 : (r : Int) < 64 := by omega
  have HI : Hid (InvT N L) := h.2
  have HD : Hid (IsI d) := hd
  have HX : Hid (findT L d = some x ∧ x.2 % 64 = (r : Int)) := ⟨hf, hxr⟩
  have hv : mapT L d = some (.int .i64 x.2) := by unfold mapT; rw [hf]; rfl
  obtain ⟨w1, hw1⟩ : ∃ w1, w.alloc (.cells #[.int .i64 d] 3) = w1 := ⟨_, rfl⟩
  have F1 : Hid (Fr (fun _ => False) w w1) := by rw [← hw1]; exact (Fr.refl _ _).alloc _
  have B1 : Hid (w1.heap[w.heap.size]? = some (.cells #[.int .i64 d] 3 (0, 0))) := by rw [← hw1]; exact heap_alloc_new _ _
  have H : Hid (WAt base w g mb sl N L) := h
  have H1 : Hid (WAt base w1 g mb sl N L) := h.later F1.out
  have hbx : w1.cell? ⟨w.heap.size, 0, none⟩ = some (.int .i64 d) := cell_of_heap B1.out rfl
  have c0 := H1.out.1.c.map
  have hlk : ∀ k, (Instr.lookup 85 (.map (some mb)) (.int .i64 d) false).run Try.prog (w1.drewN k) = .ok (.int .i64 x.2) (w1.drewN k) := fun k => by
    have := ((H1.out.1.m.fr ((Fr.refl (fun _ => False) _).drewN k) id).look Try.underlying85 qzero_int hd).1
    rwa [hv] at this
  have HB : Hid (base ≤ w.heap.size) := hb
  clear h hx hf hv hd hb
  go_enter Try.func64, Try.ntmps64
  go_wp2_with (fail)
  go_quiet (fail)
  go_wp2_with (fail)
  rw [hxr]
  obtain ⟨wA, hwA⟩ : ∃ wA, wA = (w1.drewN nq).drew := ⟨_, rfl⟩
  have FA : Hid (Fr (fun _ => False) w wA) := by rw [hwA]; exact (F1.out.drewN nq).drew
  have HA : Hid (WAt base wA g mb sl N L) := H.out.later FA.out
  have BA : Hid (wA.heap[w.heap.size]? = some (.cells #[.int .i64 d] 3 (0, 0))) := by rw [hwA]; exact B1.out
  clear hlk c0 hbx hw1
  have hbx : wA.cell? ⟨w.heap.size, 0, none⟩ = some (.int .i64 d) := cell_of_heap BA.out rfl
  obtain ⟨a, c, hvs, hc⟩ := (HA.out.1.s r hr).form
  rw [iv_length] at hvs hc
  have HO : Hid (OwnAt wA 3 (.slice a (slotT L (r : Int)).length c) (iv (slotT L (r : Int)))) := by rw [← hvs]; exact HA.out.1.s r hr
  have cs : wA.cell? ⟨g, r, none⟩ = some (.slice a (slotT L (r : Int)).length c) := by rw [← hvs]; exact HA.out.1.c.slot r hr
  have HVS : Hid (sl.getD r nilS = .slice a (slotT L (r : Int)).length c) := hvs
  have KD := deleteI_in a c (slotT L (r : Int)) d w.heap.size wA HO.out hbx (fun e => by have := (H.out.1.s r hr).lt w.heap.size (by rw [hvs]; exact e); omega) (by have h1 := slot_few L (r : Int); have h2 := HI.out.few; omega)
  obtain ⟨n, hn⟩ : ∃ n, (slotT L (r : Int)).length = n := ⟨_, rfl⟩
  rw [hn] at cs KD HVS HO
  clear hvs hbx hn hc
  refine wp_region_held_drew (S := fun _ => True) (by kernel_rfl) trivial (fun hHeld => ?_)
  refine wpAnyH_take (i := 0) (oi := _) (v := .pointer (some ⟨g, 0, none⟩)) rfl (by kernel_rfl) (by kernel_rfl) (by kernel_rfl) (fun _ _ _ h => h) (Or.inl ⟨by kernel_rfl, fun w2 hw => by go_simp⟩) trivial ?_
  refine wpAnyH_take (i := 1) (oi := _) (v := .int .i64 (r : Int)) rfl (by kernel_rfl) (by kernel_rfl) (by kernel_rfl) (fun _ _ _ h => h) (Or.inl ⟨by kernel_rfl, fun w2 hw => by go_simp⟩) trivial ?_
  refine wpAnyH_take (i := 2) (oi := _) (v := .pointer (some ⟨g, 0, none⟩)) rfl (by kernel_rfl) (by kernel_rfl) (by kernel_rfl) (fun _ _ _ h => h) (Or.inl ⟨by kernel_rfl, fun w2 hw => by go_simp⟩) trivial ?_
  refine wpAnyH_take (i := 3) (oi := _) (v := .int .i64 (r : Int)) rfl (by kernel_rfl) (by kernel_rfl) (by kernel_rfl) (fun _ _ _ h => h) (Or.inl ⟨by kernel_rfl, fun w2 hw => by go_simp⟩) trivial ?_
  refine wpAnyH_take (i := 4) (oi := _) (v := .pointer (some ⟨g, 0, none⟩)) rfl (by kernel_rfl) (by kernel_rfl) (by kernel_rfl) (fun _ _ _ h => h) (Or.inl ⟨by kernel_rfl, fun w2 hw => by go_simp⟩) trivial ?_
  refine wpAnyH_take (i := 5) (oi := _) (v := .pointer (some ⟨g, 0, none⟩)) rfl (by kernel_rfl) (by kernel_rfl) (by kernel_rfl) (fun _ _ _ h => h) (Or.inl ⟨by kernel_rfl, fun w2 hw => by go_simp⟩) trivial ?_
  refine wpAnyH_take (i := 6) (oi := _) (v := .pointer (some ⟨g, r, none⟩)) rfl (by kernel_rfl) (by kernel_rfl) (by kernel_rfl) (fun _ _ _ h => h) (Or.inl ⟨by kernel_rfl, fun w2 hw => by go_simp⟩) trivial ?_
  refine wpAnyH_take (i := 8) (oi := _) (v := .func (.func 67) #[] #[.pointer (some ⟨w.heap.size, 0, none⟩)]) rfl (by kernel_rfl) (by kernel_rfl) (by kernel_rfl) (fun _ _ _ h => h) (Or.inl ⟨by kernel_rfl, fun w2 hw => by go_simp⟩) trivial ?_
  refine wpAnyH_take (i := 10) (oi := _) (v := .pointer (some ⟨g, 0, none⟩)) rfl (by kernel_rfl) (by kernel_rfl) (by kernel_rfl) (fun _ _ _ h => h) (Or.inl ⟨by kernel_rfl, fun w2 hw => by go_simp⟩) trivial ?_
  refine wpAnyH_take (i := 11) (oi := _) (v := .pointer (some ⟨g, 0, none⟩)) rfl (by kernel_rfl) (by kernel_rfl) (by kernel_rfl) (fun _ _ _ h => h) (Or.inl ⟨by kernel_rfl, fun w2 hw => by go_simp⟩) trivial ?_
  simp only [Act.put, List.getElem_toArray, List.getElem_cons_succ, List.getElem_cons_zero, List.setIfInBounds_toArray, List.set_cons_zero, List.set_cons_succ]
  rw [← hwA]
  clear hwA
  refine wpAnyH_ready (rs := [7]) (by kernel_rfl) (by simp) ?_
  refine AllReadyH.cons rfl (fun K hK => ?_) AllReadyH.nil
  go_simp
  refine hK.out _ _ trivial (fun _ => ?_)
  clear hK K
  refine wpAnyH_ready (rs := [9]) (by kernel_rfl) (by simp) ?_
  refine AllReadyH.cons rfl (fun K hK => ?_) AllReadyH.nil
  go_simp
  refine KD.mono ?_
  rintro e w3 ⟨rfl, o3, f3⟩
  refine hK.out _ _ trivial (fun _ => ?_)
  clear hK K KD
  have HV3 : Hid (OwnAt w3 3 (.slice a ((slotT L (r : Int)).filter (keepB d)).length c) (iv ((slotT L (r : Int)).filter (keepB d)))) := o3
  have HF3 : Hid (Fr (fun k => (sl.getD r nilS).ownBlock = some k) wA w3) := f3.mono (fun k _ e => by rw [HVS.out]; exact e)
  have HB3 : Hid (w3.heap[w.heap.size]? = some (.cells #[.int .i64 d] 3 (0, 0))) := (HF3.out.block _ (lt_of_heap BA.out) (fun e => by have := (H.out.1.s r hr).lt w.heap.size e; omega)).trans BA.out
  have HS3 := HA.out.1.slot_to (Nat.le_trans HB.out FA.out.size) hr HF3.out HV3.out (.inl (by rw [HVS.out]; exact ownB_same _ _ _ _ _))
  have c3 : w3.cell? ⟨g, r, none⟩ = some (.slice a n c) := ((HF3.out.cell (p := ⟨g, r, none⟩) HA.out.1.c.lt (fun e => (HA.out.1.slot_ne r hr g e).1 rfl)).trans cs)
  have z3 : w3.frozen? ⟨g, r, none⟩ = false := (HA.out.1.c.fr HF3.out (fun e => (HA.out.1.slot_ne r hr g e).1 rfl)).frozen r
  have HP4 : Hid (WP base (w3.setCell ⟨g, r, none⟩ (.slice a ((slotT L (r : Int)).filter (keepB d)).length c)) g mb (sl.set r (.slice a ((slotT L (r : Int)).filter (keepB d)).length c)) (N : Int) L.length (mapT L) (fun q => if q = r then (slotT L (r : Int)).filter (keepB d) else slotT L (q : Int)) ∧ Fr (WX g mb sl) wA (w3.setCell ⟨g, r, none⟩ (.slice a ((slotT L (r : Int)).filter (keepB d)).length c)) ∧ ∀ k, WX g mb (sl.set r (.slice a ((slotT L (r : Int)).filter (keepB d)).length c)) k → k < wA.heap.size → WX g mb sl k) := HS3
  have HB4 : Hid ((w3.setCell ⟨g, r, none⟩ (.slice a ((slotT L (r : Int)).filter (keepB d)).length c)).heap[w.heap.size]? = some (.cells #[.int .i64 d] 3 (0, 0))) := by
    show _ = _
    rw [Below.heap_setCell _ _ _ _ (show w.heap.size ≠ g by have := H.out.1.c.lt; omega)]
    exact HB3.out
  generalize ((slotT L (r : Int)).filter (keepB d)).length = m at HP4 HB4 ⊢
  clear o3 f3 HS3 HV3 cs
  refine wpAnyH_take (i := 12) (oi := _) (v := .pointer (some ⟨g, r, none⟩)) rfl (by kernel_rfl) (by kernel_rfl) (by kernel_rfl) (fun _ _ _ h => h) (Or.inl ⟨by kernel_rfl, fun w2 hw => by go_simp⟩) trivial ?_
  simp only [Act.put, List.getElem_toArray, List.getElem_cons_succ, List.getElem_cons_zero, List.setIfInBounds_toArray, List.set_cons_zero, List.set_cons_succ]
  refine wpAnyH_ready (rs := [13]) (by kernel_rfl) (by simp) ?_
  refine AllReadyH.cons rfl (fun K hK => ?_) AllReadyH.nil
  go_simp
  refine hK.out _ _ trivial (fun _ => ?_)
  clear hK K
  refine wpAnyH_done (by kernel_rfl) ?_ _
  obtain ⟨w4, hw4⟩ : ∃ w4, w4 = w3.setCell ⟨g, r, none⟩ (.slice a m c) := ⟨_, rfl⟩
  rw [← hw4] at HP4 HB4 ⊢
  clear hw4 c3 z3
  have c0 := HP4.out.1.c.map
  have hbx : w4.cell? ⟨w.heap.size, 0, none⟩ = some (.int .i64 d) := cell_of_heap HB4.out rfl
  go_wp2_with (fail)
  refine wp_region_cut 5 1 #[true, true, true, true, true, false] (by kernel_rfl) (by kernel_rfl) rfl rfl ?_
  simp only [List.take_succ_cons, List.take_zero]
  repeat (go_big_quiet_step (fail))
  refine wpQuiet_nil ?_
  rintro _ ⟨nq2, rfl⟩ mm
  obtain ⟨w5, hw5⟩ : ∃ w5, w5 = w4.drewN nq2 := ⟨_, rfl⟩
  have F5 : Hid (Fr (fun _ => False) w4 w5) := by rw [hw5]; exact (Fr.refl _ _).drewN nq2
  rw [← hw5]
  clear hw5 c0 hbx
  refine wpAny_ready (rs := [5]) (by kernel_rfl) (by simp) ?_
  refine AllReady.cons rfl (fun K hK => ?_) AllReady.nil
  refine stepR_del rfl (.tmp 28) (.tmp 29) 85 rfl 3 Try.underlying85 mb L.length (mapT L) (by go_simp) (HP4.out.1.m.fr F5.out id) d (by go_simp) HD.out ?_
  intro w6 hm6 hf6 hs6
  refine hK _ _ ?_
  clear hK K
  refine wpAny_done (by kernel_rfl) ?_ _
  go_wp2_with (fail)
  have P6 := (HP4.out.1.later F5.out).map_to hm6 hf6
  refine bodyPost_end (results_none rfl _ _ _) rfl ⟨rfl, ?_⟩
  obtain ⟨hfd, hxr2⟩ := HX.out
  refine ⟨_, P6.wheel (inv_del HI.out d) rfl (mapT_del L d).symm (fun q hq => ?_), ?_, fun k hk hl => HP4.out.2.2 k hk (Nat.lt_of_lt_of_le hl FA.out.size)⟩
  · by_cases e : q = r
    · rw [if_pos e, e, slot_del]; rfl
    · rw [if_neg e, slot_other HI.out.nd hfd (by rw [hxr2]; omega)]
  · exact (((FA.out.mono (fun _ _ e => e.elim)).trans HP4.out.2.1).trans (F5.out.mono (fun _ _ e => e.elim))).trans (hf6.mono (fun k _ e => .inr (.inl e)))
end Go.Proofs.Ytoiencoojkahmaa
