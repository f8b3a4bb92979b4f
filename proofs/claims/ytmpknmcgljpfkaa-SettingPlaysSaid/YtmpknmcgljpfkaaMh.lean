/- Apply, plainly and as the program does it. -/
import Derived.Test.YtmpknmcgljpfkaaMe
import Derived.Deep.DeepCutAuto
import Derived.Deep.LoopGhost
import Derived.WalkMore
namespace Go.Proofs.Ytmpknmcgljpfkaa
open Go.RowKit Go.Maps
set_option linter.unusedVariables false
set_option maxRecDepth 100000
set_option maxHeartbeats 4000000

theorem stepR_put {w : World} {ops : Array Oper} {o : Oper} {a : Act} {K : Act → World → Prop} {Q : Exit → Act → World → Prop} {E : Prop} (hgd : o.guard = none) (hdst : o.dst = none) (m x u : Operand) (t : TypeId) (hop : o.op = Op.mapUpdate t m x u) (e : TypeId) (ht : Try.prog.underlying t = some (.map 3 e))
    (b n : Nat) (M : Int → Option Value) (hm : a.eval m = .map (some b)) (h : MapAt w b n M) (hn : n < maxLen) (k : Int) (hx : a.eval x = .int .i64 k) (hk : IsI k) (v : Value) (hu : a.eval u = v)
    (hK : ∀ w', MapAt w' b (if (M k).isSome then n else n + 1) (putM M k v) → Fr (fun k => k = b) w w' → K (a.put none undef) w') : if Region.wanted o (yielded ops a.tmps) = true then Oper.wp Try.prog o a w K Q else E := by
  have hw : Region.wanted o (yielded ops a.tmps) = true := by simp [Region.wanted, hgd]
  rw [if_pos hw]
  obtain ⟨w', hrun, h1, h2, h3⟩ := h.put ht hn hk v
  have hK2 := hK w' h1 h2
  rw [← hdst] at hK2
  unfold Oper.wp
  simp [execOp, hop, hm, hx, hu, hrun, Result.andThen]
  exact hK2
def setV (V : Int → Nat) (d : Int) (n : Nat) : Int → Nat := fun j => if j = d then n else V j
/-- The values behind a list, and the code of what may not be (0: all may be). -/
def applyO (V : Int → Nat) : List (Int × Nat) → (Int → Nat) × Int
  | [] => (V, 0)
  | s :: r => if kn s.1 then (if codeO s.1 (V s.1) s.2 = 0 then applyO (setV V s.1 s.2) r else (V, codeO s.1 (V s.1) s.2)) else applyO V r
/-- Each value is one that may be. -/
def OkV (V : Int → Nat) : Prop := (∀ d, V d < 4294967296) ∧ ∀ d, kn d = true → codeO d (firstV d) (V d) = 0
theorem okV_first : OkV firstV := by
  refine ⟨fun d => ?_, fun d h => ?_⟩
  · unfold firstV; split <;> (try split) <;> (try split) <;> (try split) <;> (try split) <;> (try split) <;> omega
  · rcases kn_cases h with rfl | rfl | rfl | rfl | rfl | rfl | rfl <;> rfl
theorem code_first {d : Int} {now next : Nat} (h : codeO d now next = 0) : kn d = true → codeO d (firstV d) next = 0 := by
  intro hk
  rcases kn_cases hk with rfl | rfl | rfl | rfl | rfl | rfl | rfl
  · rfl
  · exact h
  · rfl
  · exact h
  · exact h
  · rfl
  · by_cases hn : next ≤ 1
    · simp [codeO, fitsB, firstV, hn]
    · simp [codeO, fitsB, hn, badC] at h
theorem OkV.set {V : Int → Nat} (h : OkV V) {d : Int} {n : Nat} (hn : n < 4294967296) (hc : codeO d (V d) n = 0) : OkV (setV V d n) := by
  refine ⟨fun j => ?_, fun j hj => ?_⟩
  · unfold setV; split
    · exact hn
    · exact h.1 j
  · unfold setV; split
    · rename_i e; subst e; exact code_first hc hj
    · exact h.2 j hj
theorem apply_ok : ∀ (Y : List (Int × Nat)) (V : Int → Nat), OkV V → (∀ s ∈ Y, s.2 < 4294967296) → OkV (applyO V Y).1
  | [], V, h, _ => h
  | s :: r, V, h, hY => by
    have ih := fun V h => apply_ok r V h (fun x hx => hY x (List.mem_cons_of_mem _ hx))
    unfold applyO
    split
    · split
      · rename_i hc
        exact ih _ (h.set (hY s (List.mem_cons_self ..)) hc)
      · exact h
    · exact ih _ h
theorem valsM_set {V : Int → Nat} {d : Int} {n : Nat} (hk : kn d = true) : putM (valsM V) d (.int .u32 (n : Nat)) = valsM (setV V d n) := by
  funext j
  unfold putM valsM setV
  by_cases hj : j = d
  · subst hj; simp [hk]
  · simp [hj]
theorem valsM_some {V : Int → Nat} {d : Int} (hk : kn d = true) : (valsM V d).isSome = true := by simp [valsM, hk]
theorem sets_ne {w : World} {b n : Nat} {M : Int → Option Value} {q : Option Addr} {c : Nat} {Y : List (Int × Nat)} (h : MapAt w b n M) (hY : SetsAt w q c Y) : ∀ ad, q = some ad → 0 < Y.length → ¬ ad.block = b := by
  rintro ad hq hl rfl
  obtain ⟨g, o, hq', hg, h0, -⟩ := hY.cells 0 Y[0] (by simp)
  rw [hq] at hq'
  cases hq'
  obtain ⟨D, ⟨es, clock, hb, -⟩, -⟩ := h
  simp [World.cell?, hb] at h0

/-- What Apply leaves. -/
def ApplAs (w : World) (g b : Nat) (v : Value) (V : Int → Nat) (o : (Int → Nat) × Int) (e : Ending) (w' : World) : Prop :=
  e = .returned (.tuple #[.int .i64 (if o.2 = 0 then (o.1 4 : Int) - (V 4 : Int) else 0), .agg #[.bool (o.2 != 0), .int .i64 0, .int .i64 o.2]]) ∧ SetC w' g b v ∧ MapAt w' b 7 (valsM o.1) ∧ Fr (fun k => k = b) w w'
/-- Within Apply's loop. -/
structure AppS (w W : World) (g b mb : Nat) (v : Value) (q : Option Addr) (c : Nat) (Y : List (Int × Nat)) (V : Int → Nat) (i : Nat) (Vi : Int → Nat) (wr : World) : Prop where
  set : SetC wr g b v
  vals : MapAt wr b 7 (valsM Vi)
  rules : MapAt wr mb 7 rulesM
  res : wr.heap[w.heap.size]? = some (.cells #[.bool false, .int .i64 0, .int .i64 0] 37 (0, 0))
  sets : SetsAt wr q c Y
  fr : Fr (fun k => k = b) w wr
  eq : applyO V Y = applyO Vi (Y.drop i)
  ok : OkV Vi
  ne : b ≠ mb ∧ b ≠ g ∧ b ≠ w.heap.size ∧ g ≠ w.heap.size
theorem AppS.later {w W wr w' : World} {g b mb : Nat} {v : Value} {q : Option Addr} {c : Nat} {Y : List (Int × Nat)} {V : Int → Nat} {i : Nat} {Vi : Int → Nat} (h : AppS w W g b mb v q c Y V i Vi wr) (hf : Fr (fun _ => False) wr w') : AppS w W g b mb v q c Y V i Vi w' :=
  { h with set := h.set.fr hf id, vals := h.vals.fr hf id, rules := h.rules.fr hf id, res := (hf.block _ (lt_of_heap h.res) id).trans h.res, sets := h.sets.later hf, fr := h.fr.trans (hf.mono (fun _ _ e => e.elim)) }
theorem AppS.next {w W wr w' : World} {g b mb : Nat} {v : Value} {q : Option Addr} {c : Nat} {Y : List (Int × Nat)} {V : Int → Nat} {i : Nat} {Vi Vj : Int → Nat} (h : AppS w W g b mb v q c Y V i Vi wr) (hf : Fr (fun k => k = b) wr w') (hm : MapAt w' b 7 (valsM Vj)) (he : applyO V Y = applyO Vj (Y.drop (i + 1))) (ho : OkV Vj) : AppS w W g b mb v q c Y V (i + 1) Vj w' :=
  { set := h.set.fr hf (fun e => h.ne.2.1 e.symm), vals := hm, rules := h.rules.fr hf (fun e => h.ne.1 e.symm), res := (hf.block _ (lt_of_heap h.res) (fun e => h.ne.2.2.1 e.symm)).trans h.res,
    sets := h.sets.fr hf (sets_ne h.vals h.sets), fr := h.fr.trans hf, eq := he, ok := ho, ne := h.ne }
theorem sApply_in (g b : Nat) (v : Value) (V : Int → Nat) (q : Option Addr) (c n : Nat) (Y : List (Int × Nat)) (w : World) (h : SetC w g b v) (hm : MapAt w b 7 (valsM V)) (hV : OkV V) (hY : SetsAt w q c Y) (hn : Y.length = n) :
    Calls Try.prog 14 #[.pointer (some ⟨g, 0, none⟩), .slice q n c] w fun e w' => ApplAs w g b v V (applyO V Y) e w' := by
  obtain ⟨W, hW⟩ : ∃ W, W = w.alloc (.cells #[.bool false, .int .i64 0, .int .i64 0] 37) := ⟨_, rfl⟩
  have hf0 : Fr (fun _ => False) w W := by rw [hW]; exact (Fr.refl _ _).alloc _
  have hres : W.heap[w.heap.size]? = some (.cells #[.bool false, .int .i64 0, .int .i64 0] 37 (0, 0)) := by rw [hW]; exact heap_alloc_new w _
  have K1 := smade_in g b v W (h.fr hf0 id)
  have K2 := swindow_in g b v V W (h.fr hf0 id) (hm.fr hf0 id) (hV.1 4)
  have K3 := rules_in W
  have KC : Hid (∀ d now next w, kn d = true → Calls Try.prog 25 #[.agg #[.int .u32 (firstV d : Nat), .func (.func (fitFn d)) #[] #[], .int .i64 (badC d)], .int .u32 ((now : Nat) : Int), .int .u32 ((next : Nat) : Int)] w fun e w' => e = .returned (.int .i64 (codeO d now next)) ∧ Fr (fun _ => False) w w') := fun d now next w hk => check_in d now next w hk
  have S0 : Hid (∀ w1, MapAt w1 W.heap.size 7 rulesM → Fr (fun _ => False) W w1 → AppS w W g b W.heap.size v q c Y V 0 V w1) := fun w1 h1 h2 =>
    ⟨(h.fr hf0 id).fr h2 id, (hm.fr hf0 id).fr h2 id, h1, (h2.block _ (lt_of_heap hres) id).trans hres, (hY.later hf0).later h2, ((hf0.trans h2).mono (fun _ _ e => e.elim)), rfl, hV, by have := (hm.fr hf0 id).lt; omega, hm.ne h, by have := hm.lt; omega, by have := h.lt; omega⟩
  have HN : Hid (Y.length = n) := hn
  have hn2 : (n : Int) ≤ 9223372036854775807 := by have := hY.few; rw [hn] at this; omega
  have HB : Hid (V 4 < 4294967296) := hV.1 4
  obtain ⟨x4, hx4⟩ : ∃ x4, V 4 = x4 := ⟨_, rfl⟩
  rw [hx4] at K2
  have HX4 : Hid (V 4 = x4) := hx4
  have hx4b : (x4 : Int) ≤ 4294967295 := by have := HB.out; rw [hx4] at this; omega
  clear hx4 h hm hV hY hn hf0 hres
  obtain ⟨mb, hmb⟩ : ∃ mb, mb = W.heap.size := ⟨_, rfl⟩
  rw [← hmb] at K3 S0
  clear hmb
  go_enter Try.func14, Try.ntmps14
  go_upto_region 1 with (fail)
  rw [← hW]
  clear hW
  go_wp2_with (first
    | (go_at_call 27; refine K1.mono ?_; clear K1; rintro e w1 ⟨rfl, rfl⟩)
    | (go_at_call 29; refine K2.mono ?_; clear K2; rintro e w1 ⟨rfl, rfl⟩)
    | (go_at_call 24; refine K3.mono ?_; clear K3; rintro e w1 ⟨rfl, hm1, hf1, hs1⟩; have S1 : Hid (AppS w W g b mb v q c Y V 0 V w1) := S0.out w1 hm1 hf1; clear hm1 hf1 hs1 S0))
  go_loopw [22] (fun x22 wr => ∃ (i : Nat) (Vi : Int → Nat), x22 = .int .i64 (i : Int) ∧ i ≤ n ∧ Hid (AppS w W g b mb v q c Y V i Vi wr)) (fun x22 _ => n - (intOf x22).toNat)
  case atStart => exact ⟨0, V, rfl, by omega, S1.out⟩
  case round =>
    clear S1
    obtain ⟨i, Vi, rfl, hin, HS⟩ := hrel
    by_cases hlt : i < n
    · obtain ⟨⟨d, m⟩, hs⟩ : ∃ s, Y[i]? = some s := ⟨Y[i]'(by rw [HN.out]; exact hlt), List.getElem?_eq_getElem _⟩
      obtain ⟨gq, oq, rfl, hgq, d0, d1, hd, hm⟩ := HS.out.sets.cells i (d, m) hs
      have HD : Hid (Y.drop i = (d, m) :: Y.drop (i + 1)) := List.drop_eq_getElem?_toList_append.trans (by rw [hs]; rfl)
      have hdI : IsI d := IsI.of hd
      have hlt2 : (i : Int) < (n : Int) := by omega
      clear hs hd
      dsimp only at d0 d1 hm
      cases hk : kn d
      · have hEQ : Hid (applyO V Y = applyO Vi (Y.drop (i + 1))) := by
          show _ = _
          rw [HS.out.eq, HD.out, applyO]
          simp [hk]
        have M1 : MapAt (wr.alloc (.cells #[.int .i64 d, .int .u32 (m : Int)] 24)) mb 7 rulesM := HS.out.rules.fr ((Fr.refl (fun _ => False) _).alloc _) id
        have hv : (rulesM d).getD zeroRule = .agg #[.int .u32 0, .nilFunc, .int .i64 0] := by simp [rulesM, hk, zeroRule]
        have ht : (rulesM d).isSome = false := by simp [rulesM, hk]
        go_wp2_with (refine wpList_look_ok rfl (.tmp 27) (.tmp 29) 67 rfl 65 Try.underlying67 zeroRule zero_rule mb 7 rulesM rfl M1 d rfl hdI (.agg #[.int .u32 0, .nilFunc, .int .i64 0]) hv false ht ?_)
        go_roundw
        case rel =>
          have S2 := (HS.out.later ((Fr.refl _ _).alloc (.cells #[.int .i64 d, .int .u32 (m : Int)] 24))).later ((Fr.refl _ _).alloc (.cells #[.int .u32 0, .nilFunc, .int .i64 0] 65))
          exact ⟨i + 1, Vi, by go_num, by omega, S2.next (Fr.refl _ _) S2.vals hEQ.out S2.ok⟩
        case measure => simp [intOf]; omega
      · have M1 : MapAt (wr.alloc (.cells #[.int .i64 d, .int .u32 (m : Int)] 24)) mb 7 rulesM := HS.out.rules.fr ((Fr.refl (fun _ => False) _).alloc _) id
        have hv : (rulesM d).getD zeroRule = .agg #[.int .u32 (firstV d : Nat), .func (.func (fitFn d)) #[] #[], .int .i64 (badC d)] := by simp [rulesM, hk, ruleV]
        have ht : (rulesM d).isSome = true := by simp [rulesM, hk]
        have HK : Hid (kn d = true) := hk
        clear hk
        go_wp2_with (refine wpList_look_ok rfl (.tmp 27) (.tmp 29) 67 rfl 65 Try.underlying67 zeroRule zero_rule mb 7 rulesM rfl M1 d rfl hdI (.agg #[.int .u32 (firstV d : Nat), .func (.func (fitFn d)) #[] #[], .int .i64 (badC d)]) hv true ht ?_)
        clear M1 hv ht
        obtain ⟨w3, hw3⟩ : ∃ w3, w3 = (wr.alloc (.cells #[.int .i64 d, .int .u32 (m : Int)] 24)).alloc (.cells #[.int .u32 (firstV d : Nat), .func (.func (fitFn d)) #[] #[], .int .i64 (badC d)] 65) := ⟨_, rfl⟩
        have S3 : Hid (AppS w W g b mb v (some ⟨gq, oq, none⟩) c Y V i Vi w3) := by rw [hw3]; exact (HS.out.later ((Fr.refl _ _).alloc _)).later ((Fr.refl _ _).alloc _)
        have hA : w3.heap[wr.heap.size]? = some (.cells #[.int .i64 d, .int .u32 (m : Int)] 24 (0, 0)) := by rw [hw3, Below.heap_alloc _ _ _ (by simp)]; exact heap_alloc_new wr _
        have hB : w3.heap[wr.heap.size + 1]? = some (.cells #[.int .u32 (firstV d : Nat), .func (.func (fitFn d)) #[] #[], .int .i64 (badC d)] 65 (0, 0)) := by
          have := heap_alloc_new (wr.alloc (.cells #[.int .i64 d, .int .u32 (m : Int)] 24)) (.cells #[.int .u32 (firstV d : Nat), .func (.func (fitFn d)) #[] #[], .int .i64 (badC d)] 65)
          rw [hw3]
          simpa using this
        have HA : Hid (w3.heap[wr.heap.size]? = some (.cells #[.int .i64 d, .int .u32 (m : Int)] 24 (0, 0))) := hA
        have HAL : Hid (wr.heap.size ≠ b) := by have := HS.out.vals.lt; show _ ≠ _; omega
        rw [← hw3]
        clear hw3 d0 d1 HS
        have e0 : w3.cell? ⟨wr.heap.size, 0, none⟩ = some (.int .i64 d) := cell_of_heap hA rfl
        have e1 : w3.cell? ⟨wr.heap.size, 1, none⟩ = some (.int .u32 (m : Int)) := cell_of_heap hA rfl
        have r0 : w3.cell? ⟨wr.heap.size + 1, 0, none⟩ = some (.int .u32 (firstV d : Nat)) := cell_of_heap hB rfl
        have r1 : w3.cell? ⟨wr.heap.size + 1, 1, none⟩ = some (.func (.func (fitFn d)) #[] #[]) := cell_of_heap hB rfl
        have r2 : w3.cell? ⟨wr.heap.size + 1, 2, none⟩ = some (.int .i64 (badC d)) := cell_of_heap hB rfl
        clear hA hB
        obtain ⟨s0, s1⟩ := scells S3.out.set
        obtain ⟨old, hold⟩ : ∃ old, Vi d = old := ⟨_, rfl⟩
        have hl : ∀ k, (Instr.lookup 57 (.map (some b)) (.int .i64 d) false).run Try.prog (w3.drewN k) = .ok (.int .u32 (old : Int)) (w3.drewN k) := fun k => by
          have := ((S3.out.vals.fr ((Fr.refl (fun _ => False) w3).drewN k) id).look Try.underlying57 zero_u32 hdI).1
          rw [vals_get, getV, if_pos HK.out, hold] at this
          exact this
        have HOLD : Hid (Vi d = old) := hold
        clear hold
        go_cut [9, 12] (fun s9 s12 wc => s9 = .pointer (some ⟨wr.heap.size, 0, none⟩) ∧ s12 = .int .i64 (codeO d old m) ∧ Hid (AppS w W g b mb v (some ⟨gq, oq, none⟩) c Y V i Vi wc ∧ wc.heap[wr.heap.size]? = some (.cells #[.int .i64 d, .int .u32 (m : Int)] 24 (0, 0))))
        case first =>
          refine wp_region_cut 10 2 #[true, true, true, true, true, true, true, true, true, true, false, false] (by kernel_rfl) (by kernel_rfl) rfl rfl ?_
          simp only [List.take_succ_cons, List.take_zero]
          repeat (go_big_quiet_step (fail))
          refine wpQuiet_nil ?_
          rintro _ ⟨nq, rfl⟩ mm
          refine wpAny_ready (rs := [10]) (by kernel_rfl) (by simp) ?_
          refine AllReady.cons rfl (fun K hK => ?_) AllReady.nil
          go_simp
          refine (KC.out d old m _ HK.out).mono ?_
          rintro e w4 ⟨rfl, hf4⟩
          refine hK _ _ ?_
          clear hK K
          have F4 : Hid (Fr (fun _ => False) w3 w4) := ((Fr.refl _ _).drewN nq).trans hf4
          clear hf4
          refine wpAny_ready (rs := [11]) (by kernel_rfl) (by simp) ?_
          refine AllReady.cons rfl (fun K hK => ?_) AllReady.nil
          go_simp
          refine hK _ _ ?_
          clear hK K
          refine wpAny_done (by kernel_rfl) ?_ _
          go_wp2_with (fail)
          go_meet
          case rel => exact ⟨rfl, rfl, S3.out.later F4.out, (F4.out.block _ (lt_of_heap HA.out) id).trans HA.out⟩
        case rest =>
          obtain ⟨rfl, rfl, HC⟩ := hcut
          clear S3 HA s0 s1 hl e0 e1 r0 r1 r2
          obtain ⟨cd, hcd⟩ : ∃ cd, codeO d old m = cd := ⟨_, rfl⟩
          have HE : Hid (applyO V Y = if cd = 0 then applyO (setV Vi d m) (Y.drop (i + 1)) else (Vi, cd)) := by
            show _ = _
            rw [HC.out.1.eq, HD.out, applyO]
            simp only [HK.out, if_true, HOLD.out, hcd]
          have HCD : Hid (codeO d old m = cd) := hcd
          rw [hcd]
          clear hcd
          by_cases hz : cd = 0
          · subst hz
            have HE2 : Hid (applyO V Y = applyO (setV Vi d m) (Y.drop (i + 1))) := by show _ = _; rw [HE.out, if_pos rfl]
            clear HE
            have e0 : wc.cell? ⟨wr.heap.size, 0, none⟩ = some (.int .i64 d) := cell_of_heap HC.out.2 rfl
            have e1 : wc.cell? ⟨wr.heap.size, 1, none⟩ = some (.int .u32 (m : Int)) := cell_of_heap HC.out.2 rfl
            obtain ⟨s0, s1⟩ := scells HC.out.1.set
            go_wp2_with (fail)
            refine wp_region_cut 8 1 #[true, true, true, true, true, true, true, true, false] (by kernel_rfl) (by kernel_rfl) rfl rfl ?_
            simp only [List.take_succ_cons, List.take_zero]
            repeat (go_big_quiet_step (fail))
            refine wpQuiet_nil ?_
            rintro _ ⟨nq, rfl⟩ mm
            have S5 : Hid (AppS w W g b mb v (some ⟨gq, oq, none⟩) c Y V i Vi (wc.drewN nq)) := HC.out.1.later ((Fr.refl _ _).drewN nq)
            refine wpAny_ready (rs := [8]) (by kernel_rfl) (by simp) ?_
            refine AllReady.cons rfl (fun K hK => ?_) AllReady.nil
            refine stepR_put rfl rfl (.tmp 53) (.tmp 55) (.tmp 57) 57 rfl 22 Try.underlying57 b 7 (valsM Vi) (by go_simp) S5.out.vals (by unfold maxLen; omega) d (by go_simp) hdI (.int .u32 (m : Int)) (by go_simp) ?_
            intro w6 hm6 hf6
            rw [valsM_set HK.out, valsM_some HK.out, if_pos rfl] at hm6
            have S6 : Hid (AppS w W g b mb v (some ⟨gq, oq, none⟩) c Y V (i + 1) (setV Vi d m) w6) := S5.out.next hf6 hm6 HE2.out (S5.out.ok.set hm (by rw [HOLD.out]; exact HCD.out))
            refine hK _ _ ?_
            clear hK K hm6 hf6 S5 e0 e1 s0 s1
            simp only [Act.put, List.setIfInBounds_toArray, List.set_cons_zero, List.set_cons_succ]
            refine wpAny_done (by kernel_rfl) ?_ _
            go_wp2_with (fail)
            go_roundw
            case rel => exact ⟨i + 1, setV Vi d m, by go_num, by omega, S6.out⟩
            case measure => simp [intOf]; omega
          · have KF := fun w => fault_in cd w
            have HZ : Hid (¬ cd = 0) := hz
            have HE2 : Hid (applyO V Y = (Vi, cd)) := by show _ = _; rw [HE.out, if_neg hz]
            clear HE
            have S5 : Hid (AppS w W g b mb v (some ⟨gq, oq, none⟩) c Y V i Vi wc) := HC.out.1
            clear HC
            go_wp2_with (first
              | (go_at_call 28; refine (KF _).mono ?_; clear KF; rintro e w6 ⟨rfl, hf6⟩; have S6 : Hid (AppS w W g b mb v (some ⟨gq, oq, none⟩) c Y V i Vi w6) := S5.out.later hf6)
              | (refine wpList_storeB rfl 37 (.tmp 5) (.tmp 49) rfl w.heap.size #[.bool false, .int .i64 0, .int .i64 0] #[.bool true, .int .i64 0, .int .i64 cd] 37 rfl rfl S6.out.res rfl (by kernel_rfl) (by simp [Value.oneCell']) ?_; intro y H G))
            have c0 : y.cell? ⟨w.heap.size, 0, none⟩ = some (.bool true) := cell_of_heap H.out rfl
            have c1 : y.cell? ⟨w.heap.size, 1, none⟩ = some (.int .i64 0) := cell_of_heap H.out rfl
            have c2 : y.cell? ⟨w.heap.size, 2, none⟩ = some (.int .i64 cd) := cell_of_heap H.out rfl
            refine bodyPost_ret (v := .tuple #[.int .i64 0, .agg #[.bool true, .int .i64 0, .int .i64 cd]]) (by simp [results, Try.results14, go_sem, c0, c1, c2]) rfl ?_
            have hb1 : (cd != 0) = true := by simp [HZ.out]
            rw [HE2.out]
            refine ⟨by dsimp only; rw [if_neg HZ.out, hb1], S6.out.set.fr G.out S6.out.ne.2.2.2, S6.out.vals.fr G.out S6.out.ne.2.2.1, (S6.out.fr.mono (T := fun k => k = b ∨ w.heap.size ≤ k) (fun _ _ e => .inl e)).trans (G.out.mono (fun k _ e => by omega)) |>.mono (fun k hk e => by omega)⟩
    · obtain rfl : i = n := by omega
      have HE : Hid (applyO V Y = (Vi, 0)) := by
        show _ = _
        rw [HS.out.eq, List.drop_of_length_le (by rw [HN.out]; exact Nat.le_refl _), applyO]
      have K4 := swindow_in g b v Vi wr HS.out.set HS.out.vals (HS.out.ok.1 4)
      obtain ⟨y4, hy4⟩ : ∃ y4, Vi 4 = y4 := ⟨_, rfl⟩
      rw [hy4] at K4
      have HY4 : Hid (Vi 4 = y4) := hy4
      have hy4b : (y4 : Int) ≤ 4294967295 := by have := HS.out.ok.1 4; rw [hy4] at this; omega
      clear hy4
      go_wp2_with (first
        | (go_at_call 29; refine K4.mono ?_; clear K4; rintro e w6 ⟨rfl, rfl⟩)
        | (refine wpList_storeB rfl 37 (.tmp 5) (.tmp 63) rfl w.heap.size #[.bool false, .int .i64 0, .int .i64 0] #[.bool false, .int .i64 0, .int .i64 0] 37 rfl rfl HS.out.res rfl (by kernel_rfl) (by simp [Value.oneCell']) ?_; intro y H G))
      have c0 : y.cell? ⟨w.heap.size, 0, none⟩ = some (.bool false) := cell_of_heap H.out rfl
      have c1 : y.cell? ⟨w.heap.size, 1, none⟩ = some (.int .i64 0) := cell_of_heap H.out rfl
      have c2 : y.cell? ⟨w.heap.size, 2, none⟩ = some (.int .i64 0) := cell_of_heap H.out rfl
      refine bodyPost_ret (v := .tuple #[.int .i64 ((y4 : Int) - (x4 : Int)), .agg #[.bool false, .int .i64 0, .int .i64 0]]) (by simp [results, Try.results14, go_sem, c0, c1, c2]) rfl ?_
      rw [HE.out]
      refine ⟨by dsimp only; rw [if_pos rfl, HY4.out, HX4.out]; rfl, HS.out.set.fr G.out HS.out.ne.2.2.2, HS.out.vals.fr G.out HS.out.ne.2.2.1, (HS.out.fr.mono (T := fun k => k = b ∨ w.heap.size ≤ k) (fun _ _ e => .inl e)).trans (G.out.mono (fun k _ e => by omega)) |>.mono (fun k hk e => by omega)⟩
end Go.Proofs.Ytmpknmcgljpfkaa
