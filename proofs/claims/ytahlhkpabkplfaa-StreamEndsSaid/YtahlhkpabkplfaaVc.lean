/- The document's streams: State, List. -/
import Derived.Test.YtahlhkpabkplfaaVb
namespace Go.Proofs.Ytahlhkpabkplfaa
open Go.RowKit
set_option linter.unusedVariables false
set_option maxRecDepth 100000
set_option maxHeartbeats 4000000

theorem ryState_in (base g : Nat) (S : Stm) (vL vG : Value) (d : Int) (w : World) (h : RAt base w g S vL vG) : Calls Try.prog 32 #[.pointer (some ⟨g, 0, none⟩), .int .i64 d] w fun e w' => e = .returned (.int .i64 (stateS S d)) ∧ w = w' := by
  have H : Hid (RAt base w g S vL vG) := h
  have KF := ryfind_in base g S vL vG d w h
  obtain ⟨a, c, rfl, hcap⟩ := h.row.form
  obtain ⟨c0, c1, c2, c3, c4, c5, c6⟩ := h.cells
  have hfew := few_known h.inv
  cases hf : findS S.L d with
  | some x =>
    rw [state_known hf]
    have KG : Calls Try.prog 52 #[.pointer (some ⟨g, 0, none⟩), .int .i64 d] w fun e w' => (∃ i : Nat, e = .returned (.int .i64 (i : Int)) ∧ S.L[i]? = some x) ∧ w = w' := by
      refine KF.mono ?_
      rintro e w' ⟨⟨r, rfl, hr⟩, rfl⟩
      rcases hr with ⟨-, hn⟩ | ⟨i, y, rfl, h1, h2, h3, -⟩
      · rw [hf] at hn; cases hn
      · rw [hf] at h3
        cases h3
        exact ⟨⟨i, rfl, h1⟩, rfl⟩
    clear KF
    obtain ⟨n, hn⟩ : ∃ n, S.L.length = n := ⟨_, rfl⟩
    rw [hn] at c3 hfew hcap H
    have HN : Hid (S.L.length = n) := hn
    clear h hn hf
    go_enter Try.func32, Try.ntmps32
    go_upto_region 2 with (go_at_call 52; refine KG.mono ?_; clear KG; rintro e w' ⟨⟨i, rfl, hi⟩, rfl⟩)
    have hlt : i < n := by rw [← HN.out]; exact (List.getElem?_eq_some_iff.1 hi).1
    have hlt2 : (i : Int) < (n : Int) := by omega
    have hi0 : (0 : Int) ≤ (i : Int) := by omega
    obtain ⟨gl, cap, e1, r0, r1, -⟩ := H.out.row.cells i _ hi
    have e2 := (Value.slice.inj e1).1
    subst e2
    clear e1 hi
    go_wp2_with (fail)
    go_ret
    exact ⟨rfl, rfl⟩
  | none =>
    have KG : Calls Try.prog 52 #[.pointer (some ⟨g, 0, none⟩), .int .i64 d] w fun e w' => e = .returned (.int .i64 (-1)) ∧ w = w' := by
      refine KF.mono ?_
      rintro e w' ⟨⟨r, rfl, hr⟩, rfl⟩
      rcases hr with ⟨rfl, hn⟩ | ⟨i, y, rfl, h1, h2, h3, -⟩
      · exact ⟨rfl, rfl⟩
      · rw [hf] at h3; cases h3
    clear KF
    have hst : stateS S d = if d < 1 ∨ 2147483647 < d ∨ (ownS S.server d = true ∧ S.ours < d) ∨ (ownS S.server d = false ∧ S.theirs < d) then 0 else 4 := by unfold stateS; rw [hf]
    rw [hst]
    by_cases h1 : d < 1
    · rw [if_pos (.inl h1)]
      clear h hst hf
      go_enter Try.func32, Try.ntmps32
      go_wp2_with (go_at_call 52; refine KG.mono ?_; clear KG; rintro e w' ⟨rfl, rfl⟩)
      go_ret
      exact ⟨rfl, rfl⟩
    by_cases h2 : 2147483647 < d
    · rw [if_pos (.inr (.inl h2))]
      clear h hst hf
      go_enter Try.func32, Try.ntmps32
      go_wp2_with (go_at_call 52; refine KG.mono ?_; clear KG; rintro e w' ⟨rfl, rfl⟩)
      go_ret
      exact ⟨rfl, rfl⟩
    have KO := ryown_in base g S _ vG d w h (by omega)
    clear hst hf h
    cases ho : ownS S.server d
    · rw [ho] at KO
      by_cases h3 : S.theirs < d
      · rw [if_pos (.inr (.inr (.inr ⟨rfl, h3⟩)))]
        go_enter Try.func32, Try.ntmps32
        go_wp2_with (first | (go_at_call 52; refine KG.mono ?_; clear KG; rintro e w' ⟨rfl, rfl⟩) | (go_at_call 49; refine KO.mono ?_; rintro e w' ⟨rfl, rfl⟩))
        go_ret
        exact ⟨rfl, rfl⟩
      · rw [if_neg (by simp; omega)]
        go_enter Try.func32, Try.ntmps32
        go_wp2_with (first | (go_at_call 52; refine KG.mono ?_; clear KG; rintro e w' ⟨rfl, rfl⟩) | (go_at_call 49; refine KO.mono ?_; rintro e w' ⟨rfl, rfl⟩))
        go_ret
        exact ⟨rfl, rfl⟩
    · rw [ho] at KO
      by_cases h3 : S.ours < d
      · rw [if_pos (.inr (.inr (.inl ⟨rfl, h3⟩)))]
        go_enter Try.func32, Try.ntmps32
        go_wp2_with (first | (go_at_call 52; refine KG.mono ?_; clear KG; rintro e w' ⟨rfl, rfl⟩) | (go_at_call 49; refine KO.mono ?_; rintro e w' ⟨rfl, rfl⟩))
        go_ret
        exact ⟨rfl, rfl⟩
      · rw [if_neg (by simp; omega)]
        go_enter Try.func32, Try.ntmps32
        go_wp2_with (first | (go_at_call 52; refine KG.mono ?_; clear KG; rintro e w' ⟨rfl, rfl⟩) | (go_at_call 49; refine KO.mono ?_; rintro e w' ⟨rfl, rfl⟩))
        go_ret
        exact ⟨rfl, rfl⟩
theorem info_int : ∃ i, Try.prog.info? 3 = some i ∧ i.zero = some (.int .i64 0) ∧ i.size = 1 ∧ i.bytes = 8 := ⟨(Try.prog.info? 3).get (by kernel_rfl), by kernel_rfl, by kernel_rfl, by kernel_rfl, by kernel_rfl⟩
theorem newer {w w' : World} {v u : Value} (h : ∀ k, v.ownBlock = some k → w.heap.size ≤ k) {n : Nat} (hs : w.heap.size ≤ n) (ho : u.ownBlock = v.ownBlock ∨ ∃ k, u.ownBlock = some k ∧ n ≤ k) : ∀ k, u.ownBlock = some k → w.heap.size ≤ k := fun k hk => by
  rcases ho with e | ⟨j, e, hj⟩
  · rw [e] at hk; exact h k hk
  · rw [e] at hk; cases hk; omega
theorem Fr.fresh {w a b : World} {v : Value} (h : Fr (fun _ => False) w a) (hf : Fr (fun k => v.ownBlock = some k) a b) (hv : ∀ k, v.ownBlock = some k → w.heap.size ≤ k) : Fr (fun _ => False) w b :=
  ((h.mono (T := fun k => w.heap.size ≤ k) (fun _ _ e => e.elim)).trans (hf.mono (fun k _ e => hv k e))).mono (fun k hk e => by have : w.heap.size ≤ k := e; omega)
section
variable {w : World} {ops : Array Oper} {rest : List Oper} {o : Oper} {a : Act} {Q : Exit → Act → World → Prop}
/-- append(l, d) of ints: the one that is put behind lies in a block of its own. -/
theorem wpList_addI (hgd : o.guard = none) (s x : Operand) (ho : o.op = .call { callee := .builtin .append, args := #[s, x], argTypes := #[62, 62] })
    (v : Value) (M : List Int) (d : Int) (hsv : a.eval s = v) (hM : OwnAt w 3 v (M.map (Value.int .i64))) (hxv : a.eval x = .slice (some ⟨w.heap.size, 0, none⟩) 1 1) (hfew : M.length ≤ 4096)
    (h : ∀ a' n' c' w', Hid (n' = M.length + 1) → Hid (OwnAt w' 3 (.slice a' n' c') ((M ++ [d]).map (Value.int .i64))) → Hid (Fr (fun k => v.ownBlock = some k) w w') → Hid ((Value.slice a' n' c').ownBlock = v.ownBlock ∨ ∃ k, (Value.slice a' n' c').ownBlock = some k ∧ w.heap.size ≤ k) → wpList Try.prog ops Q rest (a.put o.dst (.slice a' n' c')) w') : wpList Try.prog ops Q (o :: rest) a (w.alloc (.cells #[.int .i64 d] 3)) := by
  obtain ⟨i, I1, I2, I3, I4⟩ := info_int
  have hal : Fr (fun _ => False) w (w.alloc (.cells #[.int .i64 d] 3)) := (Fr.refl _ _).alloc _
  have hlen : (M.map (Value.int .i64)).length = M.length := by simp
  refine wpList_append_at hgd s x 62 62 ho 3 i (.int .i64 0) Try.underlying62 I1 I2 I3 rfl v _ hsv (hM.fr hal (fun _ _ => id)) _ hxv 1 [.int .i64 d] (Src.ofSlice _ Try.underlying62 _ 1 1 [.int .i64 d] rfl (fun j u hj => ?_) (by simp [Value.oneCell'])) (by rw [I4, hlen]; omega) (by rw [hlen]; unfold maxLen; omega) ?_
  · cases j with
    | zero => simp at hj; subst hj; rw [add_none]; exact cell_of_heap (heap_alloc_new w _) rfl
    | succ j => simp at hj
  · intro a' c' w' hO hF hk
    refine h a' _ c' w' (by show _ = _; rw [hlen]) (by rw [List.map_append]; exact hO) ((hal.mono (fun _ _ e => e.elim)).trans hF.out) ?_
    rcases hk.out with e | ⟨k, e, hk2⟩
    · exact .inl e
    · exact .inr ⟨k, e, by simp at hk2; omega⟩
/-- append(l, x) of known streams. -/
theorem wpList_addL (hgd : o.guard = none) (s x : Operand) (ho : o.op = .call { callee := .builtin .append, args := #[s, x], argTypes := #[70, 70] }) (hty : o.type = 70)
    (v : Value) (M : List (Int × Int)) (y1 y2 : Int) (hsv : a.eval s = v) (hM : RowAt w v M) (hxv : a.eval x = .slice (some ⟨w.heap.size, 0, none⟩) 1 1) (hfew : M.length ≤ 4000)
    (h : ∀ a' n' c' w', Hid (n' = M.length + 1) → Hid (RowAt w' (.slice a' n' c') (M ++ [(y1, y2)])) → Hid (Fr (fun k => v.ownBlock = some k) w w') → Hid ((Value.slice a' n' c').ownBlock = v.ownBlock ∨ ∃ k, (Value.slice a' n' c').ownBlock = some k ∧ w.heap.size ≤ k) → wpList Try.prog ops Q rest (a.put o.dst (.slice a' n' c')) w') : wpList Try.prog ops Q (o :: rest) a (w.alloc (.cells #[.int .i64 y1, .int .i64 y2] 89)) := by
  have hal : Fr (fun _ => False) w (w.alloc (.cells #[.int .i64 y1, .int .i64 y2] 89)) := (Fr.refl _ _).alloc _
  obtain ⟨a', c', w', hr, hR, hF, hk⟩ := row_append (hM.fr hal (fun _ _ => id)) (some ⟨w.heap.size, 0, none⟩) 1 1 (M := [(y1, y2)]) rfl (fun _ => ⟨_, rfl, fun j u hj => by
    rw [add_none]
    refine cell_of_heap (heap_alloc_new w _) ?_
    rw [Nat.zero_add]
    simpa [rowL] using hj⟩) (by simp; omega)
  have hlen : (M ++ [(y1, y2)]).length = M.length + 1 := by simp
  rw [hlen] at hr hR hk
  refine wpList_append_run9 hgd s x 70 ho v _ _ hsv hxv (by rw [hty]; exact hr) (h a' _ c' w' rfl hR ((hal.mono (fun _ _ e => e.elim)).trans hF) ?_)
  rcases hk with e | e
  · exact .inl e
  · exact .inr ⟨_, e, by simp⟩
end
theorem ryList_in (base g : Nat) (S : Stm) (vL vG : Value) (w : World) (h : RAt base w g S vL vG) : Calls Try.prog 35 #[.pointer (some ⟨g, 0, none⟩)] w fun e w' => ∃ v, e = .returned v ∧ OwnAt w' 3 v ((S.L.map (·.1)).map (Value.int .i64)) ∧ (∀ k, v.ownBlock = some k → w.heap.size ≤ k) ∧ Fr (fun _ => False) w w' := by
  have H : Hid (RAt base w g S vL vG) := h
  obtain ⟨a, c, rfl, hcap⟩ := h.row.form
  have hfew := few_known h.inv
  obtain ⟨n, hn⟩ : ∃ n, S.L.length = n := ⟨_, rfl⟩
  rw [hn] at hfew hcap H
  have c3 : w.cell? ⟨g, 3, none⟩ = some (.slice a n c) := H.out.cells.2.2.2.1
  have HN : Hid (S.L.length = n) := hn
  clear h hn
  go_enter Try.func35, Try.ntmps35
  go_wp2_with (fail)
  go_loopw [3, 4] (fun x3 x4 wr => ∃ (i : Nat) (la : Option Addr) (lc : Nat), x3 = .slice la i lc ∧ x4 = .int .i64 (i : Int) ∧ i ≤ n ∧ Hid (OwnAt wr 3 (.slice la i lc) (((S.L.map (·.1)).take i).map (Value.int .i64)) ∧ (∀ k, (Value.slice la i lc).ownBlock = some k → w.heap.size ≤ k) ∧ Fr (fun _ => False) w wr)) (fun _ x4 _ => n - (intOf x4).toNat)
  case atStart => exact ⟨0, none, 0, rfl, rfl, by omega, by rw [List.take_zero]; exact OwnAt.nil _ _, fun k hk => by simp [Value.ownBlock] at hk, Fr.refl _ _⟩
  case round =>
    obtain ⟨i, la, lc, rfl, rfl, hin, HK⟩ := hrel
    have HR : Hid (RAt base wr g S (.slice a n c) vG) := H.out.later HK.out.2.2
    clear c3
    have c3 : wr.cell? ⟨g, 3, none⟩ = some (.slice a n c) := HR.out.cells.2.2.2.1
    by_cases hlt : i < n
    · have hlt2 : (i : Int) < (n : Int) := by omega
      obtain ⟨⟨yd, ys⟩, hy⟩ : ∃ y, S.L[i]? = some y := ⟨S.L[i]'(by rw [HN.out]; exact hlt), List.getElem?_eq_getElem _⟩
      obtain ⟨gl, cap, e1, r0, r1, -⟩ := HR.out.row.cells i _ hy
      have e2 := (Value.slice.inj e1).1
      subst e2
      dsimp only at r0 r1
      have HY : Hid ((S.L.map (·.1)).take (i + 1) = (S.L.map (·.1)).take i ++ [yd]) := by
        show _ = _
        have hl : i < (S.L.map (·.1)).length := by rw [List.length_map, HN.out]; exact hlt
        rw [List.take_succ_eq_append_getElem hl]
        congr 1
        have := hy
        rw [List.getElem?_eq_getElem (by rw [HN.out]; exact hlt)] at this
        simp [Option.some.inj this]
      have HT : Hid (((S.L.map (·.1)).take i).length = i) := by show _ = _; rw [List.length_take, List.length_map, HN.out]; omega
      clear e1 hy
      go_wp2_with (refine wpList_addI rfl (.tmp 14) (.tmp 23) rfl (.slice la i lc) ((S.L.map (·.1)).take i) yd rfl HK.out.1 rfl (by rw [HT.out]; omega) ?_; intro la' n' lc' w2 N2 H2 F2 O2)
      have HN2 : Hid (n' = i + 1) := by show _ = _; rw [N2.out, HT.out]
      obtain rfl := HN2.out
      have HK2 : Hid (OwnAt w2 3 (.slice la' (i + 1) lc') (((S.L.map (·.1)).take (i + 1)).map (Value.int .i64)) ∧ (∀ k, (Value.slice la' (i + 1) lc').ownBlock = some k → w.heap.size ≤ k) ∧ Fr (fun _ => False) w w2) := by
        refine ⟨?_, newer (w' := w2) HK.out.2.1 HK.out.2.2.size O2.out, HK.out.2.2.fresh F2.out HK.out.2.1⟩
        rw [HY.out]
        exact H2.out
      go_roundw
      case rel => exact ⟨i + 1, la', lc', rfl, by go_num, by omega, HK2.out⟩
      case measure => simp [intOf]; omega
    · obtain rfl : n = i := by omega
      go_wp2_with (fail)
      go_ret
      have e := HK.out.1
      rw [List.take_of_length_le (by rw [List.length_map, HN.out]; exact Nat.le_refl _)] at e
      exact ⟨_, rfl, e, HK.out.2.1, HK.out.2.2⟩
end Go.Proofs.Ytahlhkpabkplfaa
