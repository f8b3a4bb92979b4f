/- The program's streams: Do. -/
import Derived.Test.YtahlhkpabkplfaaYj
namespace Go.Proofs.Ytahlhkpabkplfaa
open Go.RowKit Go.Maps
set_option linter.unusedVariables false
set_option maxRecDepth 100000
set_option maxHeartbeats 4000000

theorem inv_drop {S : Stm} (h : InvS S) (d : Int) : InvS (dropS S d) := ⟨h.rise, h.st, h.num, h.th, h.ou, h.mo, h.mi, h.peers, h.owns, last64_few _, h.par⟩
theorem ydrop_at (g mb : Nat) (S : Stm) (d : Int) (w : World) (h : YAt w g mb S) : Calls Try.prog 42 #[.pointer (some ⟨g, 0, none⟩), .int .i64 d] w fun e w' => e = .returned (.tuple #[]) ∧ YAt w' g mb (dropS S d) ∧ Fr (fun k => k = g ∨ k = mb) w w' := by
  obtain ⟨rg, nx, h1, h2, h3, h4⟩ := h
  have hne : mb ≠ g := h3.ne h1.1
  refine (ydrop_in g _ nx d w h1 rfl h2.2.1).mono ?_
  rintro e w' ⟨rfl, a1, a2⟩
  exact ⟨rfl, ⟨_, (nx + 1) % 64, a1, ring_drop h2 d, h3.fr a2 hne, inv_drop h4 d⟩, a2.mono (fun _ _ e => .inl e)⟩
/-- A known stream has a new state, or is known no more. -/
def moveS (S : Stm) (d n : Int) : Stm := turnS S d n 0
theorem moveS_none {S : Stm} {d n : Int} (h : findS S.L d = none) : moveS S d n = S := by unfold moveS turnS; rw [h]
theorem moveS_set {S : Stm} {d n : Int} {x : Int × Int} (h : findS S.L d = some x) (hn : ¬ n = 4) : moveS S d n = { S with L := setL d n S.L } := by unfold moveS turnS; rw [h]; dsimp only; rw [if_neg hn]
theorem moveS_del {S : Stm} {d : Int} {x : Int × Int} (h : findS S.L d = some x) : moveS S d 4 = { S with L := S.L.filter (fun x => x.1 ≠ d) } := by unfold moveS turnS; rw [h]; rfl
theorem ymove_at (g mb : Nat) (S : Stm) (d n : Int) (w : World) (h : YAt w g mb S) (hd : 1 ≤ d ∧ d ≤ 2147483647) (hn : 0 ≤ n ∧ n ≤ 4) : Calls Try.prog 44 #[.pointer (some ⟨g, 0, none⟩), .int .i64 d, .int .i64 n] w fun e w' => e = .returned (.tuple #[]) ∧ YAt w' g mb (moveS S d n) ∧ Fr (fun k => k = g ∨ k = mb) w w' := by
  have H := h
  obtain ⟨rg, nx, h1, h2, h3, h4⟩ := h
  have hfew := few_known h4
  have hi := inv_turn h4 d n 0 hn
  change InvS (moveS S d n) at hi
  cases hf : findS S.L d with
  | none =>
    rw [moveS_none hf]
    refine (ymove_not g (ysOf mb S rg nx) _ _ d n w h1 h3 hd (mapL_no hf)).mono ?_
    rintro e w' ⟨rfl, rfl⟩
    exact ⟨rfl, H, Fr.refl _ _⟩
  | some x =>
    by_cases hn4 : n = 4
    · subst hn4
      rw [moveS_del hf] at hi ⊢
      have e1 := open_del h4 hf true { S with L := S.L.filter (fun x => x.1 ≠ d) } rfl rfl
      have e2 := open_del h4 hf false { S with L := S.L.filter (fun x => x.1 ≠ d) } rfl rfl
      have b1 := h4.owns
      have b2 := h4.peers
      have b3 := h4.mo
      cases ho : ownS S.server d
      · rw [ho] at e1 e2
        simp at e1 e2
        refine (ymove_del_false g (ysOf mb S rg nx) _ _ d x.2 w h1 h3 hd (mapL_of hf) ho ⟨by show (0 : Int) ≤ ((openS S false : Nat) : Int); omega, by show ((openS S false : Nat) : Int) ≤ 1024; omega⟩).mono ?_
        rintro e w' ⟨rfl, a1, a2, a3⟩
        refine ⟨rfl, ⟨rg, nx, ?_, h2, mapL_tight (n := S.L.length) ?_ hi.rise, hi⟩, a3⟩
        · have e3 : ysOf mb { S with L := S.L.filter (fun x => x.1 ≠ d) } rg nx = { ysOf mb S rg nx with po := (ysOf mb S rg nx).po - 1 } := by
            unfold ysOf
            have e4 : olY { S with L := S.L.filter (fun x => x.1 ≠ d) } = olY S := rfl
            rw [e4]
            simp
            omega
          rw [e3]
          exact a1
        · rw [mapL_del]
          exact a2
      · rw [ho] at e1 e2
        simp at e1 e2
        refine (ymove_del_true g (ysOf mb S rg nx) _ _ d x.2 w h1 h3 hd (mapL_of hf) ho ⟨by show (0 : Int) ≤ ((openS S true : Nat) : Int); omega, by show ((openS S true : Nat) : Int) ≤ 1024; omega⟩).mono ?_
        rintro e w' ⟨rfl, a1, a2, a3⟩
        refine ⟨rfl, ⟨rg, nx, ?_, h2, mapL_tight (n := S.L.length) ?_ hi.rise, hi⟩, a3⟩
        · have e3 : ysOf mb { S with L := S.L.filter (fun x => x.1 ≠ d) } rg nx = { ysOf mb S rg nx with oo := (ysOf mb S rg nx).oo - 1 } := by
            unfold ysOf
            have e4 : olY { S with L := S.L.filter (fun x => x.1 ≠ d) } = olY S := rfl
            rw [e4]
            simp
            omega
          rw [e3]
          exact a1
        · rw [mapL_del]
          exact a2
    · rw [moveS_set hf hn4] at hi ⊢
      refine (ymove_put g (ysOf mb S rg nx) _ _ d n x.2 w h1 h3 (by unfold maxLen; omega) hd (mapL_of hf) hn4).mono ?_
      rintro e w' ⟨rfl, a1, a2, a3⟩
      have hs : ∀ own, openS { S with L := setL d n S.L } own = openS S own := fun own => setL_count hn4 S.L (fun y hy => by have := h4.st y hy; omega)
      refine ⟨rfl, ⟨rg, nx, ?_, h2, mapL_tight (n := S.L.length) ?_ hi.rise, hi⟩, a3⟩
      · have e3 : ysOf mb { S with L := setL d n S.L } rg nx = ysOf mb S rg nx := by
          unfold ysOf
          rw [hs, hs]
          rfl
        rw [e3]
        exact a1
      · rw [mapL_set hf]
        exact a2
theorem turn_not8 {S : Stm} {d n wh : Int} (h : ¬ wh = 8) : turnS S d n wh = moveS S d n := by
  unfold moveS turnS
  split
  · rfl
  · split
    · rw [if_neg (show ¬ (0 : Int) = 8 by decide)]
    · rfl
theorem turn_8 {S : Stm} {d : Int} {x : Int × Int} (h : findS S.L d = some x) : turnS S d 4 8 = dropS (moveS S d 4) d := by
  rw [moveS_del h]
  unfold turnS
  rw [h]
  rfl
/-- What Do answers. -/
def doV (r : Int × (Bool × Int × Int) × Int) : Value := .tuple #[.int .i64 r.1, fltV r.2.1, .int .i64 r.2.2]
def DoAs (w : World) (g mb : Nat) (r : Int × (Bool × Int × Int) × Int) (T : Stm) (e : Ending) (w' : World) : Prop := e = .returned (doV r) ∧ YAt w' g mb T ∧ Fr (fun k => k = g ∨ k = mb) w w'
theorem yDo_num (g mb : Nat) (S : Stm) (d wh : Int) (w : World) (H : Hid (YAt w g mb S)) (hd : numB d = false) : Calls Try.prog 21 #[.pointer (some ⟨g, 0, none⟩), .int .i64 d, .int .i64 wh] w (DoAs w g mb (0, (false, 0, 0), 1) S) := by
  go_enter Try.func21, Try.ntmps21
  go_upto_region 1 with (fail)
  obtain ⟨w1, hw1⟩ : ∃ w1, w1 = w.alloc (.cells #[.bool false, .int .i64 0, .int .i64 0] 48) := ⟨_, rfl⟩
  have F1 : Hid (Fr (fun _ => False) w w1) := by rw [hw1]; exact (Fr.refl _ _).alloc _
  have R1 : Hid (w1.heap[w.heap.size]? = some (.cells #[.bool false, .int .i64 0, .int .i64 0] 48 (0, 0))) := by rw [hw1]; exact heap_alloc_new _ _
  rw [← hw1]
  clear hw1
  have H1 : Hid (YAt w1 g mb S) := H.out.fr F1.out id id
  have hgw : w.heap.size ≠ g ∧ w.heap.size ≠ mb := by have := H.out.lt; omega
  have K : Calls Try.prog 37 #[.pointer (some ⟨g, 0, none⟩)] w1 fun e w' => e = .returned (.bool true) ∧ w1 = w' := by
    obtain ⟨rg, nx, h1, -⟩ := H1.out
    exact ymade_in g _ w1 h1
  have KN := ynumbered_in d w1
  rw [hd] at KN
  have F0 : Hid (Fr (fun k => k = g ∨ k = mb) w1 w1) := Fr.refl _ _
  go_wp2_with (first | (go_at_call 37; refine K.mono ?_; clear K; rintro e w' ⟨rfl, rfl⟩) | (go_at_call 39; refine KN.mono ?_; clear KN; rintro e w' ⟨rfl, rfl⟩) | (refine wpList_storeB rfl 48 (.tmp 7) (.tmp 20) rfl w.heap.size #[.bool false, .int .i64 0, .int .i64 0] #[.bool false, .int .i64 0, .int .i64 0] 48 rfl rfl R1.out rfl (by kernel_rfl) (by simp [Value.oneCell']) ?_; intro y H9 G9))
  have d0 : y.cell? ⟨w.heap.size, 0, none⟩ = some (.bool false) := cell_of_heap H9.out rfl
  have d1 : y.cell? ⟨w.heap.size, 1, none⟩ = some (.int .i64 0) := cell_of_heap H9.out rfl
  have d2 : y.cell? ⟨w.heap.size, 2, none⟩ = some (.int .i64 0) := cell_of_heap H9.out rfl
  refine bodyPost_ret (v := .tuple #[.int .i64 0, .agg #[.bool false, .int .i64 0, .int .i64 0], .int .i64 1]) (by simp [results, Try.results21, go_sem, d0, d1, d2]) rfl ?_
  exact ⟨rfl, H1.out.fr G9.out (by omega) (by omega), ((F1.out.mono (T := fun k => (k = g ∨ k = mb) ∨ k = w.heap.size) (fun _ _ e => e.elim)).trans ((F0.out.mono (fun k _ e => .inl e)).trans (G9.out.mono (fun k _ e => .inr e)))).mono (fun k hk e => by omega)⟩
theorem yDo_gone (g mb : Nat) (S : Stm) (d wh : Int) (w : World) (H : Hid (YAt w g mb S)) (hd : numB d = true) (hc : decide (0 ≤ wh ∧ wh ≤ 4) = true) (hg : S.gone.contains d = true) : Calls Try.prog 21 #[.pointer (some ⟨g, 0, none⟩), .int .i64 d, .int .i64 wh] w (DoAs w g mb (4, (false, 0, 0), 0) S) := by
  go_enter Try.func21, Try.ntmps21
  go_upto_region 1 with (fail)
  obtain ⟨w1, hw1⟩ : ∃ w1, w1 = w.alloc (.cells #[.bool false, .int .i64 0, .int .i64 0] 48) := ⟨_, rfl⟩
  have F1 : Hid (Fr (fun _ => False) w w1) := by rw [hw1]; exact (Fr.refl _ _).alloc _
  have R1 : Hid (w1.heap[w.heap.size]? = some (.cells #[.bool false, .int .i64 0, .int .i64 0] 48 (0, 0))) := by rw [hw1]; exact heap_alloc_new _ _
  rw [← hw1]
  clear hw1
  have H1 : Hid (YAt w1 g mb S) := H.out.fr F1.out id id
  have hgw : w.heap.size ≠ g ∧ w.heap.size ≠ mb := by have := H.out.lt; omega
  have K : Calls Try.prog 37 #[.pointer (some ⟨g, 0, none⟩)] w1 fun e w' => e = .returned (.bool true) ∧ w1 = w' := by
    obtain ⟨rg, nx, h1, -⟩ := H1.out
    exact ymade_in g _ w1 h1
  have KN := ynumbered_in d w1
  rw [hd] at KN
  have F0 : Hid (Fr (fun k => k = g ∨ k = mb) w1 w1) := Fr.refl _ _
  have KC := ycomes_in wh w1
  rw [hc] at KC
  have KD := yDropped_in g mb S d w1 H1.out
  rw [hd, hg] at KD
  clear hc
  go_wp2_with (first | (go_at_call 37; refine K.mono ?_; clear K; rintro e w' ⟨rfl, rfl⟩) | (go_at_call 39; refine KN.mono ?_; clear KN; rintro e w' ⟨rfl, rfl⟩) | (go_at_call 43; refine KC.mono ?_; clear KC; rintro e w' ⟨rfl, rfl⟩) | (go_at_call 22; refine KD.mono ?_; clear KD; rintro e w' ⟨rfl, rfl⟩) | (refine wpList_storeB rfl 48 (.tmp 7) (.tmp 28) rfl w.heap.size #[.bool false, .int .i64 0, .int .i64 0] #[.bool false, .int .i64 0, .int .i64 0] 48 rfl rfl R1.out rfl (by kernel_rfl) (by simp [Value.oneCell']) ?_; intro y H9 G9))
  have d0 : y.cell? ⟨w.heap.size, 0, none⟩ = some (.bool false) := cell_of_heap H9.out rfl
  have d1 : y.cell? ⟨w.heap.size, 1, none⟩ = some (.int .i64 0) := cell_of_heap H9.out rfl
  have d2 : y.cell? ⟨w.heap.size, 2, none⟩ = some (.int .i64 0) := cell_of_heap H9.out rfl
  refine bodyPost_ret (v := .tuple #[.int .i64 4, .agg #[.bool false, .int .i64 0, .int .i64 0], .int .i64 0]) (by simp [results, Try.results21, go_sem, d0, d1, d2]) rfl ?_
  exact ⟨rfl, H1.out.fr G9.out (by omega) (by omega), ((F1.out.mono (T := fun k => (k = g ∨ k = mb) ∨ k = w.heap.size) (fun _ _ e => e.elim)).trans ((F0.out.mono (fun k _ e => .inl e)).trans (G9.out.mono (fun k _ e => .inr e)))).mono (fun k hk e => by omega)⟩
theorem yDo_err_false (g mb : Nat) (S : Stm) (d wh : Int) (w : World) (n k c er : Int) (H : Hid (YAt w g mb S)) (hd : numB d = true) (hc : decide (0 ≤ wh ∧ wh ≤ 4) = false) (hstep : stepO (stateS S d) wh = (n, k, c, er)) (he : ¬ er = 0) : Calls Try.prog 21 #[.pointer (some ⟨g, 0, none⟩), .int .i64 d, .int .i64 wh] w (DoAs w g mb (0, (false, 0, 0), er) S) := by
  go_enter Try.func21, Try.ntmps21
  go_upto_region 1 with (fail)
  obtain ⟨w1, hw1⟩ : ∃ w1, w1 = w.alloc (.cells #[.bool false, .int .i64 0, .int .i64 0] 48) := ⟨_, rfl⟩
  have F1 : Hid (Fr (fun _ => False) w w1) := by rw [hw1]; exact (Fr.refl _ _).alloc _
  have R1 : Hid (w1.heap[w.heap.size]? = some (.cells #[.bool false, .int .i64 0, .int .i64 0] 48 (0, 0))) := by rw [hw1]; exact heap_alloc_new _ _
  rw [← hw1]
  clear hw1
  have H1 : Hid (YAt w1 g mb S) := H.out.fr F1.out id id
  have hgw : w.heap.size ≠ g ∧ w.heap.size ≠ mb := by have := H.out.lt; omega
  have K : Calls Try.prog 37 #[.pointer (some ⟨g, 0, none⟩)] w1 fun e w' => e = .returned (.bool true) ∧ w1 = w' := by
    obtain ⟨rg, nx, h1, -⟩ := H1.out
    exact ymade_in g _ w1 h1
  have KN := ynumbered_in d w1
  rw [hd] at KN
  have KC := ycomes_in wh w1
  rw [hc] at KC
  clear hc
  have KS := yState_in g mb S d w1 H1.out ⟨by have := (numB_true hd).1; omega, by have := (numB_true hd).2; omega⟩
  have KT := yStep_in (stateS S d) wh w1
  unfold stepV at KT
  rw [hstep] at KT
  dsimp only at KT
  go_upto_region 8 with (first | (go_at_call 37; refine K.mono ?_; clear K; rintro e w' ⟨rfl, rfl⟩) | (go_at_call 39; refine KN.mono ?_; clear KN; rintro e w' ⟨rfl, rfl⟩) | (go_at_call 43; refine KC.mono ?_; clear KC; rintro e w' ⟨rfl, rfl⟩) | (go_at_call 17; refine KS.mono ?_; clear KS; rintro e w' ⟨rfl, rfl⟩) | (go_at_call 9; refine KT.mono ?_; clear KT; rintro e w2 ⟨rfl, hf2⟩))
  have F2 : Hid (Fr (fun k => k = g ∨ k = mb) w1 w2) := hf2.mono (fun _ _ e => e.elim)
  have H2 : Hid (YAt w2 g mb S) := H1.out.fr hf2 id id
  have R2 : Hid (w2.heap[w.heap.size]? = some (.cells #[.bool false, .int .i64 0, .int .i64 0] 48 (0, 0))) := (F2.out.block _ (lt_of_heap R1.out) (by omega)).trans R1.out
  clear hf2
  go_wp2_with ((refine wpList_storeB rfl 48 (.tmp 7) (.tmp 42) rfl w.heap.size #[.bool false, .int .i64 0, .int .i64 0] #[.bool false, .int .i64 0, .int .i64 0] 48 rfl rfl R2.out rfl (by kernel_rfl) (by simp [Value.oneCell']) ?_; intro y H9 G9))
  have d0 : y.cell? ⟨w.heap.size, 0, none⟩ = some (.bool false) := cell_of_heap H9.out rfl
  have d1 : y.cell? ⟨w.heap.size, 1, none⟩ = some (.int .i64 0) := cell_of_heap H9.out rfl
  have d2 : y.cell? ⟨w.heap.size, 2, none⟩ = some (.int .i64 0) := cell_of_heap H9.out rfl
  refine bodyPost_ret (v := .tuple #[.int .i64 0, .agg #[.bool false, .int .i64 0, .int .i64 0], .int .i64 er]) (by simp [results, Try.results21, go_sem, d0, d1, d2]) rfl ?_
  exact ⟨rfl, H2.out.fr G9.out (by omega) (by omega), ((F1.out.mono (T := fun k => (k = g ∨ k = mb) ∨ k = w.heap.size) (fun _ _ e => e.elim)).trans ((F2.out.mono (fun k _ e => .inl e)).trans (G9.out.mono (fun k _ e => .inr e)))).mono (fun k hk e => by omega)⟩
theorem yDo_k1_false (g mb : Nat) (S : Stm) (d wh : Int) (w : World) (n k c er : Int) (H : Hid (YAt w g mb S)) (hd : numB d = true) (hc : decide (0 ≤ wh ∧ wh ≤ 4) = false) (hstep : stepO (stateS S d) wh = (n, k, c, er)) (he : er = 0) (hk : k = 1) : Calls Try.prog 21 #[.pointer (some ⟨g, 0, none⟩), .int .i64 d, .int .i64 wh] w (DoAs w g mb (0, (true, d, c), 0) S) := by
  subst he hk
  go_enter Try.func21, Try.ntmps21
  go_upto_region 1 with (fail)
  obtain ⟨w1, hw1⟩ : ∃ w1, w1 = w.alloc (.cells #[.bool false, .int .i64 0, .int .i64 0] 48) := ⟨_, rfl⟩
  have F1 : Hid (Fr (fun _ => False) w w1) := by rw [hw1]; exact (Fr.refl _ _).alloc _
  have R1 : Hid (w1.heap[w.heap.size]? = some (.cells #[.bool false, .int .i64 0, .int .i64 0] 48 (0, 0))) := by rw [hw1]; exact heap_alloc_new _ _
  rw [← hw1]
  clear hw1
  have H1 : Hid (YAt w1 g mb S) := H.out.fr F1.out id id
  have hgw : w.heap.size ≠ g ∧ w.heap.size ≠ mb := by have := H.out.lt; omega
  have K : Calls Try.prog 37 #[.pointer (some ⟨g, 0, none⟩)] w1 fun e w' => e = .returned (.bool true) ∧ w1 = w' := by
    obtain ⟨rg, nx, h1, -⟩ := H1.out
    exact ymade_in g _ w1 h1
  have KN := ynumbered_in d w1
  rw [hd] at KN
  have KC := ycomes_in wh w1
  rw [hc] at KC
  clear hc
  have KS := yState_in g mb S d w1 H1.out ⟨by have := (numB_true hd).1; omega, by have := (numB_true hd).2; omega⟩
  have KT := yStep_in (stateS S d) wh w1
  unfold stepV at KT
  rw [hstep] at KT
  dsimp only at KT
  go_upto_region 8 with (first | (go_at_call 37; refine K.mono ?_; clear K; rintro e w' ⟨rfl, rfl⟩) | (go_at_call 39; refine KN.mono ?_; clear KN; rintro e w' ⟨rfl, rfl⟩) | (go_at_call 43; refine KC.mono ?_; clear KC; rintro e w' ⟨rfl, rfl⟩) | (go_at_call 17; refine KS.mono ?_; clear KS; rintro e w' ⟨rfl, rfl⟩) | (go_at_call 9; refine KT.mono ?_; clear KT; rintro e w2 ⟨rfl, hf2⟩))
  have F2 : Hid (Fr (fun k => k = g ∨ k = mb) w1 w2) := hf2.mono (fun _ _ e => e.elim)
  have H2 : Hid (YAt w2 g mb S) := H1.out.fr hf2 id id
  have R2 : Hid (w2.heap[w.heap.size]? = some (.cells #[.bool false, .int .i64 0, .int .i64 0] 48 (0, 0))) := (F2.out.block _ (lt_of_heap R1.out) (by omega)).trans R1.out
  clear hf2
  go_wp2_with ((refine wpList_storeB rfl 48 (.tmp 7) (.tmp 49) rfl w.heap.size #[.bool false, .int .i64 0, .int .i64 0] #[.bool true, .int .i64 d, .int .i64 c] 48 rfl rfl R2.out rfl (by kernel_rfl) (by simp [Value.oneCell']) ?_; intro y H9 G9))
  have d0 : y.cell? ⟨w.heap.size, 0, none⟩ = some (.bool true) := cell_of_heap H9.out rfl
  have d1 : y.cell? ⟨w.heap.size, 1, none⟩ = some (.int .i64 d) := cell_of_heap H9.out rfl
  have d2 : y.cell? ⟨w.heap.size, 2, none⟩ = some (.int .i64 c) := cell_of_heap H9.out rfl
  refine bodyPost_ret (v := .tuple #[.int .i64 0, .agg #[.bool true, .int .i64 d, .int .i64 c], .int .i64 0]) (by simp [results, Try.results21, go_sem, d0, d1, d2]) rfl ?_
  exact ⟨rfl, H2.out.fr G9.out (by omega) (by omega), ((F1.out.mono (T := fun k => (k = g ∨ k = mb) ∨ k = w.heap.size) (fun _ _ e => e.elim)).trans ((F2.out.mono (fun k _ e => .inl e)).trans (G9.out.mono (fun k _ e => .inr e)))).mono (fun k hk e => by omega)⟩
theorem yDo_k2_false (g mb : Nat) (S : Stm) (d wh : Int) (w : World) (n k c er : Int) (H : Hid (YAt w g mb S)) (hd : numB d = true) (hc : decide (0 ≤ wh ∧ wh ≤ 4) = false) (hstep : stepO (stateS S d) wh = (n, k, c, er)) (he : er = 0) (hk : k = 2) : Calls Try.prog 21 #[.pointer (some ⟨g, 0, none⟩), .int .i64 d, .int .i64 wh] w (DoAs w g mb (0, (true, 0, c), 0) S) := by
  subst he hk
  go_enter Try.func21, Try.ntmps21
  go_upto_region 1 with (fail)
  obtain ⟨w1, hw1⟩ : ∃ w1, w1 = w.alloc (.cells #[.bool false, .int .i64 0, .int .i64 0] 48) := ⟨_, rfl⟩
  have F1 : Hid (Fr (fun _ => False) w w1) := by rw [hw1]; exact (Fr.refl _ _).alloc _
  have R1 : Hid (w1.heap[w.heap.size]? = some (.cells #[.bool false, .int .i64 0, .int .i64 0] 48 (0, 0))) := by rw [hw1]; exact heap_alloc_new _ _
  rw [← hw1]
  clear hw1
  have H1 : Hid (YAt w1 g mb S) := H.out.fr F1.out id id
  have hgw : w.heap.size ≠ g ∧ w.heap.size ≠ mb := by have := H.out.lt; omega
  have K : Calls Try.prog 37 #[.pointer (some ⟨g, 0, none⟩)] w1 fun e w' => e = .returned (.bool true) ∧ w1 = w' := by
    obtain ⟨rg, nx, h1, -⟩ := H1.out
    exact ymade_in g _ w1 h1
  have KN := ynumbered_in d w1
  rw [hd] at KN
  have KC := ycomes_in wh w1
  rw [hc] at KC
  clear hc
  have KS := yState_in g mb S d w1 H1.out ⟨by have := (numB_true hd).1; omega, by have := (numB_true hd).2; omega⟩
  have KT := yStep_in (stateS S d) wh w1
  unfold stepV at KT
  rw [hstep] at KT
  dsimp only at KT
  go_upto_region 8 with (first | (go_at_call 37; refine K.mono ?_; clear K; rintro e w' ⟨rfl, rfl⟩) | (go_at_call 39; refine KN.mono ?_; clear KN; rintro e w' ⟨rfl, rfl⟩) | (go_at_call 43; refine KC.mono ?_; clear KC; rintro e w' ⟨rfl, rfl⟩) | (go_at_call 17; refine KS.mono ?_; clear KS; rintro e w' ⟨rfl, rfl⟩) | (go_at_call 9; refine KT.mono ?_; clear KT; rintro e w2 ⟨rfl, hf2⟩))
  have F2 : Hid (Fr (fun k => k = g ∨ k = mb) w1 w2) := hf2.mono (fun _ _ e => e.elim)
  have H2 : Hid (YAt w2 g mb S) := H1.out.fr hf2 id id
  have R2 : Hid (w2.heap[w.heap.size]? = some (.cells #[.bool false, .int .i64 0, .int .i64 0] 48 (0, 0))) := (F2.out.block _ (lt_of_heap R1.out) (by omega)).trans R1.out
  clear hf2
  go_wp2_with ((refine wpList_storeB rfl 48 (.tmp 7) (.tmp 54) rfl w.heap.size #[.bool false, .int .i64 0, .int .i64 0] #[.bool true, .int .i64 0, .int .i64 c] 48 rfl rfl R2.out rfl (by kernel_rfl) (by simp [Value.oneCell']) ?_; intro y H9 G9))
  have d0 : y.cell? ⟨w.heap.size, 0, none⟩ = some (.bool true) := cell_of_heap H9.out rfl
  have d1 : y.cell? ⟨w.heap.size, 1, none⟩ = some (.int .i64 0) := cell_of_heap H9.out rfl
  have d2 : y.cell? ⟨w.heap.size, 2, none⟩ = some (.int .i64 c) := cell_of_heap H9.out rfl
  refine bodyPost_ret (v := .tuple #[.int .i64 0, .agg #[.bool true, .int .i64 0, .int .i64 c], .int .i64 0]) (by simp [results, Try.results21, go_sem, d0, d1, d2]) rfl ?_
  exact ⟨rfl, H2.out.fr G9.out (by omega) (by omega), ((F1.out.mono (T := fun k => (k = g ∨ k = mb) ∨ k = w.heap.size) (fun _ _ e => e.elim)).trans ((F2.out.mono (fun k _ e => .inl e)).trans (G9.out.mono (fun k _ e => .inr e)))).mono (fun k hk e => by omega)⟩
theorem yDo_ok_false (g mb : Nat) (S : Stm) (d wh : Int) (w : World) (n k c er : Int) (H : Hid (YAt w g mb S)) (hd : numB d = true) (hc : decide (0 ≤ wh ∧ wh ≤ 4) = false) (hstep : stepO (stateS S d) wh = (n, k, c, er)) (he : er = 0) (hk1 : ¬ k = 1) (hk2 : ¬ k = 2) (hn : 0 ≤ n ∧ n ≤ 4) (hw : ¬ wh = 8) : Calls Try.prog 21 #[.pointer (some ⟨g, 0, none⟩), .int .i64 d, .int .i64 wh] w (DoAs w g mb (n, (false, 0, 0), 0) (moveS S d n)) := by
  subst he
  go_enter Try.func21, Try.ntmps21
  go_upto_region 1 with (fail)
  obtain ⟨w1, hw1⟩ : ∃ w1, w1 = w.alloc (.cells #[.bool false, .int .i64 0, .int .i64 0] 48) := ⟨_, rfl⟩
  have F1 : Hid (Fr (fun _ => False) w w1) := by rw [hw1]; exact (Fr.refl _ _).alloc _
  have R1 : Hid (w1.heap[w.heap.size]? = some (.cells #[.bool false, .int .i64 0, .int .i64 0] 48 (0, 0))) := by rw [hw1]; exact heap_alloc_new _ _
  rw [← hw1]
  clear hw1
  have H1 : Hid (YAt w1 g mb S) := H.out.fr F1.out id id
  have hgw : w.heap.size ≠ g ∧ w.heap.size ≠ mb := by have := H.out.lt; omega
  have K : Calls Try.prog 37 #[.pointer (some ⟨g, 0, none⟩)] w1 fun e w' => e = .returned (.bool true) ∧ w1 = w' := by
    obtain ⟨rg, nx, h1, -⟩ := H1.out
    exact ymade_in g _ w1 h1
  have KN := ynumbered_in d w1
  rw [hd] at KN
  have KC := ycomes_in wh w1
  rw [hc] at KC
  clear hc
  have KS := yState_in g mb S d w1 H1.out ⟨by have := (numB_true hd).1; omega, by have := (numB_true hd).2; omega⟩
  have KT := yStep_in (stateS S d) wh w1
  unfold stepV at KT
  rw [hstep] at KT
  dsimp only at KT
  go_upto_region 8 with (first | (go_at_call 37; refine K.mono ?_; clear K; rintro e w' ⟨rfl, rfl⟩) | (go_at_call 39; refine KN.mono ?_; clear KN; rintro e w' ⟨rfl, rfl⟩) | (go_at_call 43; refine KC.mono ?_; clear KC; rintro e w' ⟨rfl, rfl⟩) | (go_at_call 17; refine KS.mono ?_; clear KS; rintro e w' ⟨rfl, rfl⟩) | (go_at_call 9; refine KT.mono ?_; clear KT; rintro e w2 ⟨rfl, hf2⟩))
  have F2 : Hid (Fr (fun k => k = g ∨ k = mb) w1 w2) := hf2.mono (fun _ _ e => e.elim)
  have H2 : Hid (YAt w2 g mb S) := H1.out.fr hf2 id id
  have R2 : Hid (w2.heap[w.heap.size]? = some (.cells #[.bool false, .int .i64 0, .int .i64 0] 48 (0, 0))) := (F2.out.block _ (lt_of_heap R1.out) (by omega)).trans R1.out
  clear hf2
  have KM := ymove_at g mb S d n w2 H2.out (numB_true hd) hn
  go_upto_region 15 with (go_at_call 44; refine KM.mono ?_; clear KM; rintro e w3 ⟨rfl, a1, a2⟩)
  have F3 : Hid (Fr (fun k => k = g ∨ k = mb) w1 w3) := F2.out.trans a2
  have H3 : Hid (YAt w3 g mb (moveS S d n)) := a1
  have R3 : Hid (w3.heap[w.heap.size]? = some (.cells #[.bool false, .int .i64 0, .int .i64 0] 48 (0, 0))) := (F3.out.block _ (lt_of_heap R1.out) (by omega)).trans R1.out
  clear a1 a2
  go_wp2_with ((refine wpList_storeB rfl 48 (.tmp 7) (.tmp 65) rfl w.heap.size #[.bool false, .int .i64 0, .int .i64 0] #[.bool false, .int .i64 0, .int .i64 0] 48 rfl rfl R3.out rfl (by kernel_rfl) (by simp [Value.oneCell']) ?_; intro y H9 G9))
  have d0 : y.cell? ⟨w.heap.size, 0, none⟩ = some (.bool false) := cell_of_heap H9.out rfl
  have d1 : y.cell? ⟨w.heap.size, 1, none⟩ = some (.int .i64 0) := cell_of_heap H9.out rfl
  have d2 : y.cell? ⟨w.heap.size, 2, none⟩ = some (.int .i64 0) := cell_of_heap H9.out rfl
  refine bodyPost_ret (v := .tuple #[.int .i64 n, .agg #[.bool false, .int .i64 0, .int .i64 0], .int .i64 0]) (by simp [results, Try.results21, go_sem, d0, d1, d2]) rfl ?_
  exact ⟨rfl, H3.out.fr G9.out (by omega) (by omega), ((F1.out.mono (T := fun k => (k = g ∨ k = mb) ∨ k = w.heap.size) (fun _ _ e => e.elim)).trans ((F3.out.mono (fun k _ e => .inl e)).trans (G9.out.mono (fun k _ e => .inr e)))).mono (fun k hk e => by omega)⟩
theorem yDo_ok8_false (g mb : Nat) (S : Stm) (d wh : Int) (w : World) (n k c er : Int) (H : Hid (YAt w g mb S)) (hd : numB d = true) (hc : decide (0 ≤ wh ∧ wh ≤ 4) = false) (hstep : stepO (stateS S d) wh = (n, k, c, er)) (he : er = 0) (hk1 : ¬ k = 1) (hk2 : ¬ k = 2) (hn : 0 ≤ n ∧ n ≤ 4) (hw : wh = 8) : Calls Try.prog 21 #[.pointer (some ⟨g, 0, none⟩), .int .i64 d, .int .i64 wh] w (DoAs w g mb (n, (false, 0, 0), 0) (dropS (moveS S d n) d)) := by
  subst he hw
  go_enter Try.func21, Try.ntmps21
  go_upto_region 1 with (fail)
  obtain ⟨w1, hw1⟩ : ∃ w1, w1 = w.alloc (.cells #[.bool false, .int .i64 0, .int .i64 0] 48) := ⟨_, rfl⟩
  have F1 : Hid (Fr (fun _ => False) w w1) := by rw [hw1]; exact (Fr.refl _ _).alloc _
  have R1 : Hid (w1.heap[w.heap.size]? = some (.cells #[.bool false, .int .i64 0, .int .i64 0] 48 (0, 0))) := by rw [hw1]; exact heap_alloc_new _ _
  rw [← hw1]
  clear hw1
  have H1 : Hid (YAt w1 g mb S) := H.out.fr F1.out id id
  have hgw : w.heap.size ≠ g ∧ w.heap.size ≠ mb := by have := H.out.lt; omega
  have K : Calls Try.prog 37 #[.pointer (some ⟨g, 0, none⟩)] w1 fun e w' => e = .returned (.bool true) ∧ w1 = w' := by
    obtain ⟨rg, nx, h1, -⟩ := H1.out
    exact ymade_in g _ w1 h1
  have KN := ynumbered_in d w1
  rw [hd] at KN
  have KC := ycomes_in 8 w1
  rw [hc] at KC
  clear hc
  have KS := yState_in g mb S d w1 H1.out ⟨by have := (numB_true hd).1; omega, by have := (numB_true hd).2; omega⟩
  have KT := yStep_in (stateS S d) 8 w1
  unfold stepV at KT
  rw [hstep] at KT
  dsimp only at KT
  go_upto_region 8 with (first | (go_at_call 37; refine K.mono ?_; clear K; rintro e w' ⟨rfl, rfl⟩) | (go_at_call 39; refine KN.mono ?_; clear KN; rintro e w' ⟨rfl, rfl⟩) | (go_at_call 43; refine KC.mono ?_; clear KC; rintro e w' ⟨rfl, rfl⟩) | (go_at_call 17; refine KS.mono ?_; clear KS; rintro e w' ⟨rfl, rfl⟩) | (go_at_call 9; refine KT.mono ?_; clear KT; rintro e w2 ⟨rfl, hf2⟩))
  have F2 : Hid (Fr (fun k => k = g ∨ k = mb) w1 w2) := hf2.mono (fun _ _ e => e.elim)
  have H2 : Hid (YAt w2 g mb S) := H1.out.fr hf2 id id
  have R2 : Hid (w2.heap[w.heap.size]? = some (.cells #[.bool false, .int .i64 0, .int .i64 0] 48 (0, 0))) := (F2.out.block _ (lt_of_heap R1.out) (by omega)).trans R1.out
  clear hf2
  have KM := ymove_at g mb S d n w2 H2.out (numB_true hd) hn
  go_upto_region 15 with (go_at_call 44; refine KM.mono ?_; clear KM; rintro e w3 ⟨rfl, a1, a2⟩)
  have F3 : Hid (Fr (fun k => k = g ∨ k = mb) w1 w3) := F2.out.trans a2
  have H3 : Hid (YAt w3 g mb (moveS S d n)) := a1
  have R3 : Hid (w3.heap[w.heap.size]? = some (.cells #[.bool false, .int .i64 0, .int .i64 0] 48 (0, 0))) := (F3.out.block _ (lt_of_heap R1.out) (by omega)).trans R1.out
  clear a1 a2
  have KX := ydrop_at g mb (moveS S d n) d w3 H3.out
  go_upto_region 17 with (go_at_call 42; refine KX.mono ?_; clear KX; rintro e w4 ⟨rfl, a1, a2⟩)
  have F4 : Hid (Fr (fun k => k = g ∨ k = mb) w1 w4) := F3.out.trans a2
  have H4 : Hid (YAt w4 g mb (dropS (moveS S d n) d)) := a1
  have R4 : Hid (w4.heap[w.heap.size]? = some (.cells #[.bool false, .int .i64 0, .int .i64 0] 48 (0, 0))) := (F4.out.block _ (lt_of_heap R1.out) (by omega)).trans R1.out
  clear a1 a2
  go_wp2_with ((refine wpList_storeB rfl 48 (.tmp 7) (.tmp 65) rfl w.heap.size #[.bool false, .int .i64 0, .int .i64 0] #[.bool false, .int .i64 0, .int .i64 0] 48 rfl rfl R4.out rfl (by kernel_rfl) (by simp [Value.oneCell']) ?_; intro y H9 G9))
  have d0 : y.cell? ⟨w.heap.size, 0, none⟩ = some (.bool false) := cell_of_heap H9.out rfl
  have d1 : y.cell? ⟨w.heap.size, 1, none⟩ = some (.int .i64 0) := cell_of_heap H9.out rfl
  have d2 : y.cell? ⟨w.heap.size, 2, none⟩ = some (.int .i64 0) := cell_of_heap H9.out rfl
  refine bodyPost_ret (v := .tuple #[.int .i64 n, .agg #[.bool false, .int .i64 0, .int .i64 0], .int .i64 0]) (by simp [results, Try.results21, go_sem, d0, d1, d2]) rfl ?_
  exact ⟨rfl, H4.out.fr G9.out (by omega) (by omega), ((F1.out.mono (T := fun k => (k = g ∨ k = mb) ∨ k = w.heap.size) (fun _ _ e => e.elim)).trans ((F4.out.mono (fun k _ e => .inl e)).trans (G9.out.mono (fun k _ e => .inr e)))).mono (fun k hk e => by omega)⟩
theorem yDo_err_true (g mb : Nat) (S : Stm) (d wh : Int) (w : World) (n k c er : Int) (H : Hid (YAt w g mb S)) (hd : numB d = true) (hc : decide (0 ≤ wh ∧ wh ≤ 4) = true) (hg : S.gone.contains d = false) (hstep : stepO (stateS S d) wh = (n, k, c, er)) (he : ¬ er = 0) : Calls Try.prog 21 #[.pointer (some ⟨g, 0, none⟩), .int .i64 d, .int .i64 wh] w (DoAs w g mb (0, (false, 0, 0), er) S) := by
  go_enter Try.func21, Try.ntmps21
  go_upto_region 1 with (fail)
  obtain ⟨w1, hw1⟩ : ∃ w1, w1 = w.alloc (.cells #[.bool false, .int .i64 0, .int .i64 0] 48) := ⟨_, rfl⟩
  have F1 : Hid (Fr (fun _ => False) w w1) := by rw [hw1]; exact (Fr.refl _ _).alloc _
  have R1 : Hid (w1.heap[w.heap.size]? = some (.cells #[.bool false, .int .i64 0, .int .i64 0] 48 (0, 0))) := by rw [hw1]; exact heap_alloc_new _ _
  rw [← hw1]
  clear hw1
  have H1 : Hid (YAt w1 g mb S) := H.out.fr F1.out id id
  have hgw : w.heap.size ≠ g ∧ w.heap.size ≠ mb := by have := H.out.lt; omega
  have K : Calls Try.prog 37 #[.pointer (some ⟨g, 0, none⟩)] w1 fun e w' => e = .returned (.bool true) ∧ w1 = w' := by
    obtain ⟨rg, nx, h1, -⟩ := H1.out
    exact ymade_in g _ w1 h1
  have KN := ynumbered_in d w1
  rw [hd] at KN
  have KC := ycomes_in wh w1
  rw [hc] at KC
  have KD := yDropped_in g mb S d w1 H1.out
  rw [hd, hg] at KD
  clear hc
  have KS := yState_in g mb S d w1 H1.out ⟨by have := (numB_true hd).1; omega, by have := (numB_true hd).2; omega⟩
  have KT := yStep_in (stateS S d) wh w1
  unfold stepV at KT
  rw [hstep] at KT
  dsimp only at KT
  go_upto_region 8 with (first | (go_at_call 37; refine K.mono ?_; clear K; rintro e w' ⟨rfl, rfl⟩) | (go_at_call 39; refine KN.mono ?_; clear KN; rintro e w' ⟨rfl, rfl⟩) | (go_at_call 43; refine KC.mono ?_; clear KC; rintro e w' ⟨rfl, rfl⟩) | (go_at_call 22; refine KD.mono ?_; clear KD; rintro e w' ⟨rfl, rfl⟩) | (go_at_call 17; refine KS.mono ?_; clear KS; rintro e w' ⟨rfl, rfl⟩) | (go_at_call 9; refine KT.mono ?_; clear KT; rintro e w2 ⟨rfl, hf2⟩))
  have F2 : Hid (Fr (fun k => k = g ∨ k = mb) w1 w2) := hf2.mono (fun _ _ e => e.elim)
  have H2 : Hid (YAt w2 g mb S) := H1.out.fr hf2 id id
  have R2 : Hid (w2.heap[w.heap.size]? = some (.cells #[.bool false, .int .i64 0, .int .i64 0] 48 (0, 0))) := (F2.out.block _ (lt_of_heap R1.out) (by omega)).trans R1.out
  clear hf2
  go_wp2_with ((refine wpList_storeB rfl 48 (.tmp 7) (.tmp 42) rfl w.heap.size #[.bool false, .int .i64 0, .int .i64 0] #[.bool false, .int .i64 0, .int .i64 0] 48 rfl rfl R2.out rfl (by kernel_rfl) (by simp [Value.oneCell']) ?_; intro y H9 G9))
  have d0 : y.cell? ⟨w.heap.size, 0, none⟩ = some (.bool false) := cell_of_heap H9.out rfl
  have d1 : y.cell? ⟨w.heap.size, 1, none⟩ = some (.int .i64 0) := cell_of_heap H9.out rfl
  have d2 : y.cell? ⟨w.heap.size, 2, none⟩ = some (.int .i64 0) := cell_of_heap H9.out rfl
  refine bodyPost_ret (v := .tuple #[.int .i64 0, .agg #[.bool false, .int .i64 0, .int .i64 0], .int .i64 er]) (by simp [results, Try.results21, go_sem, d0, d1, d2]) rfl ?_
  exact ⟨rfl, H2.out.fr G9.out (by omega) (by omega), ((F1.out.mono (T := fun k => (k = g ∨ k = mb) ∨ k = w.heap.size) (fun _ _ e => e.elim)).trans ((F2.out.mono (fun k _ e => .inl e)).trans (G9.out.mono (fun k _ e => .inr e)))).mono (fun k hk e => by omega)⟩
theorem yDo_k1_true (g mb : Nat) (S : Stm) (d wh : Int) (w : World) (n k c er : Int) (H : Hid (YAt w g mb S)) (hd : numB d = true) (hc : decide (0 ≤ wh ∧ wh ≤ 4) = true) (hg : S.gone.contains d = false) (hstep : stepO (stateS S d) wh = (n, k, c, er)) (he : er = 0) (hk : k = 1) : Calls Try.prog 21 #[.pointer (some ⟨g, 0, none⟩), .int .i64 d, .int .i64 wh] w (DoAs w g mb (0, (true, d, c), 0) S) := by
  subst he hk
  go_enter Try.func21, Try.ntmps21
  go_upto_region 1 with (fail)
  obtain ⟨w1, hw1⟩ : ∃ w1, w1 = w.alloc (.cells #[.bool false, .int .i64 0, .int .i64 0] 48) := ⟨_, rfl⟩
  have F1 : Hid (Fr (fun _ => False) w w1) := by rw [hw1]; exact (Fr.refl _ _).alloc _
  have R1 : Hid (w1.heap[w.heap.size]? = some (.cells #[.bool false, .int .i64 0, .int .i64 0] 48 (0, 0))) := by rw [hw1]; exact heap_alloc_new _ _
  rw [← hw1]
  clear hw1
  have H1 : Hid (YAt w1 g mb S) := H.out.fr F1.out id id
  have hgw : w.heap.size ≠ g ∧ w.heap.size ≠ mb := by have := H.out.lt; omega
  have K : Calls Try.prog 37 #[.pointer (some ⟨g, 0, none⟩)] w1 fun e w' => e = .returned (.bool true) ∧ w1 = w' := by
    obtain ⟨rg, nx, h1, -⟩ := H1.out
    exact ymade_in g _ w1 h1
  have KN := ynumbered_in d w1
  rw [hd] at KN
  have KC := ycomes_in wh w1
  rw [hc] at KC
  have KD := yDropped_in g mb S d w1 H1.out
  rw [hd, hg] at KD
  clear hc
  have KS := yState_in g mb S d w1 H1.out ⟨by have := (numB_true hd).1; omega, by have := (numB_true hd).2; omega⟩
  have KT := yStep_in (stateS S d) wh w1
  unfold stepV at KT
  rw [hstep] at KT
  dsimp only at KT
  go_upto_region 8 with (first | (go_at_call 37; refine K.mono ?_; clear K; rintro e w' ⟨rfl, rfl⟩) | (go_at_call 39; refine KN.mono ?_; clear KN; rintro e w' ⟨rfl, rfl⟩) | (go_at_call 43; refine KC.mono ?_; clear KC; rintro e w' ⟨rfl, rfl⟩) | (go_at_call 22; refine KD.mono ?_; clear KD; rintro e w' ⟨rfl, rfl⟩) | (go_at_call 17; refine KS.mono ?_; clear KS; rintro e w' ⟨rfl, rfl⟩) | (go_at_call 9; refine KT.mono ?_; clear KT; rintro e w2 ⟨rfl, hf2⟩))
  have F2 : Hid (Fr (fun k => k = g ∨ k = mb) w1 w2) := hf2.mono (fun _ _ e => e.elim)
  have H2 : Hid (YAt w2 g mb S) := H1.out.fr hf2 id id
  have R2 : Hid (w2.heap[w.heap.size]? = some (.cells #[.bool false, .int .i64 0, .int .i64 0] 48 (0, 0))) := (F2.out.block _ (lt_of_heap R1.out) (by omega)).trans R1.out
  clear hf2
  go_wp2_with ((refine wpList_storeB rfl 48 (.tmp 7) (.tmp 49) rfl w.heap.size #[.bool false, .int .i64 0, .int .i64 0] #[.bool true, .int .i64 d, .int .i64 c] 48 rfl rfl R2.out rfl (by kernel_rfl) (by simp [Value.oneCell']) ?_; intro y H9 G9))
  have d0 : y.cell? ⟨w.heap.size, 0, none⟩ = some (.bool true) := cell_of_heap H9.out rfl
  have d1 : y.cell? ⟨w.heap.size, 1, none⟩ = some (.int .i64 d) := cell_of_heap H9.out rfl
  have d2 : y.cell? ⟨w.heap.size, 2, none⟩ = some (.int .i64 c) := cell_of_heap H9.out rfl
  refine bodyPost_ret (v := .tuple #[.int .i64 0, .agg #[.bool true, .int .i64 d, .int .i64 c], .int .i64 0]) (by simp [results, Try.results21, go_sem, d0, d1, d2]) rfl ?_
  exact ⟨rfl, H2.out.fr G9.out (by omega) (by omega), ((F1.out.mono (T := fun k => (k = g ∨ k = mb) ∨ k = w.heap.size) (fun _ _ e => e.elim)).trans ((F2.out.mono (fun k _ e => .inl e)).trans (G9.out.mono (fun k _ e => .inr e)))).mono (fun k hk e => by omega)⟩
theorem yDo_k2_true (g mb : Nat) (S : Stm) (d wh : Int) (w : World) (n k c er : Int) (H : Hid (YAt w g mb S)) (hd : numB d = true) (hc : decide (0 ≤ wh ∧ wh ≤ 4) = true) (hg : S.gone.contains d = false) (hstep : stepO (stateS S d) wh = (n, k, c, er)) (he : er = 0) (hk : k = 2) : Calls Try.prog 21 #[.pointer (some ⟨g, 0, none⟩), .int .i64 d, .int .i64 wh] w (DoAs w g mb (0, (true, 0, c), 0) S) := by
  subst he hk
  go_enter Try.func21, Try.ntmps21
  go_upto_region 1 with (fail)
  obtain ⟨w1, hw1⟩ : ∃ w1, w1 = w.alloc (.cells #[.bool false, .int .i64 0, .int .i64 0] 48) := ⟨_, rfl⟩
  have F1 : Hid (Fr (fun _ => False) w w1) := by rw [hw1]; exact (Fr.refl _ _).alloc _
  have R1 : Hid (w1.heap[w.heap.size]? = some (.cells #[.bool false, .int .i64 0, .int .i64 0] 48 (0, 0))) := by rw [hw1]; exact heap_alloc_new _ _
  rw [← hw1]
  clear hw1
  have H1 : Hid (YAt w1 g mb S) := H.out.fr F1.out id id
  have hgw : w.heap.size ≠ g ∧ w.heap.size ≠ mb := by have := H.out.lt; omega
  have K : Calls Try.prog 37 #[.pointer (some ⟨g, 0, none⟩)] w1 fun e w' => e = .returned (.bool true) ∧ w1 = w' := by
    obtain ⟨rg, nx, h1, -⟩ := H1.out
    exact ymade_in g _ w1 h1
  have KN := ynumbered_in d w1
  rw [hd] at KN
  have KC := ycomes_in wh w1
  rw [hc] at KC
  have KD := yDropped_in g mb S d w1 H1.out
  rw [hd, hg] at KD
  clear hc
  have KS := yState_in g mb S d w1 H1.out ⟨by have := (numB_true hd).1; omega, by have := (numB_true hd).2; omega⟩
  have KT := yStep_in (stateS S d) wh w1
  unfold stepV at KT
  rw [hstep] at KT
  dsimp only at KT
  go_upto_region 8 with (first | (go_at_call 37; refine K.mono ?_; clear K; rintro e w' ⟨rfl, rfl⟩) | (go_at_call 39; refine KN.mono ?_; clear KN; rintro e w' ⟨rfl, rfl⟩) | (go_at_call 43; refine KC.mono ?_; clear KC; rintro e w' ⟨rfl, rfl⟩) | (go_at_call 22; refine KD.mono ?_; clear KD; rintro e w' ⟨rfl, rfl⟩) | (go_at_call 17; refine KS.mono ?_; clear KS; rintro e w' ⟨rfl, rfl⟩) | (go_at_call 9; refine KT.mono ?_; clear KT; rintro e w2 ⟨rfl, hf2⟩))
  have F2 : Hid (Fr (fun k => k = g ∨ k = mb) w1 w2) := hf2.mono (fun _ _ e => e.elim)
  have H2 : Hid (YAt w2 g mb S) := H1.out.fr hf2 id id
  have R2 : Hid (w2.heap[w.heap.size]? = some (.cells #[.bool false, .int .i64 0, .int .i64 0] 48 (0, 0))) := (F2.out.block _ (lt_of_heap R1.out) (by omega)).trans R1.out
  clear hf2
  go_wp2_with ((refine wpList_storeB rfl 48 (.tmp 7) (.tmp 54) rfl w.heap.size #[.bool false, .int .i64 0, .int .i64 0] #[.bool true, .int .i64 0, .int .i64 c] 48 rfl rfl R2.out rfl (by kernel_rfl) (by simp [Value.oneCell']) ?_; intro y H9 G9))
  have d0 : y.cell? ⟨w.heap.size, 0, none⟩ = some (.bool true) := cell_of_heap H9.out rfl
  have d1 : y.cell? ⟨w.heap.size, 1, none⟩ = some (.int .i64 0) := cell_of_heap H9.out rfl
  have d2 : y.cell? ⟨w.heap.size, 2, none⟩ = some (.int .i64 c) := cell_of_heap H9.out rfl
  refine bodyPost_ret (v := .tuple #[.int .i64 0, .agg #[.bool true, .int .i64 0, .int .i64 c], .int .i64 0]) (by simp [results, Try.results21, go_sem, d0, d1, d2]) rfl ?_
  exact ⟨rfl, H2.out.fr G9.out (by omega) (by omega), ((F1.out.mono (T := fun k => (k = g ∨ k = mb) ∨ k = w.heap.size) (fun _ _ e => e.elim)).trans ((F2.out.mono (fun k _ e => .inl e)).trans (G9.out.mono (fun k _ e => .inr e)))).mono (fun k hk e => by omega)⟩
theorem yDo_ok_true (g mb : Nat) (S : Stm) (d wh : Int) (w : World) (n k c er : Int) (H : Hid (YAt w g mb S)) (hd : numB d = true) (hc : decide (0 ≤ wh ∧ wh ≤ 4) = true) (hg : S.gone.contains d = false) (hstep : stepO (stateS S d) wh = (n, k, c, er)) (he : er = 0) (hk1 : ¬ k = 1) (hk2 : ¬ k = 2) (hn : 0 ≤ n ∧ n ≤ 4) (hw : ¬ wh = 8) : Calls Try.prog 21 #[.pointer (some ⟨g, 0, none⟩), .int .i64 d, .int .i64 wh] w (DoAs w g mb (n, (false, 0, 0), 0) (moveS S d n)) := by
  subst he
  go_enter Try.func21, Try.ntmps21
  go_upto_region 1 with (fail)
  obtain ⟨w1, hw1⟩ : ∃ w1, w1 = w.alloc (.cells #[.bool false, .int .i64 0, .int .i64 0] 48) := ⟨_, rfl⟩
  have F1 : Hid (Fr (fun _ => False) w w1) := by rw [hw1]; exact (Fr.refl _ _).alloc _
  have R1 : Hid (w1.heap[w.heap.size]? = some (.cells #[.bool false, .int .i64 0, .int .i64 0] 48 (0, 0))) := by rw [hw1]; exact heap_alloc_new _ _
  rw [← hw1]
  clear hw1
  have H1 : Hid (YAt w1 g mb S) := H.out.fr F1.out id id
  have hgw : w.heap.size ≠ g ∧ w.heap.size ≠ mb := by have := H.out.lt; omega
  have K : Calls Try.prog 37 #[.pointer (some ⟨g, 0, none⟩)] w1 fun e w' => e = .returned (.bool true) ∧ w1 = w' := by
    obtain ⟨rg, nx, h1, -⟩ := H1.out
    exact ymade_in g _ w1 h1
  have KN := ynumbered_in d w1
  rw [hd] at KN
  have KC := ycomes_in wh w1
  rw [hc] at KC
  have KD := yDropped_in g mb S d w1 H1.out
  rw [hd, hg] at KD
  clear hc
  have KS := yState_in g mb S d w1 H1.out ⟨by have := (numB_true hd).1; omega, by have := (numB_true hd).2; omega⟩
  have KT := yStep_in (stateS S d) wh w1
  unfold stepV at KT
  rw [hstep] at KT
  dsimp only at KT
  go_upto_region 8 with (first | (go_at_call 37; refine K.mono ?_; clear K; rintro e w' ⟨rfl, rfl⟩) | (go_at_call 39; refine KN.mono ?_; clear KN; rintro e w' ⟨rfl, rfl⟩) | (go_at_call 43; refine KC.mono ?_; clear KC; rintro e w' ⟨rfl, rfl⟩) | (go_at_call 22; refine KD.mono ?_; clear KD; rintro e w' ⟨rfl, rfl⟩) | (go_at_call 17; refine KS.mono ?_; clear KS; rintro e w' ⟨rfl, rfl⟩) | (go_at_call 9; refine KT.mono ?_; clear KT; rintro e w2 ⟨rfl, hf2⟩))
  have F2 : Hid (Fr (fun k => k = g ∨ k = mb) w1 w2) := hf2.mono (fun _ _ e => e.elim)
  have H2 : Hid (YAt w2 g mb S) := H1.out.fr hf2 id id
  have R2 : Hid (w2.heap[w.heap.size]? = some (.cells #[.bool false, .int .i64 0, .int .i64 0] 48 (0, 0))) := (F2.out.block _ (lt_of_heap R1.out) (by omega)).trans R1.out
  clear hf2
  have KM := ymove_at g mb S d n w2 H2.out (numB_true hd) hn
  go_upto_region 15 with (go_at_call 44; refine KM.mono ?_; clear KM; rintro e w3 ⟨rfl, a1, a2⟩)
  have F3 : Hid (Fr (fun k => k = g ∨ k = mb) w1 w3) := F2.out.trans a2
  have H3 : Hid (YAt w3 g mb (moveS S d n)) := a1
  have R3 : Hid (w3.heap[w.heap.size]? = some (.cells #[.bool false, .int .i64 0, .int .i64 0] 48 (0, 0))) := (F3.out.block _ (lt_of_heap R1.out) (by omega)).trans R1.out
  clear a1 a2
  go_wp2_with ((refine wpList_storeB rfl 48 (.tmp 7) (.tmp 65) rfl w.heap.size #[.bool false, .int .i64 0, .int .i64 0] #[.bool false, .int .i64 0, .int .i64 0] 48 rfl rfl R3.out rfl (by kernel_rfl) (by simp [Value.oneCell']) ?_; intro y H9 G9))
  have d0 : y.cell? ⟨w.heap.size, 0, none⟩ = some (.bool false) := cell_of_heap H9.out rfl
  have d1 : y.cell? ⟨w.heap.size, 1, none⟩ = some (.int .i64 0) := cell_of_heap H9.out rfl
  have d2 : y.cell? ⟨w.heap.size, 2, none⟩ = some (.int .i64 0) := cell_of_heap H9.out rfl
  refine bodyPost_ret (v := .tuple #[.int .i64 n, .agg #[.bool false, .int .i64 0, .int .i64 0], .int .i64 0]) (by simp [results, Try.results21, go_sem, d0, d1, d2]) rfl ?_
  exact ⟨rfl, H3.out.fr G9.out (by omega) (by omega), ((F1.out.mono (T := fun k => (k = g ∨ k = mb) ∨ k = w.heap.size) (fun _ _ e => e.elim)).trans ((F3.out.mono (fun k _ e => .inl e)).trans (G9.out.mono (fun k _ e => .inr e)))).mono (fun k hk e => by omega)⟩
theorem yDo_in (g mb : Nat) (S : Stm) (d wh : Int) (w : World) (h : YAt w g mb S) : Calls Try.prog 21 #[.pointer (some ⟨g, 0, none⟩), .int .i64 d, .int .i64 wh] w (DoAs w g mb (doS S d wh).1 (doS S d wh).2) := by
  cases hd : numB d
  · have e1 : doS S d wh = ((0, (false, 0, 0), 1), S) := by
      unfold doS
      rw [if_pos (by have := numB_false hd; omega)]
    rw [e1]
    exact yDo_num g mb S d wh w h hd
  · have hr := numB_true hd
    have e0 : ¬ (d < 1 ∨ 2147483647 < d) := by omega
    by_cases hg : S.gone.contains d = true ∧ 0 ≤ wh ∧ wh ≤ 4
    · have e1 : doS S d wh = ((4, (false, 0, 0), 0), S) := by
        unfold doS
        rw [if_neg e0, if_pos hg]
      rw [e1]
      exact yDo_gone g mb S d wh w h hd (decide_eq_true hg.2) hg.1
    · obtain ⟨⟨n, k, c, er⟩, hstep⟩ : ∃ s, stepO (stateS S d) wh = s := ⟨_, rfl⟩
      have hn : 0 ≤ n ∧ n ≤ 4 := by have := step_le (stateS S d) wh; rw [hstep] at this; exact this
      have e1 : doS S d wh = if er ≠ 0 then ((0, (false, 0, 0), er), S) else if k = 1 then ((0, (true, d, c), 0), S) else if k = 2 then ((0, (true, 0, c), 0), S) else ((n, (false, 0, 0), 0), turnS S d n wh) := by
        unfold doS
        rw [if_neg e0, if_neg hg, hstep]
      rw [e1]
      by_cases hc : 0 ≤ wh ∧ wh ≤ 4
      · have hg2 : S.gone.contains d = false := by
          cases hx : S.gone.contains d with
          | false => rfl
          | true => exact absurd ⟨hx, hc⟩ hg
        have hc2 : decide (0 ≤ wh ∧ wh ≤ 4) = true := decide_eq_true hc
        by_cases he : er = 0
        · rw [if_neg (by simp [he])]
          by_cases hk1 : k = 1
          · rw [if_pos hk1]
            exact yDo_k1_true g mb S d wh w n k c er h hd hc2 hg2 hstep he hk1
          · rw [if_neg hk1]
            by_cases hk2 : k = 2
            · rw [if_pos hk2]
              exact yDo_k2_true g mb S d wh w n k c er h hd hc2 hg2 hstep he hk2
            · rw [if_neg hk2, turn_not8 (by omega)]
              exact yDo_ok_true g mb S d wh w n k c er h hd hc2 hg2 hstep he hk1 hk2 hn (by omega)
        · rw [if_pos he]
          exact yDo_err_true g mb S d wh w n k c er h hd hc2 hg2 hstep he
      · have hc2 : decide (0 ≤ wh ∧ wh ≤ 4) = false := decide_eq_false hc
        by_cases he : er = 0
        · rw [if_neg (by simp [he])]
          by_cases hk1 : k = 1
          · rw [if_pos hk1]
            exact yDo_k1_false g mb S d wh w n k c er h hd hc2 hstep he hk1
          · rw [if_neg hk1]
            by_cases hk2 : k = 2
            · rw [if_pos hk2]
              exact yDo_k2_false g mb S d wh w n k c er h hd hc2 hstep he hk2
            · rw [if_neg hk2]
              by_cases hw : wh = 8
              · have hkn := reset_known (S := S) (d := d) (by rw [← hw, hstep]; exact he) (by rw [← hw, hstep]; exact hk1) (by rw [← hw, hstep]; exact hk2)
                obtain ⟨h4, y, hy⟩ := hkn
                rw [← hw, hstep] at h4
                have h5 : n = 4 := h4
                have e5 : turnS S d n wh = dropS (moveS S d n) d := by rw [hw, h5]; exact turn_8 hy
                rw [e5]
                exact yDo_ok8_false g mb S d wh w n k c er h hd hc2 hstep he hk1 hk2 hn hw
              · rw [turn_not8 hw]
                exact yDo_ok_false g mb S d wh w n k c er h hd hc2 hstep he hk1 hk2 hn hw
        · rw [if_pos he]
          exact yDo_err_false g mb S d wh w n k c er h hd hc2 hstep he
end Go.Proofs.Ytahlhkpabkplfaa
