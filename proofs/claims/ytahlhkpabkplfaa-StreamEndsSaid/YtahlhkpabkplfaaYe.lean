/- The program's streams: New, Limit, drop, open, move. -/
import Derived.Test.YtahlhkpabkplfaaYc
import Derived.Test.YtahlhkpabkplfaaYd
import Derived.Test.YtahlhkpabkplfaaXp
import Derived.Deep.Cut
namespace Go.Proofs.Ytahlhkpabkplfaa
open Go.RowKit Go.Maps
set_option linter.unusedVariables false
set_option maxRecDepth 100000
set_option maxHeartbeats 4000000

theorem ydrop_in (g : Nat) (y : Yst) (nx : Nat) (d : Int) (w : World) (h : StC w g y) (hn : y.nx = (nx : Int)) (hx : nx < 64) : Calls Try.prog 42 #[.pointer (some ⟨g, 0, none⟩), .int .i64 d] w fun e w' => e = .returned (.tuple #[]) ∧ StC w' g { y with rg := y.rg.set nx d, nx := (((nx + 1) % 64 : Nat) : Int) } ∧ Fr (fun k => k = g) w w' := by
  obtain ⟨mb, sv, ol, oo, om, pl, po, pm, rg, ny⟩ := y
  dsimp only at hn
  subst hn
  have c72 := h.next
  have z : ∀ j, w.frozen? ⟨g, j, none⟩ = false := fun j => frozen_of_heap h.1
  have c0 := h.cells.1
  have cr := h.ring nx hx
  go_enter Try.func42, Try.ntmps42
  go_wp2_with (fail)
  refine wp_region_cut 9 1 #[true, true, true, true, true, true, true, true, true, false] (by kernel_rfl) (by kernel_rfl) rfl rfl ?_
  simp only [List.take_succ_cons, List.take_zero]
  repeat (go_big_quiet_step (fail))
  refine wpQuiet_nil ?_
  rintro _ ⟨nq, rfl⟩ mm
  refine wpAny_ready (rs := [9]) (by kernel_rfl) (by simp) ?_
  refine AllReady.cons rfl (fun K hK => ?_) AllReady.nil
  go_simp
  refine hK _ _ ?_
  clear hK K
  refine wpAny_done (by kernel_rfl) ?_ _
  obtain ⟨w2, hw2⟩ : ∃ w2, w2 = (w.drewN nq).setCell ⟨g, 8 + nx, none⟩ (.int .i64 d) := ⟨_, rfl⟩
  have h2 : StC w2 g ⟨mb, sv, ol, oo, om, pl, po, pm, rg.set nx d, nx⟩ := by
    rw [hw2]
    exact (h.fr ((Fr.refl (fun _ => False) w).drewN nq) id).set (set_rg _ nx d h.2 hx) (by simp [show rg.length = 64 from h.2])
  have F2 : Fr (fun k => k = g) w w2 := by rw [hw2]; exact ((Fr.refl _ _).drewN _).setB _ _
  rw [← hw2]
  clear hw2 c72 z cr c0
  have c72 := h2.next
  have z : w2.frozen? ⟨g, 72, none⟩ = false := frozen_of_heap h2.1
  have hr : ((nx : Int) + 1).tmod 64 = (((nx + 1) % 64 : Nat) : Int) := by rw [Int.tmod_eq_emod_of_nonneg (by omega)]; omega
  have HR : Hid (((nx : Int) + 1) % 64 = (((nx + 1) % 64 : Nat) : Int)) := by show _ = _; omega
  go_wp2_with (fail)
  rw [HR.out]
  refine bodyPost_end (results_none rfl _ _ _) rfl ⟨rfl, h2.set (set_nx _ _ h2.2) h2.2, F2.setB _ _⟩
theorem yopen_true (g : Nat) (y : Yst) (n : Nat) (M : Int → Option Value) (d : Int) (w : World) (h : StC w g y) (hm : MapAt w y.mb n M) (hn : n < maxLen) (hd : 1 ≤ d ∧ d ≤ 2147483647) (ho : ownS y.sv d = true) (hb : 0 ≤ y.oo ∧ y.oo ≤ 1024) :
    Calls Try.prog 38 #[.pointer (some ⟨g, 0, none⟩), .int .i64 d] w fun e w' => e = .returned (.tuple #[]) ∧ StC w' g { y with ol := d, oo := y.oo + 1 } ∧ MapAt w' y.mb (n + 1) (putM M d (.int .i64 0)) ∧ Fr (fun k => k = g ∨ k = y.mb) w w' := by
  have K := ysideOf_in g y d w h hd.1
  rw [ho] at K
  obtain ⟨mb, sv, ol, oo, om, pl, po, pm, rg, ny⟩ := y
  dsimp only at hm hb K ⊢
  have hdI : IsI d := ⟨by omega, by omega⟩
  have hbm : mb ≠ g := hm.ne h.1
  have z : ∀ j, w.frozen? ⟨g, j, none⟩ = false := fun j => frozen_of_heap h.1
  obtain ⟨c0, c1, c2, c3, c4, c5, c6, c7⟩ := h.cells
  go_enter Try.func38, Try.ntmps38
  go_upto_region 2 with (go_at_call 40; refine K.mono ?_; clear K; rintro e w' ⟨rfl, rfl⟩)
  obtain ⟨w2, hw2⟩ : ∃ w2, w2 = w.setCell ⟨g, 2, none⟩ (.int .i64 d) := ⟨_, rfl⟩
  have h2 : StC w2 g { (⟨mb, sv, ol, oo, om, pl, po, pm, rg, ny⟩ : Yst) with ol := d } := by rw [hw2]; exact h.set (set_ol _ _) h.2
  have F2 : Fr (fun k => k = g) w w2 := by rw [hw2]; exact (Fr.refl _ _).setB _ _
  rw [← hw2]
  clear hw2 c0 c1 c2 c3 c4 c5 c6 c7 z
  obtain ⟨c0, c1, c2, c3, c4, c5, c6, c7⟩ := h2.cells
  have z : ∀ j, w2.frozen? ⟨g, j, none⟩ = false := fun j => frozen_of_heap h2.1
  go_upto_region 3 with (fail)
  obtain ⟨w3, hw3⟩ : ∃ w3, w3 = w2.setCell ⟨g, 3, none⟩ (.int .i64 (oo + 1)) := ⟨_, rfl⟩
  have h3 : StC w3 g { (⟨mb, sv, ol, oo, om, pl, po, pm, rg, ny⟩ : Yst) with ol := d, oo := oo + 1 } := by rw [hw3]; exact h2.set (set_oo _ _) h.2
  have F3 : Fr (fun k => k = g) w w3 := by rw [hw3]; exact F2.setB _ _
  rw [← hw3]
  clear hw3 c0 c1 c2 c3 c4 c5 c6 c7 z
  obtain ⟨c0, c1, c2, c3, c4, c5, c6, c7⟩ := h3.cells
  have hm3 : MapAt w3 mb n M := hm.fr F3 hbm
  go_wp2_with (refine wpList_put rfl (.tmp 22) (.tmp 23) (.const (.int .i64 0)) 55 (.inl rfl) 3 Try.underlying55 mb n M rfl hm3 hn d rfl hdI (.int .i64 0) rfl ?_; intro w4 hm4 hf4 hs4)
  refine bodyPost_end (results_none rfl _ _ _) rfl ⟨rfl, h3.fr hf4 (fun e => hbm e.symm), hm4.mono (by split <;> omega), (F3.mono (fun _ _ e => .inl e)).trans (hf4.mono (fun _ _ e => .inr e))⟩
theorem yopen_false (g : Nat) (y : Yst) (n : Nat) (M : Int → Option Value) (d : Int) (w : World) (h : StC w g y) (hm : MapAt w y.mb n M) (hn : n < maxLen) (hd : 1 ≤ d ∧ d ≤ 2147483647) (ho : ownS y.sv d = false) (hb : 0 ≤ y.po ∧ y.po ≤ 1024) :
    Calls Try.prog 38 #[.pointer (some ⟨g, 0, none⟩), .int .i64 d] w fun e w' => e = .returned (.tuple #[]) ∧ StC w' g { y with pl := d, po := y.po + 1 } ∧ MapAt w' y.mb (n + 1) (putM M d (.int .i64 0)) ∧ Fr (fun k => k = g ∨ k = y.mb) w w' := by
  have K := ysideOf_in g y d w h hd.1
  rw [ho] at K
  obtain ⟨mb, sv, ol, oo, om, pl, po, pm, rg, ny⟩ := y
  dsimp only at hm hb K ⊢
  have hdI : IsI d := ⟨by omega, by omega⟩
  have hbm : mb ≠ g := hm.ne h.1
  have z : ∀ j, w.frozen? ⟨g, j, none⟩ = false := fun j => frozen_of_heap h.1
  obtain ⟨c0, c1, c2, c3, c4, c5, c6, c7⟩ := h.cells
  go_enter Try.func38, Try.ntmps38
  go_upto_region 2 with (go_at_call 40; refine K.mono ?_; clear K; rintro e w' ⟨rfl, rfl⟩)
  obtain ⟨w2, hw2⟩ : ∃ w2, w2 = w.setCell ⟨g, 5, none⟩ (.int .i64 d) := ⟨_, rfl⟩
  have h2 : StC w2 g { (⟨mb, sv, ol, oo, om, pl, po, pm, rg, ny⟩ : Yst) with pl := d } := by rw [hw2]; exact h.set (set_pl _ _) h.2
  have F2 : Fr (fun k => k = g) w w2 := by rw [hw2]; exact (Fr.refl _ _).setB _ _
  rw [← hw2]
  clear hw2 c0 c1 c2 c3 c4 c5 c6 c7 z
  obtain ⟨c0, c1, c2, c3, c4, c5, c6, c7⟩ := h2.cells
  have z : ∀ j, w2.frozen? ⟨g, j, none⟩ = false := fun j => frozen_of_heap h2.1
  go_upto_region 3 with (fail)
  obtain ⟨w3, hw3⟩ : ∃ w3, w3 = w2.setCell ⟨g, 6, none⟩ (.int .i64 (po + 1)) := ⟨_, rfl⟩
  have h3 : StC w3 g { (⟨mb, sv, ol, oo, om, pl, po, pm, rg, ny⟩ : Yst) with pl := d, po := po + 1 } := by rw [hw3]; exact h2.set (set_po _ _) h.2
  have F3 : Fr (fun k => k = g) w w3 := by rw [hw3]; exact F2.setB _ _
  rw [← hw3]
  clear hw3 c0 c1 c2 c3 c4 c5 c6 c7 z
  obtain ⟨c0, c1, c2, c3, c4, c5, c6, c7⟩ := h3.cells
  have hm3 : MapAt w3 mb n M := hm.fr F3 hbm
  go_wp2_with (refine wpList_put rfl (.tmp 22) (.tmp 23) (.const (.int .i64 0)) 55 (.inl rfl) 3 Try.underlying55 mb n M rfl hm3 hn d rfl hdI (.int .i64 0) rfl ?_; intro w4 hm4 hf4 hs4)
  refine bodyPost_end (results_none rfl _ _ _) rfl ⟨rfl, h3.fr hf4 (fun e => hbm e.symm), hm4.mono (by split <;> omega), (F3.mono (fun _ _ e => .inl e)).trans (hf4.mono (fun _ _ e => .inr e))⟩
theorem yzero_int (w : World) : (zeroValue 3).run Try.prog w = .ok (.int .i64 0) w := by kernel_rfl
theorem ymove_not (g : Nat) (y : Yst) (n : Nat) (M : Int → Option Value) (d nx : Int) (w : World) (h : StC w g y) (hm : MapAt w y.mb n M) (hd : 1 ≤ d ∧ d ≤ 2147483647) (hk : M d = none) :
    Calls Try.prog 44 #[.pointer (some ⟨g, 0, none⟩), .int .i64 d, .int .i64 nx] w fun e w' => e = .returned (.tuple #[]) ∧ w = w' := by
  have hdI : IsI d := ⟨by omega, by omega⟩
  obtain ⟨c0, -⟩ := h.cells
  have hv : (M d).getD (.int .i64 0) = .int .i64 0 := by rw [hk]; rfl
  have hs : (M d).isSome = false := by rw [hk]; rfl
  go_enter Try.func44, Try.ntmps44
  go_wp2_with (refine wpList_look_ok rfl (.tmp 12) (.tmp 13) 55 rfl 3 Try.underlying55 (.int .i64 0) yzero_int y.mb n M rfl hm d rfl hdI (.int .i64 0) hv false hs ?_)
  exact bodyPost_ret (v := .tuple #[]) (by simp [results, Try.results44, go_sem]) rfl ⟨rfl, rfl⟩
theorem ymove_put (g : Nat) (y : Yst) (n : Nat) (M : Int → Option Value) (d nx st : Int) (w : World) (h : StC w g y) (hm : MapAt w y.mb n M) (hn : n < maxLen) (hd : 1 ≤ d ∧ d ≤ 2147483647) (hk : M d = some (.int .i64 st)) (hnx : ¬ nx = 4) :
    Calls Try.prog 44 #[.pointer (some ⟨g, 0, none⟩), .int .i64 d, .int .i64 nx] w fun e w' => e = .returned (.tuple #[]) ∧ StC w' g y ∧ MapAt w' y.mb n (putM M d (.int .i64 nx)) ∧ Fr (fun k => k = g ∨ k = y.mb) w w' := by
  have hdI : IsI d := ⟨by omega, by omega⟩
  have hbm : y.mb ≠ g := hm.ne h.1
  obtain ⟨c0, -⟩ := h.cells
  have hv : (M d).getD (.int .i64 0) = .int .i64 st := by rw [hk]; rfl
  have hs : (M d).isSome = true := by rw [hk]; rfl
  go_enter Try.func44, Try.ntmps44
  go_wp2_with (first
    | (refine wpList_look_ok rfl (.tmp 12) (.tmp 13) 55 rfl 3 Try.underlying55 (.int .i64 0) yzero_int y.mb n M rfl hm d rfl hdI (.int .i64 st) hv true hs ?_)
    | (refine wpList_put rfl (.tmp 24) (.tmp 25) (.tmp 26) 55 (.inl rfl) 3 Try.underlying55 y.mb n M rfl hm hn d rfl hdI (.int .i64 nx) rfl ?_; intro w4 hm4 hf4 hs4))
  rw [if_pos hs] at hm4
  exact bodyPost_ret (v := .tuple #[]) (by simp [results, Try.results44, go_sem]) rfl ⟨rfl, h.fr hf4 (fun e => hbm e.symm), hm4, hf4.mono (fun _ _ e => .inr e)⟩
theorem ymove_del_true (g : Nat) (y : Yst) (n : Nat) (M : Int → Option Value) (d st : Int) (w : World) (h : StC w g y) (hm : MapAt w y.mb n M) (hd : 1 ≤ d ∧ d ≤ 2147483647) (hk : M d = some (.int .i64 st)) (ho : ownS y.sv d = true) (hb : 0 ≤ y.oo ∧ y.oo ≤ 1024) :
    Calls Try.prog 44 #[.pointer (some ⟨g, 0, none⟩), .int .i64 d, .int .i64 4] w fun e w' => e = .returned (.tuple #[]) ∧ StC w' g { y with oo := y.oo - 1 } ∧ MapAt w' y.mb n (delM M d) ∧ Fr (fun k => k = g ∨ k = y.mb) w w' := by
  have hdI : IsI d := ⟨by omega, by omega⟩
  have hbm : y.mb ≠ g := hm.ne h.1
  obtain ⟨c0, -⟩ := h.cells
  have hv : (M d).getD (.int .i64 0) = .int .i64 st := by rw [hk]; rfl
  have hs : (M d).isSome = true := by rw [hk]; rfl
  go_enter Try.func44, Try.ntmps44
  go_upto_region 5 with (first
    | (refine wpList_look_ok rfl (.tmp 12) (.tmp 13) 55 rfl 3 Try.underlying55 (.int .i64 0) yzero_int y.mb n M rfl hm d rfl hdI (.int .i64 st) hv true hs ?_)
    | (refine wpList_del rfl (.tmp 30) (.tmp 31) 55 rfl 3 Try.underlying55 y.mb n M rfl hm d rfl hdI ?_; intro w4 hm4 hf4 hs4))
  have h4 : StC w4 g y := h.fr hf4 (fun e => hbm e.symm)
  have K := ysideOf_in g y d w4 h4 hd.1
  rw [ho] at K
  clear c0
  obtain ⟨c0, c1, c2, c3, c4, c5, c6, c7⟩ := h4.cells
  have z : ∀ j, w4.frozen? ⟨g, j, none⟩ = false := fun j => frozen_of_heap h4.1
  go_wp2_with (go_at_call 40; refine K.mono ?_; clear K; rintro e w' ⟨rfl, rfl⟩)
  refine bodyPost_end (results_none rfl _ _ _) rfl ⟨rfl, h4.set (set_oo _ _) h4.2, hm4.fr ((Fr.refl (fun k => k = g) _).setB _ _) hbm, (hf4.mono (fun _ _ e => .inr e)).trans (((Fr.refl (fun k => k = g) _).setB _ _).mono (fun _ _ e => .inl e))⟩
theorem ymove_del_false (g : Nat) (y : Yst) (n : Nat) (M : Int → Option Value) (d st : Int) (w : World) (h : StC w g y) (hm : MapAt w y.mb n M) (hd : 1 ≤ d ∧ d ≤ 2147483647) (hk : M d = some (.int .i64 st)) (ho : ownS y.sv d = false) (hb : 0 ≤ y.po ∧ y.po ≤ 1024) :
    Calls Try.prog 44 #[.pointer (some ⟨g, 0, none⟩), .int .i64 d, .int .i64 4] w fun e w' => e = .returned (.tuple #[]) ∧ StC w' g { y with po := y.po - 1 } ∧ MapAt w' y.mb n (delM M d) ∧ Fr (fun k => k = g ∨ k = y.mb) w w' := by
  have hdI : IsI d := ⟨by omega, by omega⟩
  have hbm : y.mb ≠ g := hm.ne h.1
  obtain ⟨c0, -⟩ := h.cells
  have hv : (M d).getD (.int .i64 0) = .int .i64 st := by rw [hk]; rfl
  have hs : (M d).isSome = true := by rw [hk]; rfl
  go_enter Try.func44, Try.ntmps44
  go_upto_region 5 with (first
    | (refine wpList_look_ok rfl (.tmp 12) (.tmp 13) 55 rfl 3 Try.underlying55 (.int .i64 0) yzero_int y.mb n M rfl hm d rfl hdI (.int .i64 st) hv true hs ?_)
    | (refine wpList_del rfl (.tmp 30) (.tmp 31) 55 rfl 3 Try.underlying55 y.mb n M rfl hm d rfl hdI ?_; intro w4 hm4 hf4 hs4))
  have h4 : StC w4 g y := h.fr hf4 (fun e => hbm e.symm)
  have K := ysideOf_in g y d w4 h4 hd.1
  rw [ho] at K
  clear c0
  obtain ⟨c0, c1, c2, c3, c4, c5, c6, c7⟩ := h4.cells
  have z : ∀ j, w4.frozen? ⟨g, j, none⟩ = false := fun j => frozen_of_heap h4.1
  go_wp2_with (go_at_call 40; refine K.mono ?_; clear K; rintro e w' ⟨rfl, rfl⟩)
  refine bodyPost_end (results_none rfl _ _ _) rfl ⟨rfl, h4.set (set_po _ _) h4.2, hm4.fr ((Fr.refl (fun k => k = g) _).setB _ _) hbm, (hf4.mono (fun _ _ e => .inr e)).trans (((Fr.refl (fun k => k = g) _).setB _ _).mono (fun _ _ e => .inl e))⟩
end Go.Proofs.Ytahlhkpabkplfaa
