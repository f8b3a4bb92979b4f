/- The walk of WindowPlays. -/
import Derived.Test.YteniphncpanecaaNd
import Derived.Test.YteniphncpanecaaLn
namespace Go.Proofs.Yteniphncpanecaa
open Go.RowKit
set_option linter.unusedVariables false
set_option maxRecDepth 100000
set_option maxHeartbeats 4000000

/-- Both windows, of one size, in memory that was not there before. -/
structure BothW (w0 w : World) (g rg : Nat) (x : Int) : Prop where
  prog : WinAt w g x
  doc : RWin w rg x
  inv : InvW x
  bg : w0.heap.size ≤ g
  br : w0.heap.size ≤ rg
  fr : Fr (fun k => w0.heap.size ≤ k) w0 w
theorem WinAt.ne {w : World} {g rg : Nat} {x y : Int} (h : WinAt w g x) (k : RWin w rg y) : g ≠ rg := by
  rintro rfl
  unfold WinAt at h
  unfold RWin at k
  rw [h] at k
  simp at k
theorem BothW.later {w0 w w' : World} {g rg : Nat} {x : Int} (h : BothW w0 w g rg x) (f : Fr (fun _ => False) w w') : BothW w0 w' g rg x :=
  ⟨h.prog.fr f id, h.doc.fr f id, h.inv, h.bg, h.br, h.fr.trans (f.mono (fun _ _ e => e.elim))⟩
theorem BothW.step {w0 w w1 w2 : World} {g rg : Nat} {x y : Int} (h : BothW w0 w g rg x) (hp : WinAt w1 g y) (f1 : Fr (fun k => k = g) w w1) (hd : RWin w2 rg y) (f2 : Fr (fun k => k = rg) w1 w2) (hi : InvW y) : BothW w0 w2 g rg y :=
  have hne := h.prog.ne h.doc
  ⟨hp.fr f2 hne, hd, hi, h.bg, h.br, (h.fr.trans (f1.mono (fun k _ e => by show _ ≤ k; rw [e]; exact h.bg))).trans (f2.mono (fun k _ e => by show _ ≤ k; rw [e]; exact h.br))⟩
theorem wplays_no (z : Int) (q : Option Addr) (c n : Nat) (w : World) (hz : sizB z = false) : Calls Try.prog 3 #[.int .i64 z, .slice q n c] w fun e w' => e = .returned (.bool true) ∧ Below w.heap.size w w' := by
  have KN := wNew_no z w hz
  have KR := fun w => rwNew_no z w hz
  have KA := fun w => wawake_in w
  clear hz
  go_enter Try.func3, Try.ntmps3
  go_wp2_with (first | (go_at_call 9; refine KN.mono ?_; clear KN; rintro e w1 ⟨rfl, f1⟩) | (go_at_call 10; refine (KR _).mono ?_; clear KR; rintro e w' ⟨rfl, rfl⟩))
  refine wp_loop_rounds 1 ?_
  rw [rounds_succ]
  go_wp2_with (go_at_call 18; refine (KA _).mono ?_; rintro e w2 ⟨rfl, f2⟩)
  go_ret
  exact ⟨rfl, (f1.trans f2).below (fun _ _ => id)⟩
theorem wplays_yes (z : Int) (q : Option Addr) (c n : Nat) (L : List (Int × Int)) (w : World) (hz : sizB z = true) (hI : Ops11 w q c L) (hl : L.length = n) : Calls Try.prog 3 #[.int .i64 z, .slice q n c] w fun e w' => e = .returned (.bool true) ∧ Below w.heap.size w w' := by
  have KN := wNew_yes z w hz
  have KR := fun w => rwNew_yes z w hz
  have HZ : Hid (InvW z) := by have h := of_decide_eq_true hz; exact ⟨by omega, by omega⟩
  have KA : Hid (∀ w, Calls Try.prog 18 #[] w fun e w' => e = .returned (.bool true) ∧ Fr (fun _ => False) w w') := fun w => wawake_in w
  have HI : Hid (Ops11 w q c L) := hI
  have HL : Hid (L.length = n) := hl
  have hnb : (n : Int) ≤ 9000000000000000000 := by have := hI.few; rw [hl] at this; have h2 : reachBytes < 2 ^ 47 := reach_lt; omega
  have hnc : n ≤ c := by have := hI.cap; rw [hl] at this; exact this
  clear hI hl hz
  go_enter Try.func3, Try.ntmps3
  go_upto_region 5 with (first | (go_at_call 9; refine KN.mono ?_; clear KN; rintro e w1 ⟨g, hg, rfl, h1, f1⟩) | (go_at_call 10; refine (KR _).mono ?_; clear KR; rintro e w2 ⟨rfl, h2, f2⟩))
  obtain ⟨rg, hrg⟩ : ∃ rg, rg = w1.heap.size := ⟨_, rfl⟩
  rw [← hrg] at h2 ⊢
  have HS0 : Hid (BothW w w2 g rg z) := ⟨h1.fr f2 id, h2, HZ.out, hg, by rw [hrg]; exact f1.size, (f1.trans f2).mono (fun _ _ e => e.elim)⟩
  clear hg h1 f1 h2 f2 hrg
  go_wp2_with (fail)
  go_loopw [9] (fun x9 wr => ∃ (i : Nat) (x : Int), x9 = .int .i64 (i : Int) ∧ i ≤ n ∧ Hid (BothW w wr g rg x)) (fun x9 _ => n - (intOf x9).toNat)
  case atStart => exact ⟨0, z, rfl, by omega, HS0.out⟩
  case round =>
    clear HS0
    obtain ⟨i, x, rfl, hin, HS⟩ := hrel
    by_cases hlt : i < n
    · have hlt2 : (i : Int) < (n : Int) := by omega
      obtain ⟨⟨a, d⟩, hd⟩ : ∃ d, L[i]? = some d := ⟨L[i]'(by rw [HL.out]; exact hlt), List.getElem?_eq_getElem _⟩
      obtain ⟨gq, oq, rfl, hgq, d0, d1, hdI⟩ := HI.out.cells i (a, d) hd
      have c0 : wr.cell? ⟨gq, oq + i * 2, none⟩ = some (.int .i64 a) := (HS.out.fr.cell (p := ⟨gq, oq + i * 2, none⟩) hgq (by show ¬ _ ≤ gq; omega)).trans d0
      have c1 : wr.cell? ⟨gq, oq + i * 2 + 1, none⟩ = some (.int .i64 d) := (HS.out.fr.cell (p := ⟨gq, oq + i * 2 + 1, none⟩) hgq (by show ¬ _ ≤ gq; omega)).trans d1
      clear hd hgq d0 d1 hdI
      go_upto_region 9 with (fail)
      obtain ⟨wa, hwa⟩ : ∃ wa, wa = wr.alloc (Obj.cells #[.int .i64 a, .int .i64 d] 31) := ⟨_, rfl⟩
      obtain ⟨go, hgo⟩ : ∃ go, go = wr.heap.size := ⟨_, rfl⟩
      have Fa : Fr (fun _ => False) wr wa := by rw [hwa]; exact (Fr.refl _ _).alloc _
      have ba : wa.heap[go]? = some (.cells #[.int .i64 a, .int .i64 d] 31 (0, 0)) := by rw [hwa, hgo]; exact heap_alloc_new _ _
      rw [← hwa, ← hgo]
      have HG : Hid (go ≠ g ∧ go ≠ rg) := ⟨by rw [hgo]; have := lt_of_heap HS.out.prog; omega, by rw [hgo]; have := lt_of_heap HS.out.doc; omega⟩
      clear hwa c0 c1 hgo
      have HA : Hid (BothW w wa g rg x) := HS.out.later Fa
      have k0 : wa.cell? ⟨go, 0, none⟩ = some (.int .i64 a) := cell_of_heap ba rfl
      have k1 : wa.cell? ⟨go, 1, none⟩ = some (.int .i64 d) := cell_of_heap ba rfl
      have HB : Hid (wa.heap[go]? = some (.cells #[.int .i64 a, .int .i64 d] 31 (0, 0))) := ba
      clear ba Fa HS
      by_cases ha : a = 0
      · subst ha
        obtain ⟨er, her⟩ : ∃ er, takeE x d = er := ⟨_, rfl⟩
        obtain ⟨y, hy⟩ : ∃ y, takeX x d = y := ⟨_, rfl⟩
        have K1 := wTake_in g x d wa HA.out.prog HA.out.inv
        have HD : Hid (∀ w2, RWin w2 rg x → Calls Try.prog 12 #[.pointer (some ⟨rg, 0, none⟩), .int .i64 d] w2 fun e w' => e = .returned (.int .i64 er) ∧ RWin w' rg y ∧ Fr (fun k => k = rg) w2 w') := fun w2 h2 => by have := rwTake_in rg x d w2 h2 HA.out.inv; rw [her, hy] at this; exact this
        rw [her, hy] at K1
        have HY : Hid (InvW y) := by have := inv_take HA.out.inv d; rw [hy] at this; exact this
        clear her hy
        go_upto_region 16 with (go_at_call 11; refine K1.mono ?_; clear K1; rintro e w2 ⟨rfl, p2, f2⟩)
        clear k0 k1
        have k1 : w2.cell? ⟨go, 1, none⟩ = some (.int .i64 d) := cell_of_heap ((f2.block go (lt_of_heap HB.out) HG.out.1).trans HB.out) rfl
        have K2 := HD.out w2 (HA.out.doc.fr f2 (fun e => HA.out.prog.ne HA.out.doc e.symm))
        go_upto_region 20 with (go_at_call 12; refine K2.mono ?_; clear K2; rintro e w3 ⟨rfl, p3, f3⟩)
        clear k1
        have H3 : Hid (BothW w w3 g rg y) := HA.out.step p2 f2 p3 f3 HY.out
        clear p2 f2 p3 f3 HA HB HD HY
        have KS : Hid (∀ k, Calls Try.prog 17 #[.pointer (some ⟨g, 0, none⟩)] (w3.drewN k) fun e w' => e = .returned (.int .i64 y) ∧ w' = w3.drewN k) := fun k => (wSize_in g y _ (H3.out.prog.fr ((Fr.refl (fun _ => False) _).drewN k) id)).mono (fun e w' h => ⟨h.1, h.2.symm⟩)
        have r0 : w3.cell? ⟨rg, 0, none⟩ = some (.int .i64 y) := cell_of_heap H3.out.doc rfl
        go_quiet ((go_at_call 17; exact Calls.quiet_of_same (KS.out _)))
        go_wp2_with (fail)
        go_roundw
        case rel => exact ⟨i + 1, y, by go_num, by omega, H3.out.later ((Fr.refl _ _).drewN _)⟩
        case measure => simp [intOf]; omega
      by_cases hb : a = 1
      · subst hb
        obtain ⟨er, her⟩ : ∃ er, addE 1 x d = er := ⟨_, rfl⟩
        obtain ⟨y, hy⟩ : ∃ y, addX 1 x d = y := ⟨_, rfl⟩
        have K1 := wAdd_in g x d wa HA.out.prog
        have HD : Hid (∀ w2, RWin w2 rg x → Calls Try.prog 14 #[.pointer (some ⟨rg, 0, none⟩), .int .i64 d] w2 fun e w' => e = .returned (.int .i64 er) ∧ RWin w' rg y ∧ Fr (fun k => k = rg) w2 w') := fun w2 h2 => by have := rwAdd_in rg x d w2 h2; rw [her, hy] at this; exact this
        rw [her, hy] at K1
        have HY : Hid (InvW y) := by have := inv_add HA.out.inv 1 d; rw [hy] at this; exact this
        clear her hy
        go_upto_region 19 with (go_at_call 13; refine K1.mono ?_; clear K1; rintro e w2 ⟨rfl, p2, f2⟩)
        clear k0 k1
        have k1 : w2.cell? ⟨go, 1, none⟩ = some (.int .i64 d) := cell_of_heap ((f2.block go (lt_of_heap HB.out) HG.out.1).trans HB.out) rfl
        have K2 := HD.out w2 (HA.out.doc.fr f2 (fun e => HA.out.prog.ne HA.out.doc e.symm))
        go_upto_region 20 with (go_at_call 14; refine K2.mono ?_; clear K2; rintro e w3 ⟨rfl, p3, f3⟩)
        clear k1
        have H3 : Hid (BothW w w3 g rg y) := HA.out.step p2 f2 p3 f3 HY.out
        clear p2 f2 p3 f3 HA HB HD HY
        have KS : Hid (∀ k, Calls Try.prog 17 #[.pointer (some ⟨g, 0, none⟩)] (w3.drewN k) fun e w' => e = .returned (.int .i64 y) ∧ w' = w3.drewN k) := fun k => (wSize_in g y _ (H3.out.prog.fr ((Fr.refl (fun _ => False) _).drewN k) id)).mono (fun e w' h => ⟨h.1, h.2.symm⟩)
        have r0 : w3.cell? ⟨rg, 0, none⟩ = some (.int .i64 y) := cell_of_heap H3.out.doc rfl
        go_quiet ((go_at_call 17; exact Calls.quiet_of_same (KS.out _)))
        go_wp2_with (fail)
        go_roundw
        case rel => exact ⟨i + 1, y, by go_num, by omega, H3.out.later ((Fr.refl _ _).drewN _)⟩
        case measure => simp [intOf]; omega
      · skip
        obtain ⟨er, her⟩ : ∃ er, addE (-2147483647) x d = er := ⟨_, rfl⟩
        obtain ⟨y, hy⟩ : ∃ y, addX (-2147483647) x d = y := ⟨_, rfl⟩
        have K1 := wShift_in g x d wa HA.out.prog
        have HD : Hid (∀ w2, RWin w2 rg x → Calls Try.prog 16 #[.pointer (some ⟨rg, 0, none⟩), .int .i64 d] w2 fun e w' => e = .returned (.int .i64 er) ∧ RWin w' rg y ∧ Fr (fun k => k = rg) w2 w') := fun w2 h2 => by have := rwShift_in rg x d w2 h2; rw [her, hy] at this; exact this
        rw [her, hy] at K1
        have HY : Hid (InvW y) := by have := inv_add HA.out.inv (-2147483647) d; rw [hy] at this; exact this
        clear her hy
        go_upto_region 13 with (go_at_call 15; refine K1.mono ?_; clear K1; rintro e w2 ⟨rfl, p2, f2⟩)
        clear k0 k1
        have k1 : w2.cell? ⟨go, 1, none⟩ = some (.int .i64 d) := cell_of_heap ((f2.block go (lt_of_heap HB.out) HG.out.1).trans HB.out) rfl
        have K2 := HD.out w2 (HA.out.doc.fr f2 (fun e => HA.out.prog.ne HA.out.doc e.symm))
        go_upto_region 20 with (go_at_call 16; refine K2.mono ?_; clear K2; rintro e w3 ⟨rfl, p3, f3⟩)
        clear k1
        have H3 : Hid (BothW w w3 g rg y) := HA.out.step p2 f2 p3 f3 HY.out
        clear p2 f2 p3 f3 HA HB HD HY
        have KS : Hid (∀ k, Calls Try.prog 17 #[.pointer (some ⟨g, 0, none⟩)] (w3.drewN k) fun e w' => e = .returned (.int .i64 y) ∧ w' = w3.drewN k) := fun k => (wSize_in g y _ (H3.out.prog.fr ((Fr.refl (fun _ => False) _).drewN k) id)).mono (fun e w' h => ⟨h.1, h.2.symm⟩)
        have r0 : w3.cell? ⟨rg, 0, none⟩ = some (.int .i64 y) := cell_of_heap H3.out.doc rfl
        go_quiet ((go_at_call 17; exact Calls.quiet_of_same (KS.out _)))
        go_wp2_with (fail)
        go_roundw
        case rel => exact ⟨i + 1, y, by go_num, by omega, H3.out.later ((Fr.refl _ _).drewN _)⟩
        case measure => simp [intOf]; omega
    · have hlt2 : ¬ (i : Int) < (n : Int) := by omega
      go_wp2_with (go_at_call 18; refine (KA.out _).mono ?_; rintro e w6 ⟨rfl, f6⟩)
      go_ret
      exact ⟨rfl, (HS.out.fr.trans (f6.mono (fun _ _ e => e.elim))).below (fun k hk e => by omega)⟩
theorem wplays_walk (z : Int) (q : Option Addr) (c n : Nat) (L : List (Int × Int)) (w : World) (hI : Ops11 w q c L) (hl : L.length = n) : Calls Try.prog 3 #[.int .i64 z, .slice q n c] w fun e w' => e = .returned (.bool true) ∧ Below w.heap.size w w' := by
  cases hz : sizB z
  · exact wplays_no z q c n w hz
  · exact wplays_yes z q c n L w hz hI hl
end Go.Proofs.Yteniphncpanecaa
