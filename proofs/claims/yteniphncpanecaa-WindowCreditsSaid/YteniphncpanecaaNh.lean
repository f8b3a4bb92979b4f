/- The walk of WindowCredits. -/
import Derived.Test.YteniphncpanecaaNg
import Derived.Test.YteniphncpanecaaLn
import Derived.Deep.RegionHeldLaw
namespace Go.Proofs.Yteniphncpanecaa
open Go.RowKit
set_option linter.unusedVariables false
set_option maxRecDepth 100000
set_option maxHeartbeats 4000000

/-- Both credits, the same, in memory that was not there before. -/
structure BothC (w0 w : World) (g rg : Nat) (m x h : Int) : Prop where
  prog : CrAt w g m x h
  doc : RCr w rg m x h (m - x - h)
  inv : InvC m x h
  bg : w0.heap.size ≤ g
  br : w0.heap.size ≤ rg
  fr : Fr (fun k => w0.heap.size ≤ k) w0 w
theorem CrAt.ne {w : World} {g rg : Nat} {m x h m' x' h' o' : Int} (k : CrAt w g m x h) (k' : RCr w rg m' x' h' o') : g ≠ rg := by
  rintro rfl
  unfold CrAt at k
  unfold RCr at k'
  rw [k] at k'
  simp at k'
theorem BothC.later {w0 w w' : World} {g rg : Nat} {m x h : Int} (k : BothC w0 w g rg m x h) (f : Fr (fun _ => False) w w') : BothC w0 w' g rg m x h :=
  ⟨k.prog.fr f id, k.doc.fr f id, k.inv, k.bg, k.br, k.fr.trans (f.mono (fun _ _ e => e.elim))⟩
theorem BothC.step {w0 w w1 w2 : World} {g rg : Nat} {m x h y t : Int} (k : BothC w0 w g rg m x h) (hp : CrAt w1 g m y t) (f1 : Fr (fun k => k = g) w w1) (hd : RCr w2 rg m y t (m - y - t)) (f2 : Fr (fun k => k = rg) w1 w2) (hi : InvC m y t) : BothC w0 w2 g rg m y t :=
  have hne := k.prog.ne k.doc
  ⟨hp.fr f2 hne, hd, hi, k.bg, k.br, (k.fr.trans (f1.mono (fun j _ e => by show _ ≤ j; rw [e]; exact k.bg))).trans (f2.mono (fun j _ e => by show _ ≤ j; rw [e]; exact k.br))⟩
theorem wcredits_no (z : Int) (q : Option Addr) (c n : Nat) (w : World) (hz : sizB z = false) : Calls Try.prog 4 #[.int .i64 z, .slice q n c] w fun e w' => e = .returned (.bool true) ∧ Below w.heap.size w w' := by
  have KN := cNew_no z w hz
  have KR := fun w => rcNew_no z w hz
  have KA := fun w => wawake_in w
  clear hz
  go_enter Try.func4, Try.ntmps4
  go_wp2_with (first | (go_at_call 19; refine KN.mono ?_; clear KN; rintro e w1 ⟨rfl, f1⟩) | (go_at_call 20; refine (KR _).mono ?_; clear KR; rintro e w' ⟨rfl, rfl⟩))
  refine wp_loop_rounds 1 ?_
  rw [rounds_succ]
  go_wp2_with (go_at_call 18; refine (KA _).mono ?_; rintro e w2 ⟨rfl, f2⟩)
  go_ret
  exact ⟨rfl, (f1.trans f2).below (fun _ _ => id)⟩
theorem wcredits_yes (z : Int) (q : Option Addr) (c n : Nat) (L : List (Int × Int)) (w : World) (hz : sizB z = true) (hI : Ops11 w q c L) (hl : L.length = n) : Calls Try.prog 4 #[.int .i64 z, .slice q n c] w fun e w' => e = .returned (.bool true) ∧ Below w.heap.size w w' := by
  have KN := cNew_yes z w hz
  have KR := fun w => rcNew_yes z w hz
  have HZ : Hid (InvC z z 0) := invC_new hz
  have KA : Hid (∀ w, Calls Try.prog 18 #[] w fun e w' => e = .returned (.bool true) ∧ Fr (fun _ => False) w w') := fun w => wawake_in w
  have HI : Hid (Ops11 w q c L) := hI
  have HL : Hid (L.length = n) := hl
  have hnb : (n : Int) ≤ 9000000000000000000 := by have := hI.few; rw [hl] at this; have h2 : reachBytes < 2 ^ 47 := reach_lt; omega
  have hnc : n ≤ c := by have := hI.cap; rw [hl] at this; exact this
  clear hI hl hz
  go_enter Try.func4, Try.ntmps4
  go_upto_region 5 with (first | (go_at_call 19; refine KN.mono ?_; clear KN; rintro e w1 ⟨g, hg, rfl, h1, f1⟩) | (go_at_call 20; refine (KR _).mono ?_; clear KR; rintro e w2 ⟨rfl, h2, f2⟩))
  obtain ⟨rg, hrg⟩ : ∃ rg, rg = w1.heap.size := ⟨_, rfl⟩
  rw [← hrg] at h2 ⊢
  have HS0 : Hid (BothC w w2 g rg z z 0) := ⟨h1.fr f2 id, by rw [show z - z - 0 = (0 : Int) by omega]; exact h2, HZ.out, hg, by rw [hrg]; exact f1.size, (f1.trans f2).mono (fun _ _ e => e.elim)⟩
  clear hg h1 f1 h2 f2 hrg
  go_wp2_with (fail)
  go_loopw [9] (fun x9 wr => ∃ (i : Nat) (x h : Int), x9 = .int .i64 (i : Int) ∧ i ≤ n ∧ Hid (BothC w wr g rg z x h)) (fun x9 _ => n - (intOf x9).toNat)
  case atStart => exact ⟨0, z, 0, rfl, by omega, HS0.out⟩
  case round =>
    clear HS0
    obtain ⟨i, x, h, rfl, hin, HS⟩ := hrel
    by_cases hlt : i < n
    · have hlt2 : (i : Int) < (n : Int) := by omega
      obtain ⟨⟨a, d⟩, hd⟩ : ∃ d, L[i]? = some d := ⟨L[i]'(by rw [HL.out]; exact hlt), List.getElem?_eq_getElem _⟩
      obtain ⟨gq, oq, rfl, hgq, d0, d1, hdI⟩ := HI.out.cells i (a, d) hd
      have c0 : wr.cell? ⟨gq, oq + i * 2, none⟩ = some (.int .i64 a) := (HS.out.fr.cell (p := ⟨gq, oq + i * 2, none⟩) hgq (by show ¬ _ ≤ gq; omega)).trans d0
      have c1 : wr.cell? ⟨gq, oq + i * 2 + 1, none⟩ = some (.int .i64 d) := (HS.out.fr.cell (p := ⟨gq, oq + i * 2 + 1, none⟩) hgq (by show ¬ _ ≤ gq; omega)).trans d1
      clear hd hgq d0 d1 hdI
      go_upto_region 9 with (fail)
      obtain ⟨wa, hwa⟩ : ∃ wa, wa = wr.alloc (Obj.cells #[.int .i64 a, .int .i64 d] 31) := ⟨_, rfl⟩
      obtain ⟨go, hgo⟩ : ∃ go, go = wr.heap.size := ⟨_, rfl⟩
      have Fa : Fr (fun _ => False) wr wa := by rw [hwa]; exact (Fr.refl _ _).alloc _
      have ba : wa.heap[go]? = some (.cells #[.int .i64 a, .int .i64 d] 31 (0, 0)) := by rw [hwa, hgo]; exact heap_alloc_new _ _
      rw [← hwa, ← hgo]
      have HG : Hid (go ≠ g ∧ go ≠ rg) := ⟨by rw [hgo]; have := lt_of_heap HS.out.prog; omega, by rw [hgo]; have := lt_of_heap HS.out.doc; omega⟩
      clear hwa c0 c1 hgo
      have HA : Hid (BothC w wa g rg z x h) := HS.out.later Fa
      have k0 : wa.cell? ⟨go, 0, none⟩ = some (.int .i64 a) := cell_of_heap ba rfl
      have k1 : wa.cell? ⟨go, 1, none⟩ = some (.int .i64 d) := cell_of_heap ba rfl
      have HB : Hid (wa.heap[go]? = some (.cells #[.int .i64 a, .int .i64 d] 31 (0, 0))) := ba
      clear ba Fa HS
      by_cases ha : a = 0
      · subst ha
        obtain ⟨er, her⟩ : ∃ er, takeE x d = er := ⟨_, rfl⟩
        obtain ⟨y, hy⟩ : ∃ y, takeX x d = y := ⟨_, rfl⟩
        obtain ⟨t, ht⟩ : ∃ t, gotH x h d = t := ⟨_, rfl⟩
        have HY : Hid (InvC z y t) := by have := HA.out.inv.got d; rw [hy, ht] at this; exact this
        have K1 : ∀ W, Hid (Fr (fun _ => False) wa W) → Calls Try.prog 21 #[.pointer (some ⟨g, 0, none⟩), .int .i64 d] W fun e w' => e = .returned (.int .i64 er) ∧ Hid (CrAt w' g z y t ∧ Fr (fun k => k = g) wa w' ∧ w'.cell? ⟨go, 1, none⟩ = some (.int .i64 d)) := fun W hW => by
          have AW := HA.out.later hW.out
          refine (cGot_in g z x h d W AW.prog AW.inv).mono ?_
          rw [her, hy, ht]
          rintro e w' ⟨rfl, p2, f2⟩
          have f3 := (hW.out.mono (T := fun k => k = g) (fun _ _ e => e.elim)).trans f2
          exact ⟨rfl, p2, f3, cell_of_heap ((f3.block go (lt_of_heap HB.out) HG.out.1).trans HB.out) rfl⟩
        have K2 : ∀ W, Hid (CrAt W g z y t ∧ Fr (fun k => k = g) wa W ∧ W.cell? ⟨go, 1, none⟩ = some (.int .i64 d)) → Calls Try.prog 22 #[.pointer (some ⟨rg, 0, none⟩), .int .i64 d] W fun e w' => e = .returned (.int .i64 er) ∧ Hid (BothC w w' g rg z y t ∧ w'.cell? ⟨go, 1, none⟩ = some (.int .i64 d)) := fun W hW => by
          obtain ⟨p2, f2, c2⟩ := hW.out
          have hne := HA.out.prog.ne HA.out.doc
          have KK := rcGot_in rg z x h (z - x - h) d W (HA.out.doc.fr f2 (fun e => hne e.symm)) HA.out.inv
          rw [her, hy, ht] at KK
          refine KK.mono ?_
          rintro e w' ⟨rfl, p3, f3⟩
          have ho : z - x - h = z - y - t := by rw [← hy, ← ht]; unfold gotH takeX; split <;> omega
          rw [ho] at p3
          exact ⟨rfl, HA.out.step p2 f2 p3 f3 HY.out, (f3.cell (p := ⟨go, 1, none⟩) (World.block_lt_of_cell? _ _ c2) HG.out.2).trans c2⟩
        have W1 : ∀ k, Hid (Fr (fun _ => False) wa (wa.drewN k)) := fun k => (Fr.refl _ _).drewN k
        have W2 : Hid (Fr (fun _ => False) wa wa.drew) := (Fr.refl _ _).drew
        clear her hy ht
        go_upto_region 13 with (fail)
        go_region_held_law (fun w' => w'.cell? ⟨go, 1, none⟩ = some (.int .i64 d)) (first | exact k1 | exact X2.out.2.2 | exact X3.out.2) (first | (go_at_call 21; refine (K1 _ (by first | exact W2 | exact W1 _)).mono ?_; rintro e w2 ⟨rfl, X2⟩) | (go_at_call 22; refine (K2 _ (by first | exact X2)).mono ?_; rintro e w3 ⟨rfl, X3⟩))
        have H3 : Hid (BothC w w3 g rg z y t) := X3.out.1
        clear K1 K2 W1 W2 X2 X3 HB HA HY k0 k1
        have KS : Hid (∀ k, Calls Try.prog 27 #[.pointer (some ⟨g, 0, none⟩)] (w3.drewN k) fun e w' => e = .returned (.int .i64 y) ∧ w' = w3.drewN k) := fun k => (cSize_in g z y t _ (H3.out.prog.fr ((Fr.refl (fun _ => False) _).drewN k) id)).mono (fun e w' h => ⟨h.1, h.2.symm⟩)
        have KH : Hid (∀ k, Calls Try.prog 28 #[.pointer (some ⟨g, 0, none⟩)] (w3.drewN k) fun e w' => e = .returned (.int .i64 t) ∧ w' = w3.drewN k) := fun k => (cHeld_in g z y t _ (H3.out.prog.fr ((Fr.refl (fun _ => False) _).drewN k) id)).mono (fun e w' h => ⟨h.1, h.2.symm⟩)
        have r1 : w3.cell? ⟨rg, 1, none⟩ = some (.int .i64 y) := H3.out.doc.cells.2.1
        have r2 : w3.cell? ⟨rg, 2, none⟩ = some (.int .i64 t) := H3.out.doc.cells.2.2.1
        go_wp2_with (fail)
        go_quiet (first | (go_at_call 27; exact Calls.quiet_of_same (KS.out _)) | (go_at_call 28; exact Calls.quiet_of_same (KH.out _)))
        go_wp2_with (fail)
        go_roundw
        case rel => exact ⟨i + 1, y, t, by go_num, by omega, H3.out.later ((Fr.refl _ _).drewN _)⟩
        case measure => simp [intOf]; omega
      by_cases hb : a = 1
      · subst hb
        obtain ⟨er, her⟩ : ∃ er, usedE h d = er := ⟨_, rfl⟩
        obtain ⟨y, hy⟩ : ∃ y, x = y := ⟨_, rfl⟩
        obtain ⟨t, ht⟩ : ∃ t, usedH h d = t := ⟨_, rfl⟩
        have HY : Hid (InvC z y t) := by have := HA.out.inv.used d; rw [hy, ht] at this; exact this
        have K1 : ∀ W, Hid (Fr (fun _ => False) wa W) → Calls Try.prog 23 #[.pointer (some ⟨g, 0, none⟩), .int .i64 d] W fun e w' => e = .returned (.int .i64 er) ∧ Hid (CrAt w' g z y t ∧ Fr (fun k => k = g) wa w' ∧ w'.cell? ⟨go, 1, none⟩ = some (.int .i64 d)) := fun W hW => by
          have AW := HA.out.later hW.out
          refine (cUsed_in g z x h d W AW.prog AW.inv).mono ?_
          rw [her, ht]
          rintro e w' ⟨rfl, p2, f2⟩
          subst hy
          have f3 := (hW.out.mono (T := fun k => k = g) (fun _ _ e => e.elim)).trans f2
          exact ⟨rfl, p2, f3, cell_of_heap ((f3.block go (lt_of_heap HB.out) HG.out.1).trans HB.out) rfl⟩
        have K2 : ∀ W, Hid (CrAt W g z y t ∧ Fr (fun k => k = g) wa W ∧ W.cell? ⟨go, 1, none⟩ = some (.int .i64 d)) → Calls Try.prog 24 #[.pointer (some ⟨rg, 0, none⟩), .int .i64 d] W fun e w' => e = .returned (.int .i64 er) ∧ Hid (BothC w w' g rg z y t ∧ w'.cell? ⟨go, 1, none⟩ = some (.int .i64 d)) := fun W hW => by
          obtain ⟨p2, f2, c2⟩ := hW.out
          have hne := HA.out.prog.ne HA.out.doc
          have KK := rcUsed_in rg z x h (z - x - h) d W (HA.out.doc.fr f2 (fun e => hne e.symm)) HA.out.inv rfl
          rw [her, ht] at KK
          refine KK.mono ?_
          rintro e w' ⟨rfl, p3, f3⟩
          subst hy
          exact ⟨rfl, HA.out.step p2 f2 p3 f3 HY.out, (f3.cell (p := ⟨go, 1, none⟩) (World.block_lt_of_cell? _ _ c2) HG.out.2).trans c2⟩
        have W1 : ∀ k, Hid (Fr (fun _ => False) wa (wa.drewN k)) := fun k => (Fr.refl _ _).drewN k
        have W2 : Hid (Fr (fun _ => False) wa wa.drew) := (Fr.refl _ _).drew
        clear her hy ht
        go_upto_region 16 with (fail)
        go_region_held_law (fun w' => w'.cell? ⟨go, 1, none⟩ = some (.int .i64 d)) (first | exact k1 | exact X2.out.2.2 | exact X3.out.2) (first | (go_at_call 23; refine (K1 _ (by first | exact W2 | exact W1 _)).mono ?_; rintro e w2 ⟨rfl, X2⟩) | (go_at_call 24; refine (K2 _ (by first | exact X2)).mono ?_; rintro e w3 ⟨rfl, X3⟩))
        have H3 : Hid (BothC w w3 g rg z y t) := X3.out.1
        clear K1 K2 W1 W2 X2 X3 HB HA HY k0 k1
        have KS : Hid (∀ k, Calls Try.prog 27 #[.pointer (some ⟨g, 0, none⟩)] (w3.drewN k) fun e w' => e = .returned (.int .i64 y) ∧ w' = w3.drewN k) := fun k => (cSize_in g z y t _ (H3.out.prog.fr ((Fr.refl (fun _ => False) _).drewN k) id)).mono (fun e w' h => ⟨h.1, h.2.symm⟩)
        have KH : Hid (∀ k, Calls Try.prog 28 #[.pointer (some ⟨g, 0, none⟩)] (w3.drewN k) fun e w' => e = .returned (.int .i64 t) ∧ w' = w3.drewN k) := fun k => (cHeld_in g z y t _ (H3.out.prog.fr ((Fr.refl (fun _ => False) _).drewN k) id)).mono (fun e w' h => ⟨h.1, h.2.symm⟩)
        have r1 : w3.cell? ⟨rg, 1, none⟩ = some (.int .i64 y) := H3.out.doc.cells.2.1
        have r2 : w3.cell? ⟨rg, 2, none⟩ = some (.int .i64 t) := H3.out.doc.cells.2.2.1
        go_wp2_with (fail)
        go_quiet (first | (go_at_call 27; exact Calls.quiet_of_same (KS.out _)) | (go_at_call 28; exact Calls.quiet_of_same (KH.out _)))
        go_wp2_with (fail)
        go_roundw
        case rel => exact ⟨i + 1, y, t, by go_num, by omega, H3.out.later ((Fr.refl _ _).drewN _)⟩
        case measure => simp [intOf]; omega
      · skip
        obtain ⟨er, her⟩ : ∃ er, giveV z x h = er := ⟨_, rfl⟩
        obtain ⟨y, hy⟩ : ∃ y, x + er = y := ⟨_, rfl⟩
        obtain ⟨t, ht⟩ : ∃ t, h = t := ⟨_, rfl⟩
        have HY : Hid (InvC z y t) := by have := HA.out.inv.give; rw [her, hy, ht] at this; exact this
        have K1 := cGive_in g z x h wa HA.out.prog HA.out.inv
        rw [her, hy, ht] at K1
        have HD : Hid (∀ W, Fr (fun k => k = g) wa W → Calls Try.prog 26 #[.pointer (some ⟨rg, 0, none⟩)] W fun e w' => e = .returned (.int .i64 er) ∧ RCr w' rg z y t (z - y - t) ∧ Fr (fun k => k = rg) W w') := fun W f2 => by
          have hne := HA.out.prog.ne HA.out.doc
          have KK := rcGive_in rg z x h (z - x - h) W (HA.out.doc.fr f2 (fun e => hne e.symm)) HA.out.inv rfl
          rw [her, hy, ht] at KK
          exact KK
        clear her hy ht
        go_upto_region 18 with (first | (go_at_call 25; refine K1.mono ?_; clear K1; rintro e w2 ⟨rfl, p2, f2⟩; have K2 := HD.out w2 f2) | (go_at_call 26; refine K2.mono ?_; clear K2; rintro e w3 ⟨rfl, p3, f3⟩))
        have H3 : Hid (BothC w w3 g rg z y t) := HA.out.step p2 f2 p3 f3 HY.out
        clear HD HB HA HY k0 k1 p2 f2 p3 f3
        have KS : Hid (∀ k, Calls Try.prog 27 #[.pointer (some ⟨g, 0, none⟩)] (w3.drewN k) fun e w' => e = .returned (.int .i64 y) ∧ w' = w3.drewN k) := fun k => (cSize_in g z y t _ (H3.out.prog.fr ((Fr.refl (fun _ => False) _).drewN k) id)).mono (fun e w' h => ⟨h.1, h.2.symm⟩)
        have KH : Hid (∀ k, Calls Try.prog 28 #[.pointer (some ⟨g, 0, none⟩)] (w3.drewN k) fun e w' => e = .returned (.int .i64 t) ∧ w' = w3.drewN k) := fun k => (cHeld_in g z y t _ (H3.out.prog.fr ((Fr.refl (fun _ => False) _).drewN k) id)).mono (fun e w' h => ⟨h.1, h.2.symm⟩)
        have r1 : w3.cell? ⟨rg, 1, none⟩ = some (.int .i64 y) := H3.out.doc.cells.2.1
        have r2 : w3.cell? ⟨rg, 2, none⟩ = some (.int .i64 t) := H3.out.doc.cells.2.2.1
        go_wp2_with (fail)
        go_quiet (first | (go_at_call 27; exact Calls.quiet_of_same (KS.out _)) | (go_at_call 28; exact Calls.quiet_of_same (KH.out _)))
        go_wp2_with (fail)
        go_roundw
        case rel => exact ⟨i + 1, y, t, by go_num, by omega, H3.out.later ((Fr.refl _ _).drewN _)⟩
        case measure => simp [intOf]; omega
    · have hlt2 : ¬ (i : Int) < (n : Int) := by omega
      go_wp2_with (go_at_call 18; refine (KA.out _).mono ?_; rintro e w6 ⟨rfl, f6⟩)
      go_ret
      exact ⟨rfl, (HS.out.fr.trans (f6.mono (fun _ _ e => e.elim))).below (fun k hk e => by omega)⟩
theorem wcredits_walk (z : Int) (q : Option Addr) (c n : Nat) (L : List (Int × Int)) (w : World) (hI : Ops11 w q c L) (hl : L.length = n) : Calls Try.prog 4 #[.int .i64 z, .slice q n c] w fun e w' => e = .returned (.bool true) ∧ Below w.heap.size w w' := by
  cases hz : sizB z
  · exact wcredits_no z q c n w hz
  · exact wcredits_yes z q c n L w hz hI hl
end Go.Proofs.Yteniphncpanecaa
