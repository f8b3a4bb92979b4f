/- The walk of PumpPlays. -/
import Derived.Test.YtibiiagdhdmpiaaUn
import Derived.Test.YtibiiagdhdmpiaaXp
import Derived.Deep.RegionHeldLaw
namespace Go.Proofs.Ytibiiagdhdmpiaa
open Go.RowKit
set_option linter.unusedVariables false
set_option maxRecDepth 100000
set_option maxHeartbeats 4000000

/-- What the law looks at behind a call. -/
theorem TwU.look {w0 w : World} {b c : Nat} {L : List UInt8} {lim : Nat} {op : Bool} {T : Option (List Hd)} (h : TwU w0 b c L lim op T w) : ∃ (r : Nat) (a : Option Addr) (k : Nat),
    w.cell? ⟨c, 0, none⟩ = some (.pointer (some ⟨r, 0, none⟩)) ∧ w.cell? ⟨c, 1, none⟩ = some (.bool (!op)) ∧ w.cell? ⟨r, 0, none⟩ = some (.slice a L.length k) ∧
    (∀ W, Fr (fun _ => False) w W → Calls Try.prog 10 #[.pointer (some ⟨b, 0, none⟩)] W fun e w' => e = .returned (.int .i64 L.length) ∧ W = w') ∧
    (∀ W, Fr (fun _ => False) w W → Calls Try.prog 11 #[.pointer (some ⟨b, 0, none⟩)] W fun e w' => e = .returned (.int .i64 ((lim - L.length : Nat) : Int)) ∧ ∃ n, w' = W.drewN n) ∧
    (∀ W, Fr (fun _ => False) w W → Calls Try.prog 12 #[.pointer (some ⟨r, 0, none⟩)] W fun e w' => e = .returned (.int .i64 ((lim - L.length : Nat) : Int)) ∧ ∃ n, w' = W.drewN n) ∧
    (∀ W, Fr (fun _ => False) w W → Calls Try.prog 13 #[.pointer (some ⟨b, 0, none⟩)] W fun e w' => e = .returned (.bool op) ∧ W = w') := by
  obtain ⟨OP, OR, h1, h2, -⟩ := h.ex
  obtain ⟨r, v, tv, hx⟩ := h2.ex
  obtain ⟨a, k, rfl⟩ := hx.own_form
  refine ⟨r, a, k, hx.cells.1, hx.cells.2.1, (cell2 hx.ring.1).1, fun W f => uLen_in OP b L lim op T W (h1.quiet f), fun W f => uRoom_in OP b L lim op T W (h1.quiet f), fun W f => rroom r _ L lim _ W (hx.ring.fr f id (fun _ _ => id)) rfl, fun W f => uOpen_in OP b L lim op T W (h1.quiet f)⟩
theorem uplays_yes (k : Nat) (hk : k ≤ 65536) (q : Option Addr) (cc m : Nat) (X : List POp) (w : World) (hI : Ops20 w q cc X) (hl : X.length = m) : Calls Try.prog 3 #[.int .i64 (k : Int), .slice q m cc] w fun e w' => e = .returned (.bool true) ∧ Below w.heap.size w w' := by
  have hm2 : (m : Int) < 140737488355328 := by have := hI.few; rw [hl] at this; omega
  have HI : Hid (Ops20 w q cc X) := hI
  have HL : Hid (X.length = m) := hl
  have KN := uNew_in k w hk
  clear hI hl
  go_enter Try.func3, Try.ntmps3
  go_wp2_with (fail)
  refine KN.mono ?_
  rintro e w1 ⟨b, rfl, h1, f1⟩
  have KR := ruNew_in k w1 hk
  have H1 : Hid (PuAt w1 (fun k => w.heap.size ≤ k ∧ k < w1.heap.size) b [] k true none) := h1
  have F1 : Hid (Fr (fun _ => False) w w1) := f1
  clear h1 f1 KN
  go_wp2_with (fail)
  refine KR.mono ?_
  rintro e w2 ⟨c, rfl, h2, f2⟩
  have HS0 : Hid (TwU w b c [] k true none w2) := ⟨⟨_, _, H1.out.quiet f2, h2, fun k hk => hk.1, fun k hk => by have := F1.out.size; have := hk.1; omega, fun k hp hr => by have := hp.2; have := hr.1; omega⟩, F1.out.trans f2⟩
  clear h2 f2 H1 F1 KR
  go_wp2_with (fail)
  go_loopw [9] (fun x9 wr => ∃ (i : Nat) (L : List UInt8) (op : Bool) (T : Option (List Hd)), x9 = .int .i64 (i : Int) ∧ i ≤ m ∧ Hid (TwU w b c L k op T wr)) (fun x9 _ => m - (intOf x9).toNat)
  case atStart => exact ⟨0, _, _, _, rfl, by omega, HS0.out⟩
  case round =>
    clear HS0
    obtain ⟨i, L, op, T, rfl, him, HS⟩ := hrel
    by_cases hlt : i < m
    · have hlt2 : (i : Int) < (m : Int) := by omega
      obtain ⟨x, ho⟩ : ∃ x, X[i]? = some x := ⟨X[i]'(by rw [HL.out]; exact hlt), List.getElem?_eq_getElem _⟩
      obtain ⟨gq, oq, rfl, hgq, a0, a1, a2, a3, hx⟩ := HI.out.cells i _ ho
      have hf := HS.out.fr
      have KP := fun n : Nat => uplay_in (HS.out.later (w' := wr.drewN n) ((Fr.refl _ _).drewN n)) x hx
      obtain ⟨wh, n9, bp, bc, bs, lp, lc, l⟩ := x
      dsimp only at a0 a1 a2 a3
      dsimp only at KP
      obtain ⟨N, hN⟩ : ∃ N, bs.length = N := ⟨_, rfl⟩
      obtain ⟨M, hM⟩ : ∃ M, l.length = M := ⟨_, rfl⟩
      obtain ⟨L2, hL2⟩ : ∃ L2, (plU k (L, op, T) (wh, n9, bp, bc, bs, lp, lc, l)).1 = L2 := ⟨_, rfl⟩
      obtain ⟨o2, ho2⟩ : ∃ o2, (plU k (L, op, T) (wh, n9, bp, bc, bs, lp, lc, l)).2.1 = o2 := ⟨_, rfl⟩
      obtain ⟨T2, hT2⟩ : ∃ T2, (plU k (L, op, T) (wh, n9, bp, bc, bs, lp, lc, l)).2.2 = T2 := ⟨_, rfl⟩
      simp only [hN, hM, hL2, ho2, hT2] at KP
      rw [hN] at a2
      rw [hM] at a3
      have k0 : wr.cell? ⟨gq, oq + i * 4, none⟩ = some (.int .i64 wh) := (hf.cell (p := ⟨gq, _, none⟩) hgq id).trans a0
      have k1 : wr.cell? ⟨gq, oq + i * 4 + 1, none⟩ = some (.int .i64 n9) := (hf.cell (p := ⟨gq, _, none⟩) hgq id).trans a1
      have k2 : wr.cell? ⟨gq, oq + i * 4 + 2, none⟩ = some (.slice bp N bc) := (hf.cell (p := ⟨gq, _, none⟩) hgq id).trans a2
      have k3 : wr.cell? ⟨gq, oq + i * 4 + 3, none⟩ = some (.slice lp M lc) := (hf.cell (p := ⟨gq, _, none⟩) hgq id).trans a3
      have hnb : (o2 == !o2) = false := by cases o2 <;> rfl
      obtain ⟨rm, hrm⟩ : ∃ rm, k - L2.length = rm := ⟨_, rfl⟩
      obtain ⟨LL, hLL⟩ : ∃ LL, L2.length = LL := ⟨_, rfl⟩
      have HK : Hid (∀ w3, TwU w b c L2 k o2 T2 w3 → ∃ (r : Nat) (a : Option Addr) (k9 : Nat), w3.cell? ⟨c, 0, none⟩ = some (.pointer (some ⟨r, 0, none⟩)) ∧ w3.cell? ⟨c, 1, none⟩ = some (.bool (!o2)) ∧ w3.cell? ⟨r, 0, none⟩ = some (.slice a LL k9) ∧
          (∀ W, Hid (Fr (fun _ => False) w3 W) → Calls Try.prog 10 #[.pointer (some ⟨b, 0, none⟩)] W fun e w' => e = .returned (.int .i64 LL) ∧ Hid (Fr (fun _ => False) w3 w' ∧ w'.cell? ⟨c, 0, none⟩ = some (.pointer (some ⟨r, 0, none⟩)) ∧ w'.cell? ⟨c, 1, none⟩ = some (.bool (!o2)) ∧ w'.cell? ⟨r, 0, none⟩ = some (.slice a LL k9))) ∧
          (∀ W, Hid (Fr (fun _ => False) w3 W) → Calls Try.prog 11 #[.pointer (some ⟨b, 0, none⟩)] W fun e w' => e = .returned (.int .i64 rm) ∧ Hid (Fr (fun _ => False) w3 w' ∧ w'.cell? ⟨c, 0, none⟩ = some (.pointer (some ⟨r, 0, none⟩)) ∧ w'.cell? ⟨c, 1, none⟩ = some (.bool (!o2)) ∧ w'.cell? ⟨r, 0, none⟩ = some (.slice a LL k9))) ∧
          (∀ W, Hid (Fr (fun _ => False) w3 W) → Calls Try.prog 12 #[.pointer (some ⟨r, 0, none⟩)] W fun e w' => e = .returned (.int .i64 rm) ∧ Hid (Fr (fun _ => False) w3 w' ∧ w'.cell? ⟨c, 0, none⟩ = some (.pointer (some ⟨r, 0, none⟩)) ∧ w'.cell? ⟨c, 1, none⟩ = some (.bool (!o2)) ∧ w'.cell? ⟨r, 0, none⟩ = some (.slice a LL k9))) ∧
          (∀ W, Hid (Fr (fun _ => False) w3 W) → Calls Try.prog 13 #[.pointer (some ⟨b, 0, none⟩)] W fun e w' => e = .returned (.bool o2) ∧ Hid (Fr (fun _ => False) w3 w' ∧ w'.cell? ⟨c, 0, none⟩ = some (.pointer (some ⟨r, 0, none⟩)) ∧ w'.cell? ⟨c, 1, none⟩ = some (.bool (!o2)) ∧ w'.cell? ⟨r, 0, none⟩ = some (.slice a LL k9)))) := fun w3 h => by
        obtain ⟨r, a, k9, y0, y1, y2, y3, y4, y5, y6⟩ := h.look
        rw [hLL] at y2 y3
        rw [hrm] at y4 y5
        have key : ∀ W, Fr (fun _ => False) w3 W → W.cell? ⟨c, 0, none⟩ = some (.pointer (some ⟨r, 0, none⟩)) ∧ W.cell? ⟨c, 1, none⟩ = some (.bool (!o2)) ∧ W.cell? ⟨r, 0, none⟩ = some (.slice a LL k9) := fun W f => ⟨(f.cell (p := ⟨c, 0, none⟩) (World.block_lt_of_cell? _ _ y0) id).trans y0, (f.cell (p := ⟨c, 1, none⟩) (World.block_lt_of_cell? _ _ y1) id).trans y1, (f.cell (p := ⟨r, 0, none⟩) (World.block_lt_of_cell? _ _ y2) id).trans y2⟩
        refine ⟨r, a, k9, y0, y1, y2, fun W f => (y3 W f.out).mono ?_, fun W f => (y4 W f.out).mono ?_, fun W f => (y5 W f.out).mono ?_, fun W f => (y6 W f.out).mono ?_⟩
        · rintro e w' ⟨rfl, rfl⟩; exact ⟨rfl, f.out, key _ f.out⟩
        · rintro e w' ⟨rfl, n, rfl⟩; exact ⟨rfl, f.out.drewN n, key _ (f.out.drewN n)⟩
        · rintro e w' ⟨rfl, n, rfl⟩; exact ⟨rfl, f.out.drewN n, key _ (f.out.drewN n)⟩
        · rintro e w' ⟨rfl, rfl⟩; exact ⟨rfl, f.out, key _ f.out⟩
      have KP2 : Hid (∀ n, Calls Try.prog 9 #[.pointer (some ⟨b, 0, none⟩), .pointer (some ⟨c, 0, none⟩), .agg #[.int .i64 wh, .int .i64 n9, .slice bp N bc, .slice lp M lc]] (wr.drewN n) fun e w' => e = .returned (.bool true) ∧ TwU w b c L2 k o2 T2 w') := KP
      clear a0 a1 a2 a3 ho hx hf hN hM hL2 ho2 hT2 hrm hLL HS KP
      go_upto_region 8 with (fail)
      refine wp_region_cut 6 34 (Array.replicate 6 true ++ Array.replicate 34 false) (by kernel_rfl) (by kernel_rfl) rfl rfl ?_
      simp only [List.take_succ_cons, List.take_zero]
      repeat (go_big_quiet_step (fail))
      refine wpQuiet_nil ?_
      rintro _ ⟨nq, rfl⟩ mm
      clear k0 k1 k2 k3
      refine wpAny_ready (rs := [6]) (by kernel_rfl) (by simp) ?_
      refine AllReady.cons rfl (fun K hK => ?_) AllReady.nil
      go_simp
      refine (KP2.out nq).mono ?_
      rintro e w3 ⟨rfl, x3⟩
      have X3 : Hid (TwU w b c L2 k o2 T2 w3) := x3
      obtain ⟨r, a, k9, y0, y1, y2, KL, KM, KQ, KO⟩ := HK.out w3 x3
      have G3 : Hid (Fr (fun _ => False) w3 w3) := Fr.refl _ _
      have hHeld : w3.cell? ⟨c, 0, none⟩ = some (.pointer (some ⟨r, 0, none⟩)) ∧ w3.cell? ⟨c, 1, none⟩ = some (.bool (!o2)) ∧ w3.cell? ⟨r, 0, none⟩ = some (.slice a LL k9) := ⟨y0, y1, y2⟩
      clear x3 HK KP2 y0 y1 y2
      refine hK _ _ ?_
      clear hK K
      refine wpAny_of_held (S := fun w' => w'.cell? ⟨c, 0, none⟩ = some (.pointer (some ⟨r, 0, none⟩)) ∧ w'.cell? ⟨c, 1, none⟩ = some (.bool (!o2)) ∧ w'.cell? ⟨r, 0, none⟩ = some (.slice a LL k9)) _ _ _ _ ?_
      refine wpAnyH_take (i := 7) (oi := _) (v := .bool false) rfl (by kernel_rfl) (by kernel_rfl) (by kernel_rfl) (fun _ _ _ h => h) (Or.inl ⟨by kernel_rfl, fun w5 hw => by go_simp⟩) hHeld ?_
      refine wpAnyH_take (i := 8) (oi := _) (v := .bool false) rfl (by kernel_rfl) (by kernel_rfl) (by kernel_rfl) (fun _ _ _ h => h) (Or.inl ⟨by kernel_rfl, fun w5 hw => by go_simp⟩) hHeld ?_
      refine wpAnyH_take (i := 9) (oi := _) (v := .pointer (some ⟨b, 0, none⟩)) rfl (by kernel_rfl) (by kernel_rfl) (by kernel_rfl) (fun _ _ _ h => h) (Or.inl ⟨by kernel_rfl, fun w5 hw => by go_simp⟩) hHeld ?_
      refine wpAnyH_take (i := 11) (oi := _) (v := .pointer (some ⟨c, 0, none⟩)) rfl (by kernel_rfl) (by kernel_rfl) (by kernel_rfl) (fun _ _ _ h => h) (Or.inl ⟨by kernel_rfl, fun w5 hw => by go_simp⟩) hHeld ?_
      refine wpAnyH_take (i := 12) (oi := _) (v := .pointer (some ⟨c, 0, none⟩)) rfl (by kernel_rfl) (by kernel_rfl) (by kernel_rfl) (fun _ _ _ h => h) (Or.inl ⟨by kernel_rfl, fun w5 hw => by go_simp⟩) hHeld ?_
      refine wpAnyH_take (i := 13) (oi := _) (v := .pointer (some ⟨c, 0, none⟩)) rfl (by kernel_rfl) (by kernel_rfl) (by kernel_rfl) (fun _ _ _ h => h) (Or.inl ⟨by kernel_rfl, fun w5 hw => by go_simp⟩) hHeld ?_
      refine wpAnyH_take (i := 14) (oi := _) (v := .pointer (some ⟨r, 0, none⟩)) rfl (by kernel_rfl) (by kernel_rfl) (by kernel_rfl) (fun _ _ _ h => h) (Or.inl ⟨by kernel_rfl, fun w5 hw => by have x0 := hw.1; go_simp⟩) hHeld ?_
      refine wpAnyH_take (i := 15) (oi := _) (v := .pointer (some ⟨r, 0, none⟩)) rfl (by kernel_rfl) (by kernel_rfl) (by kernel_rfl) (fun _ _ _ h => h) (Or.inl ⟨by kernel_rfl, fun w5 hw => by go_simp⟩) hHeld ?_
      refine wpAnyH_take (i := 16) (oi := _) (v := .pointer (some ⟨r, 0, none⟩)) rfl (by kernel_rfl) (by kernel_rfl) (by kernel_rfl) (fun _ _ _ h => h) (Or.inl ⟨by kernel_rfl, fun w5 hw => by go_simp⟩) hHeld ?_
      refine wpAnyH_take (i := 17) (oi := _) (v := .slice a LL k9) rfl (by kernel_rfl) (by kernel_rfl) (by kernel_rfl) (fun _ _ _ h => h) (Or.inl ⟨by kernel_rfl, fun w5 hw => by have x0 := hw.2.2; go_simp⟩) hHeld ?_
      refine wpAnyH_take (i := 18) (oi := _) (v := .int .i64 (LL : Int)) rfl (by kernel_rfl) (by kernel_rfl) (by kernel_rfl) (fun _ _ _ h => h) (Or.inl ⟨by kernel_rfl, fun w5 hw => by go_simp⟩) hHeld ?_
      (try simp only [Act.put, List.getElem_toArray, List.getElem_cons_succ, List.getElem_cons_zero, List.setIfInBounds_toArray, List.set_cons_zero, List.set_cons_succ])
      refine wpAnyH_ready (rs := [10]) (by kernel_rfl) (by simp) ?_
      refine AllReadyH.cons rfl (fun K hK => ?_) AllReadyH.nil
      go_simp
      refine (KL _ G3).mono ?_
      rintro e w4 ⟨rfl, X4⟩
      refine hK.out _ _ X4.out.2 (fun hHeld4 => ?_)
      clear hK K hHeld KL
      have GX4 : Hid (Fr (fun _ => False) w3 w4) := X4.out.1
      refine wpAnyH_take (i := 19) (oi := _) (v := .bool false) rfl (by kernel_rfl) (by kernel_rfl) (by kernel_rfl) (fun _ _ _ h => h) (Or.inl ⟨by kernel_rfl, fun w5 hw => by go_simp⟩) hHeld4 ?_
      refine wpAnyH_take (i := 20) (oi := _) (v := .bool false) rfl (by kernel_rfl) (by kernel_rfl) (by kernel_rfl) (fun _ _ _ h => h) (Or.inl ⟨by kernel_rfl, fun w5 hw => by go_simp⟩) hHeld4 ?_
      refine wpAnyH_take (i := 21) (oi := _) (v := .bool false) rfl (by kernel_rfl) (by kernel_rfl) (by kernel_rfl) (fun _ _ _ h => h) (Or.inl ⟨by kernel_rfl, fun w5 hw => by go_simp⟩) hHeld4 ?_
      refine wpAnyH_take (i := 22) (oi := _) (v := .pointer (some ⟨b, 0, none⟩)) rfl (by kernel_rfl) (by kernel_rfl) (by kernel_rfl) (fun _ _ _ h => h) (Or.inl ⟨by kernel_rfl, fun w5 hw => by go_simp⟩) hHeld4 ?_
      refine wpAnyH_take (i := 24) (oi := _) (v := .pointer (some ⟨c, 0, none⟩)) rfl (by kernel_rfl) (by kernel_rfl) (by kernel_rfl) (fun _ _ _ h => h) (Or.inl ⟨by kernel_rfl, fun w5 hw => by go_simp⟩) hHeld4 ?_
      refine wpAnyH_take (i := 25) (oi := _) (v := .pointer (some ⟨c, 0, none⟩)) rfl (by kernel_rfl) (by kernel_rfl) (by kernel_rfl) (fun _ _ _ h => h) (Or.inl ⟨by kernel_rfl, fun w5 hw => by go_simp⟩) hHeld4 ?_
      refine wpAnyH_take (i := 26) (oi := _) (v := .pointer (some ⟨c, 0, none⟩)) rfl (by kernel_rfl) (by kernel_rfl) (by kernel_rfl) (fun _ _ _ h => h) (Or.inl ⟨by kernel_rfl, fun w5 hw => by go_simp⟩) hHeld4 ?_
      refine wpAnyH_take (i := 27) (oi := _) (v := .pointer (some ⟨r, 0, none⟩)) rfl (by kernel_rfl) (by kernel_rfl) (by kernel_rfl) (fun _ _ _ h => h) (Or.inl ⟨by kernel_rfl, fun w5 hw => by have x0 := hw.1; go_simp⟩) hHeld4 ?_
      (try simp only [Act.put, List.getElem_toArray, List.getElem_cons_succ, List.getElem_cons_zero, List.setIfInBounds_toArray, List.set_cons_zero, List.set_cons_succ])
      refine wpAnyH_ready (rs := [23]) (by kernel_rfl) (by simp) ?_
      refine AllReadyH.cons rfl (fun K hK => ?_) AllReadyH.nil
      go_simp
      refine (KM _ GX4).mono ?_
      rintro e w5 ⟨rfl, X5⟩
      refine hK.out _ _ X5.out.2 (fun hHeld5 => ?_)
      clear hK K hHeld4 KM
      have GX5 : Hid (Fr (fun _ => False) w3 w5) := X5.out.1
      (try simp only [Act.put, List.getElem_toArray, List.getElem_cons_succ, List.getElem_cons_zero, List.setIfInBounds_toArray, List.set_cons_zero, List.set_cons_succ])
      refine wpAnyH_ready (rs := [28]) (by kernel_rfl) (by simp) ?_
      refine AllReadyH.cons rfl (fun K hK => ?_) AllReadyH.nil
      go_simp
      refine (KQ _ GX5).mono ?_
      rintro e w6 ⟨rfl, X6⟩
      refine hK.out _ _ X6.out.2 (fun hHeld6 => ?_)
      clear hK K hHeld5 KQ
      have GX6 : Hid (Fr (fun _ => False) w3 w6) := X6.out.1
      refine wpAnyH_take (i := 29) (oi := _) (v := .bool false) rfl (by kernel_rfl) (by kernel_rfl) (by kernel_rfl) (fun _ _ _ h => h) (Or.inl ⟨by kernel_rfl, fun w5 hw => by go_simp⟩) hHeld6 ?_
      refine wpAnyH_take (i := 30) (oi := _) (v := .bool false) rfl (by kernel_rfl) (by kernel_rfl) (by kernel_rfl) (fun _ _ _ h => h) (Or.inl ⟨by kernel_rfl, fun w5 hw => by go_simp⟩) hHeld6 ?_
      refine wpAnyH_take (i := 31) (oi := _) (v := .bool false) rfl (by kernel_rfl) (by kernel_rfl) (by kernel_rfl) (fun _ _ _ h => h) (Or.inl ⟨by kernel_rfl, fun w5 hw => by go_simp⟩) hHeld6 ?_
      refine wpAnyH_take (i := 32) (oi := _) (v := .pointer (some ⟨b, 0, none⟩)) rfl (by kernel_rfl) (by kernel_rfl) (by kernel_rfl) (fun _ _ _ h => h) (Or.inl ⟨by kernel_rfl, fun w5 hw => by go_simp⟩) hHeld6 ?_
      refine wpAnyH_take (i := 34) (oi := _) (v := .pointer (some ⟨c, 0, none⟩)) rfl (by kernel_rfl) (by kernel_rfl) (by kernel_rfl) (fun _ _ _ h => h) (Or.inl ⟨by kernel_rfl, fun w5 hw => by go_simp⟩) hHeld6 ?_
      refine wpAnyH_take (i := 35) (oi := _) (v := .pointer (some ⟨c, 0, none⟩)) rfl (by kernel_rfl) (by kernel_rfl) (by kernel_rfl) (fun _ _ _ h => h) (Or.inl ⟨by kernel_rfl, fun w5 hw => by go_simp⟩) hHeld6 ?_
      refine wpAnyH_take (i := 36) (oi := _) (v := .pointer (some ⟨c, 1, none⟩)) rfl (by kernel_rfl) (by kernel_rfl) (by kernel_rfl) (fun _ _ _ h => h) (Or.inl ⟨by kernel_rfl, fun w5 hw => by go_simp⟩) hHeld6 ?_
      refine wpAnyH_take (i := 37) (oi := _) (v := .bool (!o2)) rfl (by kernel_rfl) (by kernel_rfl) (by kernel_rfl) (fun _ _ _ h => h) (Or.inl ⟨by kernel_rfl, fun w5 hw => by have x0 := hw.2.1; go_simp⟩) hHeld6 ?_
      (try simp only [Act.put, List.getElem_toArray, List.getElem_cons_succ, List.getElem_cons_zero, List.setIfInBounds_toArray, List.set_cons_zero, List.set_cons_succ])
      refine wpAnyH_ready (rs := [33]) (by kernel_rfl) (by simp) ?_
      refine AllReadyH.cons rfl (fun K hK => ?_) AllReadyH.nil
      go_simp
      refine (KO _ GX6).mono ?_
      rintro e w7 ⟨rfl, X7⟩
      refine hK.out _ _ X7.out.2 (fun hHeld7 => ?_)
      clear hK K hHeld6 KO
      have GX7 : Hid (Fr (fun _ => False) w3 w7) := X7.out.1
      refine wpAnyH_take (i := 38) (oi := _) (v := .bool false) rfl (by kernel_rfl) (by kernel_rfl) (by kernel_rfl) (fun _ _ _ h => h) (Or.inl ⟨by kernel_rfl, fun w5 hw => by go_simp⟩) hHeld7 ?_
      refine wpAnyH_take (i := 39) (oi := _) (v := .bool false) rfl (by kernel_rfl) (by kernel_rfl) (by kernel_rfl) (fun _ _ _ h => h) (Or.inl ⟨by kernel_rfl, fun w5 hw => by go_simp⟩) hHeld7 ?_
      (try simp only [Act.put, List.getElem_toArray, List.getElem_cons_succ, List.getElem_cons_zero, List.setIfInBounds_toArray, List.set_cons_zero, List.set_cons_succ])
      refine wpAnyH_done (by kernel_rfl) ?_ _
      go_wp2_with (fail)
      go_roundw
      case rel => exact ⟨i + 1, L2, o2, T2, by go_num, by omega, X3.out.later X7.out.1⟩
      case measure => simp [intOf]; omega
    · obtain rfl : m = i := by omega
      go_wp2_with (fail)
      refine (uawake_in _).mono ?_
      rintro e w6 ⟨rfl, hf6⟩
      have H6 : Hid (Fr (fun _ => False) w w6) := HS.out.fr.trans hf6
      clear hf6
      go_wp2
      go_ret
      exact ⟨rfl, H6.out.below (fun _ _ => id)⟩
theorem uplays_no (n : Int) (hn : n < 0 ∨ 65536 < n) (q : Option Addr) (cc m : Nat) (w : World) : Calls Try.prog 3 #[.int .i64 n, .slice q m cc] w fun e w' => e = .returned (.bool true) ∧ Below w.heap.size w w' := by
  have KN := uNew_bad n w hn
  have KR := ruNew_bad n w hn
  clear hn
  go_enter Try.func3, Try.ntmps3
  go_wp2_with (fail)
  refine KN.mono ?_
  rintro e w1 ⟨rfl, rfl⟩
  go_wp2_with (fail)
  refine KR.mono ?_
  rintro e w1 ⟨rfl, rfl⟩
  go_wp2_with (fail)
  go_loopw [9] (fun x9 wr => x9 = .int .i64 0 ∧ wr = w1) (fun x9 _ => 0)
  case atStart => exact ⟨rfl, rfl⟩
  case round =>
    obtain ⟨rfl, rfl⟩ := hrel
    go_wp2_with (fail)
    refine (uawake_in _).mono ?_
    rintro e w6 ⟨rfl, hf6⟩
    have H6 : Hid (Fr (fun _ => False) wr w6) := hf6
    clear hf6
    go_wp2
    go_ret
    exact ⟨rfl, H6.out.below (fun _ _ => id)⟩
theorem uplays_walk (n : Int) (q : Option Addr) (cc m : Nat) (X : List POp) (w : World) (hI : Ops20 w q cc X) (hl : X.length = m) : Calls Try.prog 3 #[.int .i64 n, .slice q m cc] w fun e w' => e = .returned (.bool true) ∧ Below w.heap.size w w' := by
  by_cases h : n < 0 ∨ 65536 < n
  · exact uplays_no n h q cc m w
  · obtain ⟨k, rfl⟩ : ∃ k : Nat, n = (k : Int) := ⟨n.toNat, by omega⟩
    exact uplays_yes k (by omega) q cc m X w hI hl
end Go.Proofs.Ytibiiagdhdmpiaa
