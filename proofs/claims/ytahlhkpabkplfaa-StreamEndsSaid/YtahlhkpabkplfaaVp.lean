/- The law's own play, whatever both hold: each does its own. -/
import Derived.Test.YtahlhkpabkplfaaVn
import Derived.Deep.Cut
namespace Go.Proofs.Ytahlhkpabkplfaa
open Go.RowKit Go.Maps
set_option linter.unusedVariables false
set_option maxRecDepth 100000
set_option maxHeartbeats 4000000

/-- What play leaves, whatever both hold. -/
def PlayAny (base : Nat) (w : World) (g mb g' : Nat) (T U : Stm) (e : Ending) (w' : World) : Prop := (∃ b, e = .returned (.bool b)) ∧ YAt w' g mb T ∧ ∃ uL uG, RAt base w' g' U uL uG ∧ Fr (fun k => base ≤ k) w w'
theorem yplayA_peer (base g mb g' : Nat) (S R : Stm) (vL vG : Value) (d n : Int) (w : World) (HY : Hid (YAt w g mb S)) (HR : Hid (RAt base w g' R vL vG)) (HBB : Hid (base ≤ g ∧ base ≤ mb)) (hb : base ≤ w.heap.size) : Calls Try.prog 14 #[.pointer (some ⟨g, 0, none⟩), .pointer (some ⟨g', 0, none⟩), .agg #[.int .i64 0, .int .i64 d, .int .i64 n]] w (PlayAny base w g mb g' (peerS S d).2.2 (peerS R d).2.2) := by
  go_enter Try.func14, Try.ntmps14
  go_upto_region 1 with (fail)
  obtain ⟨w1, hw1⟩ : ∃ w1, w1 = w.alloc (.cells #[.int .i64 0, .int .i64 d, .int .i64 n] 38) := ⟨_, rfl⟩
  have F1 : Hid (Fr (fun _ => False) w w1) := by rw [hw1]; exact (Fr.refl _ _).alloc _
  have O1 : Hid (w1.heap[w.heap.size]? = some (.cells #[.int .i64 0, .int .i64 d, .int .i64 n] 38 (0, 0))) := by rw [hw1]; exact heap_alloc_new _ _
  rw [← hw1]
  clear hw1
  have Y1 : Hid (YAt w1 g mb S) := HY.out.fr F1.out id id
  have A1 : Hid (RAt base w1 g' R vL vG) := HR.out.later F1.out
  have G1 : Hid (Fr (fun k => base ≤ k) w w1) := F1.out.mono (fun _ _ e => e.elim)
  have hb1 : Hid (base ≤ w1.heap.size) := Nat.le_trans hb F1.out.size
  obtain ⟨o0, o1, o2⟩ := block_cells O1.out
  have hgn : Hid (w.heap.size ≠ g ∧ w.heap.size ≠ mb) := by have := HY.out.lt; show _ ∧ _; omega
  have hrn : Hid (¬ RX g' vL vG w.heap.size) := HR.out.ne_new (Nat.le_refl _)
  have KP := yPeer_in g mb S d w1 Y1.out
  obtain ⟨pa, hp⟩ : ∃ p, (peerS S d).1 = p := ⟨_, rfl⟩
  obtain ⟨qa, hq⟩ : ∃ q, (peerS S d).2.1 = q := ⟨_, rfl⟩
  obtain ⟨cca, hcc⟩ : ∃ cc : Int, (if qa = true then 1 else 0) = cc := ⟨_, rfl⟩
  have HVa : peerV S d = .tuple #[.bool pa, .agg #[.bool qa, .int .i64 0, .int .i64 cca]] := by
    unfold peerV fltV
    rw [hp, hq, hcc]
  rw [HVa] at KP
  clear hp hq hcc HVa
  go_upto_region 4 with (go_at_call 20; refine KP.mono ?_; clear KP; rintro e w2 ⟨rfl, y2, f2⟩)
  have G2 : Hid (Fr (fun k => k = g ∨ k = mb) w1 w2) := f2
  have Y2 : Hid (YAt w2 g mb (peerS S d).2.2) := y2
  have A2 : Hid (RAt base w2 g' R vL vG) := A1.out.past Y1.out f2
  obtain ⟨w3, hw3⟩ : ∃ w3, w3 = w2.alloc (.cells #[.bool qa, .int .i64 0, .int .i64 cca] 48) := ⟨_, rfl⟩
  have F3 : Hid (Fr (fun _ => False) w2 w3) := by rw [hw3]; exact (Fr.refl _ _).alloc _
  have X3 : Hid (w3.heap[w2.heap.size]? = some (.cells #[.bool qa, .int .i64 0, .int .i64 cca] 48 (0, 0))) := by rw [hw3]; exact heap_alloc_new _ _
  rw [← hw3]
  clear hw3 y2 f2
  have Y3 : Hid (YAt w3 g mb (peerS S d).2.2) := Y2.out.fr F3.out id id
  have A3 : Hid (RAt base w3 g' R vL vG) := A2.out.later F3.out
  have O3 : Hid (w3.heap[w.heap.size]? = some (.cells #[.int .i64 0, .int .i64 d, .int .i64 n] 38 (0, 0))) := (F3.out.block _ (Nat.lt_of_lt_of_le (lt_of_heap O1.out) G2.out.size) id).trans ((G2.out.block _ (lt_of_heap O1.out) (by have := hgn.out; omega)).trans O1.out)
  have G3 : Hid (Fr (fun k => base ≤ k) w w3) := (G1.out.trans (G2.out.mono (fun k _ e => by have h1 := HBB.out; show base ≤ k; omega))).trans (F3.out.mono (fun _ _ e => e.elim))
  have hb3 : Hid (base ≤ w3.heap.size) := Nat.le_trans hb G3.out.size
  clear o0 o1 o2
  obtain ⟨o0, o1, o2⟩ := block_cells O3.out
  have KR := ryPeer_in base g' R vL vG d w3 A3.out hb3.out
  obtain ⟨pb, hp⟩ : ∃ p, (peerS R d).1 = p := ⟨_, rfl⟩
  obtain ⟨qb, hq⟩ : ∃ q, (peerS R d).2.1 = q := ⟨_, rfl⟩
  obtain ⟨ccb, hcc⟩ : ∃ cc : Int, (if qb = true then 1 else 0) = cc := ⟨_, rfl⟩
  have HVb : peerV R d = .tuple #[.bool pb, .agg #[.bool qb, .int .i64 0, .int .i64 ccb]] := by
    unfold peerV fltV
    rw [hp, hq, hcc]
  rw [HVb] at KR
  clear hp hq hcc HVb
  go_upto_region 5 with (go_at_call 28; refine KR.mono ?_; clear KR; rintro e w4 ⟨rfl, uL, uG, a4, f4⟩)
  have G4 : Hid (Fr (RX g' vL vG) w3 w4) := f4
  have Y4 : Hid (YAt w4 g mb (peerS S d).2.2) := Y3.out.past A3.out f4
  have A4 : Hid (RAt base w4 g' (peerS R d).2.2 uL uG) := a4
  have H4 : Hid (Fr (fun k => base ≤ k) w w4) := G3.out.trans (f4.mono (fun k _ e => A3.out.base_le k e))
  have X4 : Hid (w4.heap[w2.heap.size]? = some (.cells #[.bool qa, .int .i64 0, .int .i64 cca] 48 (0, 0))) := (f4.block _ (lt_of_heap X3.out) (A2.out.ne_new (Nat.le_refl _))).trans X3.out
  obtain ⟨w5, hw5⟩ : ∃ w5, w5 = w4.alloc (.cells #[.bool qb, .int .i64 0, .int .i64 ccb] 48) := ⟨_, rfl⟩
  have F5 : Hid (Fr (fun _ => False) w4 w5) := by rw [hw5]; exact (Fr.refl _ _).alloc _
  have Z5 : Hid (w5.heap[w4.heap.size]? = some (.cells #[.bool qb, .int .i64 0, .int .i64 ccb] 48 (0, 0))) := by rw [hw5]; exact heap_alloc_new _ _
  rw [← hw5]
  clear hw5 a4 f4 o0 o1 o2
  have X5 : Hid (w5.heap[w2.heap.size]? = some (.cells #[.bool qa, .int .i64 0, .int .i64 cca] 48 (0, 0))) := (F5.out.block _ (lt_of_heap X4.out) id).trans X4.out
  obtain ⟨p0, p1, p2⟩ := block_cells X5.out
  obtain ⟨q0, q1, q2⟩ := block_cells Z5.out
  go_wp2_with (fail)
  all_goals
    go_ret
    exact ⟨⟨_, rfl⟩, Y4.out.fr F5.out id id, uL, uG, A4.out.later F5.out, H4.out.trans (F5.out.mono (fun _ _ e => e.elim))⟩
theorem yplayA_do (base g mb g' : Nat) (S R : Stm) (vL vG : Value) (d n : Int) (w : World) (HY : Hid (YAt w g mb S)) (HR : Hid (RAt base w g' R vL vG)) (HBB : Hid (base ≤ g ∧ base ≤ mb)) (hb : base ≤ w.heap.size) : Calls Try.prog 14 #[.pointer (some ⟨g, 0, none⟩), .pointer (some ⟨g', 0, none⟩), .agg #[.int .i64 2, .int .i64 d, .int .i64 n]] w (PlayAny base w g mb g' (doS S d n).2 (doS R d n).2) := by
  go_enter Try.func14, Try.ntmps14
  go_upto_region 1 with (fail)
  obtain ⟨w1, hw1⟩ : ∃ w1, w1 = w.alloc (.cells #[.int .i64 2, .int .i64 d, .int .i64 n] 38) := ⟨_, rfl⟩
  have F1 : Hid (Fr (fun _ => False) w w1) := by rw [hw1]; exact (Fr.refl _ _).alloc _
  have O1 : Hid (w1.heap[w.heap.size]? = some (.cells #[.int .i64 2, .int .i64 d, .int .i64 n] 38 (0, 0))) := by rw [hw1]; exact heap_alloc_new _ _
  rw [← hw1]
  clear hw1
  have Y1 : Hid (YAt w1 g mb S) := HY.out.fr F1.out id id
  have A1 : Hid (RAt base w1 g' R vL vG) := HR.out.later F1.out
  have G1 : Hid (Fr (fun k => base ≤ k) w w1) := F1.out.mono (fun _ _ e => e.elim)
  have hb1 : Hid (base ≤ w1.heap.size) := Nat.le_trans hb F1.out.size
  obtain ⟨o0, o1, o2⟩ := block_cells O1.out
  have hgn : Hid (w.heap.size ≠ g ∧ w.heap.size ≠ mb) := by have := HY.out.lt; show _ ∧ _; omega
  have hrn : Hid (¬ RX g' vL vG w.heap.size) := HR.out.ne_new (Nat.le_refl _)
  have KP := yDo_in g mb S d n w1 Y1.out
  obtain ⟨⟨pa, ⟨qa, qsa, qca⟩, era⟩, hp⟩ : ∃ r, (doS S d n).1 = r := ⟨_, rfl⟩
  rw [hp] at KP
  clear hp
  unfold DoAs doV fltV at KP
  dsimp only at KP
  go_upto_region 12 with (go_at_call 21; refine KP.mono ?_; clear KP; rintro e w2 ⟨rfl, y2, f2⟩)
  have G2 : Hid (Fr (fun k => k = g ∨ k = mb) w1 w2) := f2
  have Y2 : Hid (YAt w2 g mb (doS S d n).2) := y2
  have A2 : Hid (RAt base w2 g' R vL vG) := A1.out.past Y1.out f2
  obtain ⟨w3, hw3⟩ : ∃ w3, w3 = w2.alloc (.cells #[.bool qa, .int .i64 qsa, .int .i64 qca] 48) := ⟨_, rfl⟩
  have F3 : Hid (Fr (fun _ => False) w2 w3) := by rw [hw3]; exact (Fr.refl _ _).alloc _
  have X3 : Hid (w3.heap[w2.heap.size]? = some (.cells #[.bool qa, .int .i64 qsa, .int .i64 qca] 48 (0, 0))) := by rw [hw3]; exact heap_alloc_new _ _
  rw [← hw3]
  clear hw3 y2 f2
  have Y3 : Hid (YAt w3 g mb (doS S d n).2) := Y2.out.fr F3.out id id
  have A3 : Hid (RAt base w3 g' R vL vG) := A2.out.later F3.out
  have O3 : Hid (w3.heap[w.heap.size]? = some (.cells #[.int .i64 2, .int .i64 d, .int .i64 n] 38 (0, 0))) := (F3.out.block _ (Nat.lt_of_lt_of_le (lt_of_heap O1.out) G2.out.size) id).trans ((G2.out.block _ (lt_of_heap O1.out) (by have := hgn.out; omega)).trans O1.out)
  have G3 : Hid (Fr (fun k => base ≤ k) w w3) := (G1.out.trans (G2.out.mono (fun k _ e => by have h1 := HBB.out; show base ≤ k; omega))).trans (F3.out.mono (fun _ _ e => e.elim))
  have hb3 : Hid (base ≤ w3.heap.size) := Nat.le_trans hb G3.out.size
  clear o0 o1 o2
  obtain ⟨o0, o1, o2⟩ := block_cells O3.out
  have KR := ryDo_in base g' R vL vG d n w3 A3.out hb3.out
  obtain ⟨⟨pb, ⟨qb, qsb, qcb⟩, erb⟩, hp⟩ : ∃ r, (doS R d n).1 = r := ⟨_, rfl⟩
  rw [hp] at KR
  clear hp
  unfold doV fltV at KR
  dsimp only at KR
  go_upto_region 13 with (go_at_call 30; refine KR.mono ?_; clear KR; rintro e w4 ⟨rfl, uL, uG, a4, f4⟩)
  have G4 : Hid (Fr (RX g' vL vG) w3 w4) := f4
  have Y4 : Hid (YAt w4 g mb (doS S d n).2) := Y3.out.past A3.out f4
  have A4 : Hid (RAt base w4 g' (doS R d n).2 uL uG) := a4
  have H4 : Hid (Fr (fun k => base ≤ k) w w4) := G3.out.trans (f4.mono (fun k _ e => A3.out.base_le k e))
  have X4 : Hid (w4.heap[w2.heap.size]? = some (.cells #[.bool qa, .int .i64 qsa, .int .i64 qca] 48 (0, 0))) := (f4.block _ (lt_of_heap X3.out) (A2.out.ne_new (Nat.le_refl _))).trans X3.out
  obtain ⟨w5, hw5⟩ : ∃ w5, w5 = w4.alloc (.cells #[.bool qb, .int .i64 qsb, .int .i64 qcb] 48) := ⟨_, rfl⟩
  have F5 : Hid (Fr (fun _ => False) w4 w5) := by rw [hw5]; exact (Fr.refl _ _).alloc _
  have Z5 : Hid (w5.heap[w4.heap.size]? = some (.cells #[.bool qb, .int .i64 qsb, .int .i64 qcb] 48 (0, 0))) := by rw [hw5]; exact heap_alloc_new _ _
  rw [← hw5]
  clear hw5 a4 f4 o0 o1 o2
  have X5 : Hid (w5.heap[w2.heap.size]? = some (.cells #[.bool qa, .int .i64 qsa, .int .i64 qca] 48 (0, 0))) := (F5.out.block _ (lt_of_heap X4.out) id).trans X4.out
  obtain ⟨p0, p1, p2⟩ := block_cells X5.out
  obtain ⟨q0, q1, q2⟩ := block_cells Z5.out
  go_wp2_with (fail)
  all_goals
    go_ret
    exact ⟨⟨_, rfl⟩, Y4.out.fr F5.out id id, uL, uG, A4.out.later F5.out, H4.out.trans (F5.out.mono (fun _ _ e => e.elim))⟩
theorem yplayA_limit (wh : Int) (base g mb g' : Nat) (S R : Stm) (vL vG : Value) (d n : Int) (w : World) (HY : Hid (YAt w g mb S)) (HR : Hid (RAt base w g' R vL vG)) (HBB : Hid (base ≤ g ∧ base ≤ mb)) (hb : base ≤ w.heap.size) (h0 : ¬ wh = 0) (h1 : ¬ wh = 1) (h2 : ¬ wh = 2) : Calls Try.prog 14 #[.pointer (some ⟨g, 0, none⟩), .pointer (some ⟨g', 0, none⟩), .agg #[.int .i64 wh, .int .i64 d, .int .i64 n]] w (PlayAny base w g mb g' (limitS S n).2 (limitS R n).2) := by
  go_enter Try.func14, Try.ntmps14
  go_upto_region 1 with (fail)
  obtain ⟨w1, hw1⟩ : ∃ w1, w1 = w.alloc (.cells #[.int .i64 wh, .int .i64 d, .int .i64 n] 38) := ⟨_, rfl⟩
  have F1 : Hid (Fr (fun _ => False) w w1) := by rw [hw1]; exact (Fr.refl _ _).alloc _
  have O1 : Hid (w1.heap[w.heap.size]? = some (.cells #[.int .i64 wh, .int .i64 d, .int .i64 n] 38 (0, 0))) := by rw [hw1]; exact heap_alloc_new _ _
  rw [← hw1]
  clear hw1
  have Y1 : Hid (YAt w1 g mb S) := HY.out.fr F1.out id id
  have A1 : Hid (RAt base w1 g' R vL vG) := HR.out.later F1.out
  have G1 : Hid (Fr (fun k => base ≤ k) w w1) := F1.out.mono (fun _ _ e => e.elim)
  have hb1 : Hid (base ≤ w1.heap.size) := Nat.le_trans hb F1.out.size
  obtain ⟨o0, o1, o2⟩ := block_cells O1.out
  have hgn : Hid (w.heap.size ≠ g ∧ w.heap.size ≠ mb) := by have := HY.out.lt; show _ ∧ _; omega
  have hrn : Hid (¬ RX g' vL vG w.heap.size) := HR.out.ne_new (Nat.le_refl _)
  obtain ⟨p, hp⟩ : ∃ p, (limitS S n).1 = p := ⟨_, rfl⟩
  obtain ⟨q, hq⟩ : ∃ q, (limitS R n).1 = q := ⟨_, rfl⟩
  have K1 : ∀ W, Hid (Fr (fun _ => False) w1 W) → Calls Try.prog 23 #[.pointer (some ⟨g, 0, none⟩), .int .i64 n] W fun e w' => e = .returned (.int .i64 p) ∧ Hid (YAt w' g mb (limitS S n).2 ∧ RAt base w' g' R vL vG ∧ Fr (fun k => base ≤ k) w w' ∧ w'.cell? ⟨w.heap.size, 2, none⟩ = some (.int .i64 n)) := fun W hW => by
    have YW := Y1.out.fr hW.out id id
    have AW := A1.out.later hW.out
    refine (yLimit_in g mb S n W YW).mono ?_
    rintro e w' ⟨rfl, y2, f2⟩
    rw [hp]
    have hgn := hgn.out
    refine ⟨rfl, y2, AW.past YW f2, (G1.out.trans (hW.out.mono (fun _ _ e => e.elim))).trans (f2.mono (fun k _ e => by have h1 := HBB.out; show base ≤ k; omega)), ?_⟩
    have hl := lt_of_heap O1.out
    exact cell_of_heap ((f2.block _ (Nat.lt_of_lt_of_le hl hW.out.size) (by omega)).trans ((hW.out.block _ hl id).trans O1.out)) rfl
  have K2 : ∀ W, Hid (YAt W g mb (limitS S n).2 ∧ RAt base W g' R vL vG ∧ Fr (fun k => base ≤ k) w W ∧ W.cell? ⟨w.heap.size, 2, none⟩ = some (.int .i64 n)) → Calls Try.prog 31 #[.pointer (some ⟨g', 0, none⟩), .int .i64 n] W fun e w' => e = .returned (.int .i64 q) ∧ Hid (YAt w' g mb (limitS S n).2 ∧ RAt base w' g' (limitS R n).2 vL vG ∧ Fr (fun k => base ≤ k) w w' ∧ w'.cell? ⟨w.heap.size, 2, none⟩ = some (.int .i64 n)) := fun W hW => by
    obtain ⟨y2, r2, f2, c2⟩ := hW.out
    refine (ryLimit_in base g' R vL vG n W r2).mono ?_
    rintro e w' ⟨rfl, r3, f3⟩
    rw [hq]
    have hX : Fr (RX g' vL vG) W w' := f3.mono (fun _ _ e => .inl e)
    have hne : w.heap.size ≠ g' := fun e => hrn.out (.inl e)
    refine ⟨rfl, y2.past r2 hX, r3, f2.trans (f3.mono (fun k _ e => by show base ≤ k; rw [e]; exact HR.out.bg)), ?_⟩
    exact (f3.cell (p := ⟨w.heap.size, 2, none⟩) (World.block_lt_of_cell? _ _ c2) hne).trans c2
  have W1 : ∀ k, Hid (Fr (fun _ => False) w1 (w1.drewN k)) := fun k => (Fr.refl _ _).drewN k
  have W2 : Hid (Fr (fun _ => False) w1 w1.drew) := (Fr.refl _ _).drew
  clear hp hq
  go_wp2_with (fail)
  go_region_held_law (fun w' => w'.cell? ⟨w.heap.size, 2, none⟩ = some (.int .i64 n)) (first | exact o2 | exact X2.out.2.2.2 | exact X3.out.2.2.2) (first | (go_at_call 23; refine (K1 _ (by first | exact W2 | exact W1 _)).mono ?_; rintro e w2 ⟨rfl, X2⟩) | (go_at_call 31; refine (K2 _ (by first | exact X2)).mono ?_; rintro e w3 ⟨rfl, X3⟩))
  go_wp2_with (fail)
  go_ret
  exact ⟨⟨_, rfl⟩, X3.out.1, vL, vG, X3.out.2.1, X3.out.2.2.1⟩
theorem yplayA_in (base g mb g' : Nat) (S R : Stm) (vL vG : Value) (o : Int × Int × Int) (w : World) (hy : YAt w g mb S) (hr : RAt base w g' R vL vG) (hbb : base ≤ g ∧ base ≤ mb) (hb : base ≤ w.heap.size) (h1 : ¬ o.1 = 1) : Calls Try.prog 14 #[.pointer (some ⟨g, 0, none⟩), .pointer (some ⟨g', 0, none⟩), .agg #[.int .i64 o.1, .int .i64 o.2.1, .int .i64 o.2.2]] w (PlayAny base w g mb g' (playS S o) (playS R o)) := by
  obtain ⟨wh, d, n⟩ := o
  unfold playS
  dsimp only at h1 ⊢
  by_cases h0 : wh = 0
  · subst h0
    exact yplayA_peer base g mb g' S R vL vG d n w hy hr hbb hb
  rw [if_neg h0, if_neg h1, if_neg h0, if_neg h1]
  by_cases h2 : wh = 2
  · subst h2
    exact yplayA_do base g mb g' S R vL vG d n w hy hr hbb hb
  rw [if_neg h2, if_neg h2]
  exact yplayA_limit wh base g mb g' S R vL vG d n w hy hr hbb hb h0 h1 h2
end Go.Proofs.Ytahlhkpabkplfaa
