/- The law's own play: one call of both. -/
import Derived.Test.YtahlhkpabkplfaaVm
import Derived.Deep.Cut
namespace Go.Proofs.Ytahlhkpabkplfaa
open Go.RowKit Go.Maps
set_option linter.unusedVariables false
set_option maxRecDepth 100000
set_option maxHeartbeats 4000000

/-- The streams behind a call of a script. -/
def playS (S : Stm) (o : Int × Int × Int) : Stm := if o.1 = 0 then (peerS S o.2.1).2.2 else if o.1 = 1 then (ownO S).2.2 else if o.1 = 2 then (doS S o.2.1 o.2.2).2 else (limitS S o.2.2).2
/-- What play leaves. -/
def PlayAs (base : Nat) (w : World) (g mb g' : Nat) (T : Stm) (e : Ending) (w' : World) : Prop := e = .returned (.bool true) ∧ ∃ uL uG, Both base w' g mb g' T uL uG ∧ Fr (fun k => base ≤ k) w w'
theorem block_cells {w : World} {b : Nat} {x y z : Value} {t : TypeId} (h : w.heap[b]? = some (.cells #[x, y, z] t (0, 0))) : w.cell? ⟨b, 0, none⟩ = some x ∧ w.cell? ⟨b, 1, none⟩ = some y ∧ w.cell? ⟨b, 2, none⟩ = some z := ⟨cell_of_heap h rfl, cell_of_heap h rfl, cell_of_heap h rfl⟩
theorem eq_flt (b : Bool) (s c : Int) (w : World) : (binOp .eql 48 (.agg #[.bool b, .int .i64 s, .int .i64 c]) (.agg #[.bool b, .int .i64 s, .int .i64 c])).run Try.prog w = .ok (.bool true) w := by
  go_simp
theorem yplay_peer (base g mb g' : Nat) (S : Stm) (vL vG : Value) (d n : Int) (w : World) (HB : Hid (Both base w g mb g' S vL vG)) (hb : base ≤ w.heap.size) : Calls Try.prog 14 #[.pointer (some ⟨g, 0, none⟩), .pointer (some ⟨g', 0, none⟩), .agg #[.int .i64 0, .int .i64 d, .int .i64 n]] w (PlayAs base w g mb g' (peerS S d).2.2) := by
  have heq := eq_flt
  go_enter Try.func14, Try.ntmps14
  go_upto_region 1 with (fail)
  obtain ⟨w1, hw1⟩ : ∃ w1, w1 = w.alloc (.cells #[.int .i64 0, .int .i64 d, .int .i64 n] 38) := ⟨_, rfl⟩
  have F1 : Hid (Fr (fun _ => False) w w1) := by rw [hw1]; exact (Fr.refl _ _).alloc _
  have O1 : Hid (w1.heap[w.heap.size]? = some (.cells #[.int .i64 0, .int .i64 d, .int .i64 n] 38 (0, 0))) := by rw [hw1]; exact heap_alloc_new _ _
  rw [← hw1]
  clear hw1
  have B1 : Hid (Both base w1 g mb g' S vL vG) := HB.out.later F1.out
  have G1 : Hid (Fr (fun k => base ≤ k) w w1) := F1.out.mono (fun _ _ e => e.elim)
  have hb1 : Hid (base ≤ w1.heap.size) := Nat.le_trans hb F1.out.size
  obtain ⟨o0, o1, o2⟩ := block_cells O1.out
  have hgn : Hid (w.heap.size ≠ g ∧ w.heap.size ≠ mb) := by have := HB.out.y.lt; show _ ∧ _; omega
  have hrn : Hid (¬ RX g' vL vG w.heap.size) := HB.out.r.ne_new (Nat.le_refl _)
  have HG : Hid (GoneOk (peerS S d).2.2) := gone_peer HB.out.ok d
  have KP := yPeer_in g mb S d w1 B1.out.y
  obtain ⟨p, hp⟩ : ∃ p, (peerS S d).1 = p := ⟨_, rfl⟩
  obtain ⟨q, hq⟩ : ∃ q, (peerS S d).2.1 = q := ⟨_, rfl⟩
  obtain ⟨cc, hcc⟩ : ∃ cc : Int, (if q = true then 1 else 0) = cc := ⟨_, rfl⟩
  have HV : Hid (peerV S d = .tuple #[.bool p, .agg #[.bool q, .int .i64 0, .int .i64 cc]]) := by
    show peerV S d = _
    unfold peerV fltV
    rw [hp, hq, hcc]
  rw [HV.out] at KP
  clear hp hq hcc
  go_upto_region 4 with (go_at_call 20; refine KP.mono ?_; clear KP; rintro e w2 ⟨rfl, y2, f2⟩)
  have G2 : Hid (Fr (fun k => k = g ∨ k = mb) w1 w2) := f2
  have Y2 : Hid (YAt w2 g mb (peerS S d).2.2) := y2
  have A2 : Hid (RAt base w2 g' S vL vG) := B1.out.r.past B1.out.y f2
  obtain ⟨w3, hw3⟩ : ∃ w3, w3 = w2.alloc (.cells #[.bool q, .int .i64 0, .int .i64 cc] 48) := ⟨_, rfl⟩
  have F3 : Hid (Fr (fun _ => False) w2 w3) := by rw [hw3]; exact (Fr.refl _ _).alloc _
  have X3 : Hid (w3.heap[w2.heap.size]? = some (.cells #[.bool q, .int .i64 0, .int .i64 cc] 48 (0, 0))) := by rw [hw3]; exact heap_alloc_new _ _
  rw [← hw3]
  clear hw3 y2 f2
  have Y3 : Hid (YAt w3 g mb (peerS S d).2.2) := Y2.out.fr F3.out id id
  have A3 : Hid (RAt base w3 g' S vL vG) := A2.out.later F3.out
  have O3 : Hid (w3.heap[w.heap.size]? = some (.cells #[.int .i64 0, .int .i64 d, .int .i64 n] 38 (0, 0))) := (F3.out.block _ (Nat.lt_of_lt_of_le (lt_of_heap O1.out) G2.out.size) id).trans ((G2.out.block _ (lt_of_heap O1.out) (by have := hgn.out; omega)).trans O1.out)
  have G3 : Hid (Fr (fun k => base ≤ k) w w3) := (G1.out.trans (G2.out.mono (fun k _ e => by have h1 := HB.out.bg; have h2 := HB.out.bm; show base ≤ k; omega))).trans (F3.out.mono (fun _ _ e => e.elim))
  have hb3 : Hid (base ≤ w3.heap.size) := Nat.le_trans hb G3.out.size
  clear o0 o1 o2
  obtain ⟨o0, o1, o2⟩ := block_cells O3.out
  have KR := ryPeer_in base g' S vL vG d w3 A3.out hb3.out
  rw [HV.out] at KR
  go_upto_region 5 with (go_at_call 28; refine KR.mono ?_; clear KR; rintro e w4 ⟨rfl, uL, uG, a4, f4⟩)
  have G4 : Hid (Fr (RX g' vL vG) w3 w4) := f4
  have Y4 : Hid (YAt w4 g mb (peerS S d).2.2) := Y3.out.past A3.out f4
  have A4 : Hid (RAt base w4 g' (peerS S d).2.2 uL uG) := a4
  have H4 : Hid (Fr (fun k => base ≤ k) w w4) := G3.out.trans (f4.mono (fun k _ e => A3.out.base_le k e))
  have X4 : Hid (w4.heap[w2.heap.size]? = some (.cells #[.bool q, .int .i64 0, .int .i64 cc] 48 (0, 0))) := (f4.block _ (lt_of_heap X3.out) (A2.out.ne_new (Nat.le_refl _))).trans X3.out
  obtain ⟨w5, hw5⟩ : ∃ w5, w5 = w4.alloc (.cells #[.bool q, .int .i64 0, .int .i64 cc] 48) := ⟨_, rfl⟩
  have F5 : Hid (Fr (fun _ => False) w4 w5) := by rw [hw5]; exact (Fr.refl _ _).alloc _
  have Z5 : Hid (w5.heap[w4.heap.size]? = some (.cells #[.bool q, .int .i64 0, .int .i64 cc] 48 (0, 0))) := by rw [hw5]; exact heap_alloc_new _ _
  rw [← hw5]
  clear hw5 a4 f4 o0 o1 o2
  have X5 : Hid (w5.heap[w2.heap.size]? = some (.cells #[.bool q, .int .i64 0, .int .i64 cc] 48 (0, 0))) := (F5.out.block _ (lt_of_heap X4.out) id).trans X4.out
  obtain ⟨p0, p1, p2⟩ := block_cells X5.out
  obtain ⟨q0, q1, q2⟩ := block_cells Z5.out
  go_wp2_with (fail)
  go_ret
  exact ⟨rfl, uL, uG, ⟨Y4.out.fr F5.out id id, A4.out.later F5.out, HB.out.bg, HB.out.bm, HG.out⟩, H4.out.trans (F5.out.mono (fun _ _ e => e.elim))⟩
theorem yplay_own (base g mb g' : Nat) (S : Stm) (vL vG : Value) (d n : Int) (w : World) (HB : Hid (Both base w g mb g' S vL vG)) (hb : base ≤ w.heap.size) : Calls Try.prog 14 #[.pointer (some ⟨g, 0, none⟩), .pointer (some ⟨g', 0, none⟩), .agg #[.int .i64 1, .int .i64 d, .int .i64 n]] w (PlayAs base w g mb g' (ownO S).2.2) := by
  have heq := eq_flt
  go_enter Try.func14, Try.ntmps14
  go_upto_region 1 with (fail)
  obtain ⟨w1, hw1⟩ : ∃ w1, w1 = w.alloc (.cells #[.int .i64 1, .int .i64 d, .int .i64 n] 38) := ⟨_, rfl⟩
  have F1 : Hid (Fr (fun _ => False) w w1) := by rw [hw1]; exact (Fr.refl _ _).alloc _
  have O1 : Hid (w1.heap[w.heap.size]? = some (.cells #[.int .i64 1, .int .i64 d, .int .i64 n] 38 (0, 0))) := by rw [hw1]; exact heap_alloc_new _ _
  rw [← hw1]
  clear hw1
  have B1 : Hid (Both base w1 g mb g' S vL vG) := HB.out.later F1.out
  have G1 : Hid (Fr (fun k => base ≤ k) w w1) := F1.out.mono (fun _ _ e => e.elim)
  have hb1 : Hid (base ≤ w1.heap.size) := Nat.le_trans hb F1.out.size
  obtain ⟨o0, o1, o2⟩ := block_cells O1.out
  have hgn : Hid (w.heap.size ≠ g ∧ w.heap.size ≠ mb) := by have := HB.out.y.lt; show _ ∧ _; omega
  have hrn : Hid (¬ RX g' vL vG w.heap.size) := HB.out.r.ne_new (Nat.le_refl _)
  have HG : Hid (GoneOk (ownO S).2.2) := gone_own HB.out.ok
  have KP := yOwn_in g mb S w1 B1.out.y
  obtain ⟨p, hp⟩ : ∃ p, (ownO S).1 = p := ⟨_, rfl⟩
  obtain ⟨q, hq⟩ : ∃ q, (ownO S).2.1 = q := ⟨_, rfl⟩
  rw [hp, hq] at KP
  have HV : Hid ((ownO S).1 = p ∧ (ownO S).2.1 = q) := ⟨hp, hq⟩
  clear hp hq
  go_upto_region 8 with (go_at_call 16; refine KP.mono ?_; clear KP; rintro e w2 ⟨rfl, y2, f2⟩)
  have G2 : Hid (Fr (fun k => k = g ∨ k = mb) w1 w2) := f2
  have Y2 : Hid (YAt w2 g mb (ownO S).2.2) := y2
  have A2 : Hid (RAt base w2 g' S vL vG) := B1.out.r.past B1.out.y f2
  obtain ⟨w3, hw3⟩ : ∃ w3, w3 = w2 := ⟨_, rfl⟩
  subst hw3
  clear y2 f2
  have Y3 : Hid (YAt w3 g mb (ownO S).2.2) := Y2.out
  have A3 : Hid (RAt base w3 g' S vL vG) := A2.out
  have O3 : Hid (w3.heap[w.heap.size]? = some (.cells #[.int .i64 1, .int .i64 d, .int .i64 n] 38 (0, 0))) := (G2.out.block _ (lt_of_heap O1.out) (by have := hgn.out; omega)).trans O1.out
  have G3 : Hid (Fr (fun k => base ≤ k) w w3) := G1.out.trans (G2.out.mono (fun k _ e => by have h1 := HB.out.bg; have h2 := HB.out.bm; show base ≤ k; omega))
  have hb3 : Hid (base ≤ w3.heap.size) := Nat.le_trans hb G3.out.size
  clear o0 o1 o2
  obtain ⟨o0, o1, o2⟩ := block_cells O3.out
  have KR := ryOwn_in base g' S vL vG w3 A3.out hb3.out
  rw [HV.out.1, HV.out.2] at KR
  go_upto_region 9 with (go_at_call 29; refine KR.mono ?_; clear KR; rintro e w4 ⟨rfl, uL, uG, a4, f4⟩)
  have G4 : Hid (Fr (RX g' vL vG) w3 w4) := f4
  have Y4 : Hid (YAt w4 g mb (ownO S).2.2) := Y3.out.past A3.out f4
  have A4 : Hid (RAt base w4 g' (ownO S).2.2 uL uG) := a4
  have H4 : Hid (Fr (fun k => base ≤ k) w w4) := G3.out.trans (f4.mono (fun k _ e => A3.out.base_le k e))
  clear a4 f4 o0 o1 o2
  go_wp2_with (fail)
  go_ret
  exact ⟨rfl, uL, uG, ⟨Y4.out, A4.out, HB.out.bg, HB.out.bm, HG.out⟩, H4.out⟩
theorem yplay_do (base g mb g' : Nat) (S : Stm) (vL vG : Value) (d n : Int) (w : World) (HB : Hid (Both base w g mb g' S vL vG)) (hb : base ≤ w.heap.size) : Calls Try.prog 14 #[.pointer (some ⟨g, 0, none⟩), .pointer (some ⟨g', 0, none⟩), .agg #[.int .i64 2, .int .i64 d, .int .i64 n]] w (PlayAs base w g mb g' (doS S d n).2) := by
  have heq := eq_flt
  go_enter Try.func14, Try.ntmps14
  go_upto_region 1 with (fail)
  obtain ⟨w1, hw1⟩ : ∃ w1, w1 = w.alloc (.cells #[.int .i64 2, .int .i64 d, .int .i64 n] 38) := ⟨_, rfl⟩
  have F1 : Hid (Fr (fun _ => False) w w1) := by rw [hw1]; exact (Fr.refl _ _).alloc _
  have O1 : Hid (w1.heap[w.heap.size]? = some (.cells #[.int .i64 2, .int .i64 d, .int .i64 n] 38 (0, 0))) := by rw [hw1]; exact heap_alloc_new _ _
  rw [← hw1]
  clear hw1
  have B1 : Hid (Both base w1 g mb g' S vL vG) := HB.out.later F1.out
  have G1 : Hid (Fr (fun k => base ≤ k) w w1) := F1.out.mono (fun _ _ e => e.elim)
  have hb1 : Hid (base ≤ w1.heap.size) := Nat.le_trans hb F1.out.size
  obtain ⟨o0, o1, o2⟩ := block_cells O1.out
  have hgn : Hid (w.heap.size ≠ g ∧ w.heap.size ≠ mb) := by have := HB.out.y.lt; show _ ∧ _; omega
  have hrn : Hid (¬ RX g' vL vG w.heap.size) := HB.out.r.ne_new (Nat.le_refl _)
  have HG : Hid (GoneOk (doS S d n).2) := gone_do HB.out.ok d n
  have KP := yDo_in g mb S d n w1 B1.out.y
  obtain ⟨⟨p, ⟨q, qs, qc⟩, er⟩, hp⟩ : ∃ r, (doS S d n).1 = r := ⟨_, rfl⟩
  have HV : Hid ((doS S d n).1 = (p, (q, qs, qc), er)) := hp
  rw [hp] at KP
  unfold DoAs doV fltV at KP
  dsimp only at KP
  clear hp
  go_upto_region 12 with (go_at_call 21; refine KP.mono ?_; clear KP; rintro e w2 ⟨rfl, y2, f2⟩)
  have G2 : Hid (Fr (fun k => k = g ∨ k = mb) w1 w2) := f2
  have Y2 : Hid (YAt w2 g mb (doS S d n).2) := y2
  have A2 : Hid (RAt base w2 g' S vL vG) := B1.out.r.past B1.out.y f2
  obtain ⟨w3, hw3⟩ : ∃ w3, w3 = w2.alloc (.cells #[.bool q, .int .i64 qs, .int .i64 qc] 48) := ⟨_, rfl⟩
  have F3 : Hid (Fr (fun _ => False) w2 w3) := by rw [hw3]; exact (Fr.refl _ _).alloc _
  have X3 : Hid (w3.heap[w2.heap.size]? = some (.cells #[.bool q, .int .i64 qs, .int .i64 qc] 48 (0, 0))) := by rw [hw3]; exact heap_alloc_new _ _
  rw [← hw3]
  clear hw3 y2 f2
  have Y3 : Hid (YAt w3 g mb (doS S d n).2) := Y2.out.fr F3.out id id
  have A3 : Hid (RAt base w3 g' S vL vG) := A2.out.later F3.out
  have O3 : Hid (w3.heap[w.heap.size]? = some (.cells #[.int .i64 2, .int .i64 d, .int .i64 n] 38 (0, 0))) := (F3.out.block _ (Nat.lt_of_lt_of_le (lt_of_heap O1.out) G2.out.size) id).trans ((G2.out.block _ (lt_of_heap O1.out) (by have := hgn.out; omega)).trans O1.out)
  have G3 : Hid (Fr (fun k => base ≤ k) w w3) := (G1.out.trans (G2.out.mono (fun k _ e => by have h1 := HB.out.bg; have h2 := HB.out.bm; show base ≤ k; omega))).trans (F3.out.mono (fun _ _ e => e.elim))
  have hb3 : Hid (base ≤ w3.heap.size) := Nat.le_trans hb G3.out.size
  clear o0 o1 o2
  obtain ⟨o0, o1, o2⟩ := block_cells O3.out
  have KR := ryDo_in base g' S vL vG d n w3 A3.out hb3.out
  rw [HV.out] at KR
  unfold doV fltV at KR
  dsimp only at KR
  go_upto_region 13 with (go_at_call 30; refine KR.mono ?_; clear KR; rintro e w4 ⟨rfl, uL, uG, a4, f4⟩)
  have G4 : Hid (Fr (RX g' vL vG) w3 w4) := f4
  have Y4 : Hid (YAt w4 g mb (doS S d n).2) := Y3.out.past A3.out f4
  have A4 : Hid (RAt base w4 g' (doS S d n).2 uL uG) := a4
  have H4 : Hid (Fr (fun k => base ≤ k) w w4) := G3.out.trans (f4.mono (fun k _ e => A3.out.base_le k e))
  have X4 : Hid (w4.heap[w2.heap.size]? = some (.cells #[.bool q, .int .i64 qs, .int .i64 qc] 48 (0, 0))) := (f4.block _ (lt_of_heap X3.out) (A2.out.ne_new (Nat.le_refl _))).trans X3.out
  obtain ⟨w5, hw5⟩ : ∃ w5, w5 = w4.alloc (.cells #[.bool q, .int .i64 qs, .int .i64 qc] 48) := ⟨_, rfl⟩
  have F5 : Hid (Fr (fun _ => False) w4 w5) := by rw [hw5]; exact (Fr.refl _ _).alloc _
  have Z5 : Hid (w5.heap[w4.heap.size]? = some (.cells #[.bool q, .int .i64 qs, .int .i64 qc] 48 (0, 0))) := by rw [hw5]; exact heap_alloc_new _ _
  rw [← hw5]
  clear hw5 a4 f4 o0 o1 o2
  have X5 : Hid (w5.heap[w2.heap.size]? = some (.cells #[.bool q, .int .i64 qs, .int .i64 qc] 48 (0, 0))) := (F5.out.block _ (lt_of_heap X4.out) id).trans X4.out
  obtain ⟨p0, p1, p2⟩ := block_cells X5.out
  obtain ⟨q0, q1, q2⟩ := block_cells Z5.out
  go_wp2_with (fail)
  go_ret
  exact ⟨rfl, uL, uG, ⟨Y4.out.fr F5.out id id, A4.out.later F5.out, HB.out.bg, HB.out.bm, HG.out⟩, H4.out.trans (F5.out.mono (fun _ _ e => e.elim))⟩
theorem yplay_limit (wh : Int) (base g mb g' : Nat) (S : Stm) (vL vG : Value) (d n : Int) (w : World) (HB : Hid (Both base w g mb g' S vL vG)) (hb : base ≤ w.heap.size) (h0 : ¬ wh = 0) (h1 : ¬ wh = 1) (h2 : ¬ wh = 2) : Calls Try.prog 14 #[.pointer (some ⟨g, 0, none⟩), .pointer (some ⟨g', 0, none⟩), .agg #[.int .i64 wh, .int .i64 d, .int .i64 n]] w (PlayAs base w g mb g' (limitS S n).2) := by
  have heq := eq_flt
  go_enter Try.func14, Try.ntmps14
  go_upto_region 1 with (fail)
  obtain ⟨w1, hw1⟩ : ∃ w1, w1 = w.alloc (.cells #[.int .i64 wh, .int .i64 d, .int .i64 n] 38) := ⟨_, rfl⟩
  have F1 : Hid (Fr (fun _ => False) w w1) := by rw [hw1]; exact (Fr.refl _ _).alloc _
  have O1 : Hid (w1.heap[w.heap.size]? = some (.cells #[.int .i64 wh, .int .i64 d, .int .i64 n] 38 (0, 0))) := by rw [hw1]; exact heap_alloc_new _ _
  rw [← hw1]
  clear hw1
  have B1 : Hid (Both base w1 g mb g' S vL vG) := HB.out.later F1.out
  have G1 : Hid (Fr (fun k => base ≤ k) w w1) := F1.out.mono (fun _ _ e => e.elim)
  have hb1 : Hid (base ≤ w1.heap.size) := Nat.le_trans hb F1.out.size
  obtain ⟨o0, o1, o2⟩ := block_cells O1.out
  have hgn : Hid (w.heap.size ≠ g ∧ w.heap.size ≠ mb) := by have := HB.out.y.lt; show _ ∧ _; omega
  have hrn : Hid (¬ RX g' vL vG w.heap.size) := HB.out.r.ne_new (Nat.le_refl _)
  have HG : Hid (GoneOk (limitS S n).2) := gone_limit HB.out.ok n
  obtain ⟨p, hp⟩ : ∃ p, (limitS S n).1 = p := ⟨_, rfl⟩
  have K1 : ∀ W, Hid (Fr (fun _ => False) w1 W) → Calls Try.prog 23 #[.pointer (some ⟨g, 0, none⟩), .int .i64 n] W fun e w' => e = .returned (.int .i64 p) ∧ Hid (YAt w' g mb (limitS S n).2 ∧ RAt base w' g' S vL vG ∧ Fr (fun k => base ≤ k) w w' ∧ w'.cell? ⟨w.heap.size, 2, none⟩ = some (.int .i64 n)) := fun W hW => by
    have BW := B1.out.later hW.out
    refine (yLimit_in g mb S n W BW.y).mono ?_
    rintro e w' ⟨rfl, y2, f2⟩
    rw [hp]
    have hgn := hgn.out
    refine ⟨rfl, y2, BW.r.past BW.y f2, (G1.out.trans (hW.out.mono (fun _ _ e => e.elim))).trans (f2.mono (fun k _ e => by have h1 := HB.out.bg; have h2 := HB.out.bm; show base ≤ k; omega)), ?_⟩
    have hl := lt_of_heap O1.out
    exact cell_of_heap ((f2.block _ (Nat.lt_of_lt_of_le hl hW.out.size) (by omega)).trans ((hW.out.block _ hl id).trans O1.out)) rfl
  have K2 : ∀ W, Hid (YAt W g mb (limitS S n).2 ∧ RAt base W g' S vL vG ∧ Fr (fun k => base ≤ k) w W ∧ W.cell? ⟨w.heap.size, 2, none⟩ = some (.int .i64 n)) → Calls Try.prog 31 #[.pointer (some ⟨g', 0, none⟩), .int .i64 n] W fun e w' => e = .returned (.int .i64 p) ∧ Hid (Both base w' g mb g' (limitS S n).2 vL vG ∧ Fr (fun k => base ≤ k) w w' ∧ w'.cell? ⟨w.heap.size, 2, none⟩ = some (.int .i64 n)) := fun W hW => by
    obtain ⟨y2, r2, f2, c2⟩ := hW.out
    refine (ryLimit_in base g' S vL vG n W r2).mono ?_
    rintro e w' ⟨rfl, r3, f3⟩
    rw [hp]
    have hX : Fr (RX g' vL vG) W w' := f3.mono (fun _ _ e => .inl e)
    have hne : w.heap.size ≠ g' := fun e => hrn.out (.inl e)
    refine ⟨rfl, ⟨y2.past r2 hX, r3, HB.out.bg, HB.out.bm, HG.out⟩, f2.trans (f3.mono (fun k _ e => by show base ≤ k; rw [e]; exact HB.out.r.bg)), ?_⟩
    exact (f3.cell (p := ⟨w.heap.size, 2, none⟩) (World.block_lt_of_cell? _ _ c2) hne).trans c2
  have W1 : ∀ k, Hid (Fr (fun _ => False) w1 (w1.drewN k)) := fun k => (Fr.refl _ _).drewN k
  have W2 : Hid (Fr (fun _ => False) w1 w1.drew) := (Fr.refl _ _).drew
  clear hp
  go_wp2_with (fail)
  go_region_held_law (fun w' => w'.cell? ⟨w.heap.size, 2, none⟩ = some (.int .i64 n)) (first | exact o2 | exact X2.out.2.2.2 | exact X3.out.2.2) (first | (go_at_call 23; refine (K1 _ (by first | exact W2 | exact W1 _)).mono ?_; rintro e w2 ⟨rfl, X2⟩) | (go_at_call 31; refine (K2 _ (by first | exact X2)).mono ?_; rintro e w3 ⟨rfl, X3⟩))
  go_wp2_with (fail)
  go_ret
  exact ⟨rfl, vL, vG, X3.out.1, X3.out.2.1⟩
theorem yplay_in (base g mb g' : Nat) (S : Stm) (vL vG : Value) (o : Int × Int × Int) (w : World) (h : Both base w g mb g' S vL vG) (hb : base ≤ w.heap.size) : Calls Try.prog 14 #[.pointer (some ⟨g, 0, none⟩), .pointer (some ⟨g', 0, none⟩), .agg #[.int .i64 o.1, .int .i64 o.2.1, .int .i64 o.2.2]] w (PlayAs base w g mb g' (playS S o)) := by
  obtain ⟨wh, d, n⟩ := o
  unfold playS
  dsimp only
  by_cases h0 : wh = 0
  · subst h0
    exact yplay_peer base g mb g' S vL vG d n w h hb
  rw [if_neg h0]
  by_cases h1 : wh = 1
  · subst h1
    exact yplay_own base g mb g' S vL vG d n w h hb
  rw [if_neg h1]
  by_cases h2 : wh = 2
  · subst h2
    exact yplay_do base g mb g' S vL vG d n w h hb
  rw [if_neg h2]
  exact yplay_limit wh base g mb g' S vL vG d n w h hb h0 h1 h2
end Go.Proofs.Ytahlhkpabkplfaa
