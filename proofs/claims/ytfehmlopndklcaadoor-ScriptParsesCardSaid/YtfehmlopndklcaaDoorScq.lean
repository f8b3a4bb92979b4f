/- The program's Line. -/
import Derived.Test.YtfehmlopndklcaaDoorSco
import Derived.Test.YtfehmlopndklcaaDoorScp
namespace Go.Proofs.YtfehmlopndklcaaDoor
open Go.RowKit
set_option maxRecDepth 100000
set_option maxHeartbeats 4000000
set_option linter.unusedVariables false

/-- What a line is, and what is answered. -/
def LineAs (s : ByteArray) (w : World) (e : Ending) (w' : World) : Prop := Fr (fun _ => False) w w' ∧
  ((65536 < s.size ∧ e = .returned (.tuple #[zeroIn, .int .i64 0, .int .i64 2])) ∨ (s.size ≤ 65536 ∧
    ((∃ p : Nat, lineO (tx s) = .inr p ∧ e = .returned (.tuple #[zeroIn, .int .i64 (p : Int), .int .i64 4])) ∨ ∃ x v, lineO (tx s) = .inl x ∧ e = .returned (.tuple #[inV x v, .int .i64 0, .int .i64 0]) ∧ BAt w' v x.dat)))
theorem line_core (s : ByteArray) (w : World) (P : Ending → World → Prop)
    (H : Calls Tryd.prog 13 #[.string s] (w.alloc (.cells #[.int .i64 0, .int .i64 0, .int .i64 0, .int .i64 0, .slice none 0 0] 24)) fun e w' => ∃ (a b c d : Int) (q : Option Addr) (l cp : Nat) (ev : Value) (pl n : Int), e = .returned (.tuple #[.agg #[.int .i64 a, .int .i64 b, .int .i64 c, .int .i64 d, .slice q l cp], ev]) ∧
      Fr (fun _ => False) (w.alloc (.cells #[.int .i64 0, .int .i64 0, .int .i64 0, .int .i64 0, .slice none 0 0] 24)) w' ∧ (∀ W, Fr (fun _ => False) w' W → Calls Tryd.prog 14 #[ev] W fun e w'' => e = .returned (.tuple #[.int .i64 pl, .int .i64 n]) ∧ Fr (fun _ => False) W w'') ∧
      ∀ W, Fr (fun k => k = w.heap.size) w' W → P (.returned (.tuple #[.agg #[.int .i64 a, .int .i64 b, .int .i64 c, .int .i64 d, .slice q l cp], .int .i64 pl, .int .i64 n])) W) : Calls Tryd.prog 6 #[.string s] w P := by
  go_enter Tryd.func6, Tryd.ntmps6
  go_wp2_with (fail)
  refine H.mono ?_
  rintro e w1 ⟨a, b, c, d, q, l, cp, ev, pl, n, rfl, hf1, hask, hP⟩
  have HF1 : Hid (Fr (fun _ => False) (w.alloc (.cells #[.int .i64 0, .int .i64 0, .int .i64 0, .int .i64 0, .slice none 0 0] 24)) w1) := hf1
  have HP : Hid (∀ W, Fr (fun k => k = w.heap.size) w1 W → P (.returned (.tuple #[.agg #[.int .i64 a, .int .i64 b, .int .i64 c, .int .i64 d, .slice q l cp], .int .i64 pl, .int .i64 n])) W) := hP
  have KA := hask (w1.alloc (.cells #[.int .i64 a, .int .i64 b, .int .i64 c, .int .i64 d, .slice q l cp] 24)) ((Fr.refl _ _).alloc _)
  have hlt : w.heap.size < w1.heap.size := by have := hf1.size; simp at this; omega
  clear hf1 hask hP H
  go_wp2_with (fail)
  refine KA.mono ?_
  clear KA
  rintro e w2 ⟨rfl, hf2⟩
  have b2 : w2.heap[w1.heap.size]? = some (.cells #[.int .i64 a, .int .i64 b, .int .i64 c, .int .i64 d, .slice q l cp] 24 (0, 0)) := (hf2.block _ (by simp) id).trans (heap_last _ _ rfl)
  have b0 : w2.heap[w.heap.size]? = some (.cells #[.int .i64 0, .int .i64 0, .int .i64 0, .int .i64 0, .slice none 0 0] 24 (0, 0)) := (hf2.block _ (by simp; omega) id).trans (heap_past _ _ ((HF1.out.block _ (by simp) id).trans (heap_last _ _ rfl)))
  have c0 : w2.cell? ⟨w1.heap.size, 0, none⟩ = some (.int .i64 a) := cell_of_heap b2 rfl
  have c1 : w2.cell? ⟨w1.heap.size, 1, none⟩ = some (.int .i64 b) := cell_of_heap b2 rfl
  have c2 : w2.cell? ⟨w1.heap.size, 2, none⟩ = some (.int .i64 c) := cell_of_heap b2 rfl
  have c3 : w2.cell? ⟨w1.heap.size, 3, none⟩ = some (.int .i64 d) := cell_of_heap b2 rfl
  have c4 : w2.cell? ⟨w1.heap.size, 4, none⟩ = some (.slice q l cp) := cell_of_heap b2 rfl
  have d0 : w2.cell? ⟨w.heap.size, 0, none⟩ = some (.int .i64 0) := cell_of_heap b0 rfl
  have d1 : w2.cell? ⟨w.heap.size, 1, none⟩ = some (.int .i64 0) := cell_of_heap b0 rfl
  have d2 : w2.cell? ⟨w.heap.size, 2, none⟩ = some (.int .i64 0) := cell_of_heap b0 rfl
  have d3 : w2.cell? ⟨w.heap.size, 3, none⟩ = some (.int .i64 0) := cell_of_heap b0 rfl
  have d4 : w2.cell? ⟨w.heap.size, 4, none⟩ = some (.slice none 0 0) := cell_of_heap b0 rfl
  have z0 : w2.frozen? ⟨w.heap.size, 0, none⟩ = false := frozen_of_heap b0
  have z1 : w2.frozen? ⟨w.heap.size, 1, none⟩ = false := frozen_of_heap b0
  have z2 : w2.frozen? ⟨w.heap.size, 2, none⟩ = false := frozen_of_heap b0
  have z3 : w2.frozen? ⟨w.heap.size, 3, none⟩ = false := frozen_of_heap b0
  have z4 : w2.frozen? ⟨w.heap.size, 4, none⟩ = false := frozen_of_heap b0
  obtain ⟨W5, hW5⟩ : ∃ W5, put5 w2 w.heap.size (.int .i64 a) (.int .i64 b) (.int .i64 c) (.int .i64 d) (.slice q l cp) = W5 := ⟨_, rfl⟩
  have q0 := put5_at (.int .i64 a) (.int .i64 b) (.int .i64 c) (.int .i64 d) (.slice q l cp) b0
  have qf := put5_fr w2 w.heap.size (.int .i64 a) (.int .i64 b) (.int .i64 c) (.int .i64 d) (.slice q l cp)
  rw [hW5] at q0 qf
  have r0 : W5.cell? ⟨w.heap.size, 0, none⟩ = some (.int .i64 a) := cell_of_heap q0 rfl
  have r1 : W5.cell? ⟨w.heap.size, 1, none⟩ = some (.int .i64 b) := cell_of_heap q0 rfl
  have r2 : W5.cell? ⟨w.heap.size, 2, none⟩ = some (.int .i64 c) := cell_of_heap q0 rfl
  have r3 : W5.cell? ⟨w.heap.size, 3, none⟩ = some (.int .i64 d) := cell_of_heap q0 rfl
  have r4 : W5.cell? ⟨w.heap.size, 4, none⟩ = some (.slice q l cp) := cell_of_heap q0 rfl
  have HQ : Hid (Fr (fun k => k = w.heap.size) w1 W5) := (((Fr.refl _ _).alloc _).trans (hf2.mono (fun _ _ e => e.elim))).trans qf
  unfold put5 at hW5
  clear b2 b0 q0 qf hf2
  go_wp2_with (fail)
  refine bodyPost_ret (v := .tuple #[.agg #[.int .i64 a, .int .i64 b, .int .i64 c, .int .i64 d, .slice q l cp], .int .i64 pl, .int .i64 n]) (by simp [results, Tryd.results6, go_sem, r0, r1, r2, r3, r4]) rfl ?_
  exact HP.out _ HQ.out
theorem tag_ne5 {W : World} {g k : Nat} {cs cs' : Array Value} {t : TypeId} {fr fr' : Nat × Nat} (h : W.heap[g]? = some (.cells cs t fr)) (h2 : W.heap[k]? = some (.cells cs' 5 fr')) (ht : ¬ t = 5) : ¬ k = g := fun e => by
  subst e
  rw [h] at h2
  cases h2
  exact ht rfl
theorem Line_in (s : ByteArray) (w : World) (hE : EtAt w) : Calls Tryd.prog 6 #[.string s] w (LineAs s w) := by
  refine line_core s w _ ((readLine_in s _).mono fun e w' h => ?_)
  obtain ⟨hf, h⟩ := h
  have hE1 : EtAt (w.alloc (.cells #[.int .i64 0, .int .i64 0, .int .i64 0, .int .i64 0, .slice none 0 0] 24)) := hE.fr ((Fr.refl _ _).alloc _)
  have hb := (hf.block _ (by simp) id).trans (heap_last w (.cells #[.int .i64 0, .int .i64 0, .int .i64 0, .int .i64 0, .slice none 0 0] 24) rfl)
  have hfw : Fr (fun _ => False) w w' := ((Fr.refl _ _).alloc _).trans hf
  have old : ∀ W, Fr (fun k => k = w.heap.size) w' W → Fr (fun _ => False) w W := fun W h => fr_new hfw h (fun j hj e => by have e' : j = w.heap.size := e; omega)
  rcases h with ⟨h1, rfl⟩ | ⟨h1, ⟨p, hp, rfl⟩ | ⟨x, v, hx, rfl, hv⟩⟩
  · exact ⟨0, 0, 0, 0, none, 0, 0, _, 0, 2, rfl, hf, fun W hW => ask_err (place := 0) (.inl rfl) W ((hE1.fr hf).fr hW), fun W hW => ⟨old W hW, .inl ⟨h1, rfl⟩⟩⟩
  · exact ⟨0, 0, 0, 0, none, 0, 0, _, (p : Int), 4, rfl, hf, fun W hW => ask_err (place := p) (.inl rfl) W ((hE1.fr hf).fr hW), fun W hW => ⟨old W hW, .inr ⟨h1, .inl ⟨p, hp, rfl⟩⟩⟩⟩
  · obtain ⟨q, c, rfl, -⟩ := id hv
    exact ⟨x.what, x.a, x.b, x.d, q, x.dat.length, c, .nilIface, 0, 0, rfl, hf, fun W hW => ask_nil W, fun W hW => ⟨old W hW, .inr ⟨h1, .inr ⟨x, _, hx, rfl, hv.fr hW (fun k cs fr hk e => tag_ne5 hb hk (by decide) e)⟩⟩⟩⟩
end Go.Proofs.YtfehmlopndklcaaDoor
