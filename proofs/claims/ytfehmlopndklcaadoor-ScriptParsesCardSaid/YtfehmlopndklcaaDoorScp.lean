/- What an error tells: its place, its number. -/
import Derived.Test.YtfehmlopndklcaaDoorSch
import Derived.Test.YtfehmlopndklcaaDoorSci
import Derived.BigQuiet
import Derived.Deep.QuietTactic
namespace Go.Proofs.YtfehmlopndklcaaDoor
open Go.RowKit
set_option maxRecDepth 100000
set_option maxHeartbeats 4000000
set_option linter.unusedVariables false

theorem EtAt.fr {w w' : World} (h : EtAt w) (hf : Fr (fun _ => False) w w') : EtAt w' := by
  have hlt : 0 < w.heap.size := by
    rcases Nat.eq_zero_or_pos w.heap.size with h0 | h1
    · simp [EtAt, World.cell?, h0] at h
    · exact h1
  exact (hf.cell (p := ⟨0, 0, none⟩) hlt id).trans h
theorem heap_last (w : World) (o : Obj) {n : Nat} (h : w.heap.size = n) : (w.alloc o).heap[n]? = some o := by
  subst h; exact heap_alloc_new w o
theorem heap_past (w : World) (o : Obj) {n : Nat} {x : Obj} (h : w.heap[n]? = some x) : (w.alloc o).heap[n]? = some x := by
  rw [Below.heap_alloc _ _ _ (lt_of_heap h)]; exact h
/-- The chain of an error: its number, with one place or two about it. -/
def ErrIs (v : Value) (place : Nat) (n : Int) : Prop := v = .iface 61 (.agg #[.int .i64 (place : Int), .iface 25 (.int .i64 n)]) ∨ ∃ p : Int, v = .iface 61 (.agg #[.int .i64 (place : Int), .iface 61 (.agg #[.int .i64 p, .iface 25 (.int .i64 n)])])
theorem as_place_of {v : Value} {place : Nat} {n : Int} (hv : ErrIs v place n) (t : Nat) (cur : Array Value) (hc : cur.size = 2) (w : World) (hg : EtAt w) (ht : w.heap[t]? = some (.cells cur 61 (0, 0))) :
    Calls Tryd.prog 26 #[v, .iface 73 (.pointer (some ⟨t, 0, none⟩))] w fun e w' => e = .returned (.bool true) ∧ Fr (fun k => k = t) w w' ∧ ∃ x, w'.heap[t]? = some (.cells #[.int .i64 (place : Int), x] 61 (0, 0)) := by
  rcases hv with rfl | ⟨p, rfl⟩
  · exact (as_place (place : Int) _ _ t cur hc w hg ht).mono fun e w' h => ⟨h.1, h.2.1, _, h.2.2⟩
  · exact (as_place (place : Int) _ _ t cur hc w hg ht).mono fun e w' h => ⟨h.1, h.2.1, _, h.2.2⟩
theorem as_num_of {v : Value} {place : Nat} {n : Int} (hv : ErrIs v place n) (t : Nat) (cur : Array Value) (hc : cur.size = 1) (w : World) (hg : EtAt w) (ht : w.heap[t]? = some (.cells cur 25 (0, 0))) :
    Calls Tryd.prog 26 #[v, .iface 74 (.pointer (some ⟨t, 0, none⟩))] w fun e w' => e = .returned (.bool true) ∧ Fr (fun k => k = t) w w' ∧ w'.heap[t]? = some (.cells #[.int .i64 n] 25 (0, 0)) := by
  rcases hv with rfl | ⟨p, rfl⟩
  · exact as_num1 _ _ t cur hc w hg ht
  · exact as_num2 _ _ _ t cur hc w hg ht
theorem fr_old4 {S : Nat → Prop} {w X Y : World} (h : Fr (fun _ => False) w X) (k : Fr S X Y) (hs : ∀ j, j < w.heap.size → ¬ S j) : Fr (fun _ => False) w Y :=
  ⟨k.os.trans h.os, k.tape.trans h.tape, k.output.trans h.output, Nat.le_trans h.size k.size, fun i hi _ => (k.block i (Nat.lt_of_lt_of_le hi h.size) (hs i hi)).trans (h.block i hi id)⟩
theorem ask_nil (w : World) : Calls Tryd.prog 14 #[.nilIface] w fun e w' => e = .returned (.tuple #[.int .i64 0, .int .i64 0]) ∧ Fr (fun _ => False) w w' := by
  have K1 := as_nil (.iface 73 (.pointer (some ⟨w.heap.size, 0, none⟩)))
  have K2 := as_nil (.iface 74 (.pointer (some ⟨w.heap.size + 1, 0, none⟩)))
  have HK1 : Hid (∀ W, Calls Tryd.prog 26 #[.nilIface, .iface 73 (.pointer (some ⟨w.heap.size, 0, none⟩))] W fun e w' => e = .returned (.bool false) ∧ W = w') := K1
  have HK2 : Hid (∀ W, Calls Tryd.prog 26 #[.nilIface, .iface 74 (.pointer (some ⟨w.heap.size + 1, 0, none⟩))] W fun e w' => e = .returned (.bool false) ∧ W = w') := K2
  clear K1 K2
  obtain ⟨W2, hW2⟩ : ∃ W2, (w.alloc (.cells #[.int .i64 0, .nilIface] 61)).alloc (.cells #[.int .i64 0] 25) = W2 := ⟨_, rfl⟩
  have h0 : W2.heap[w.heap.size]? = some (.cells #[.int .i64 0, .nilIface] 61 (0, 0)) := by rw [← hW2]; exact heap_past _ _ (heap_last w _ rfl)
  have h1 : W2.heap[w.heap.size + 1]? = some (.cells #[.int .i64 0] 25 (0, 0)) := by rw [← hW2]; exact heap_last _ _ (by simp)
  have c0 : W2.cell? ⟨w.heap.size, 0, none⟩ = some (.int .i64 0) := cell_of_heap h0 rfl
  have c1 : W2.cell? ⟨w.heap.size + 1, 0, none⟩ = some (.int .i64 0) := cell_of_heap h1 rfl
  have HF : Hid (Fr (fun _ => False) w W2) := by show Fr _ _ _; rw [← hW2]; exact ((Fr.refl _ _).alloc _).alloc _
  clear h0 h1
  subst hW2
  go_enter Tryd.func14, Tryd.ntmps14
  go_wp2_with (fail)
  refine (HK1.out _).mono ?_
  rintro e w' ⟨rfl, rfl⟩
  go_wp2_with (fail)
  refine (HK2.out _).mono ?_
  rintro e w' ⟨rfl, rfl⟩
  go_wp2_with (fail)
  go_quiet (fail)
  go_wp2_with (fail)
  go_ret2
  exact ⟨rfl, HF.out.drewN _⟩
theorem ask_err {v : Value} {place : Nat} {n : Int} (hv : ErrIs v place n) (w : World) (hE : EtAt w) : Calls Tryd.prog 14 #[v] w fun e w' => e = .returned (.tuple #[.int .i64 (place : Int), .int .i64 n]) ∧ Fr (fun _ => False) w w' := by
  obtain ⟨W2, hW2⟩ : ∃ W2, (w.alloc (.cells #[.int .i64 0, .nilIface] 61)).alloc (.cells #[.int .i64 0] 25) = W2 := ⟨_, rfl⟩
  have h0 : W2.heap[w.heap.size]? = some (.cells #[.int .i64 0, .nilIface] 61 (0, 0)) := by rw [← hW2]; exact heap_past _ _ (heap_last w _ rfl)
  have h1 : W2.heap[w.heap.size + 1]? = some (.cells #[.int .i64 0] 25 (0, 0)) := by rw [← hW2]; exact heap_last _ _ (by simp)
  have HF : Hid (Fr (fun _ => False) w W2) := by show Fr _ _ _; rw [← hW2]; exact ((Fr.refl _ _).alloc _).alloc _
  have hE2 := hE.fr HF.out
  have K1 := as_place_of hv w.heap.size _ rfl W2 hE2 h0
  have H1 : Hid (W2.heap[w.heap.size + 1]? = some (.cells #[.int .i64 0] 25 (0, 0))) := h1
  have HE : Hid (EtAt w) := hE
  have HV : Hid (ErrIs v place n) := hv
  clear h0 h1 hE hE2 hv
  subst hW2
  go_enter Tryd.func14, Tryd.ntmps14
  go_wp2_with (fail)
  refine K1.mono ?_
  rintro e W3 ⟨rfl, hf3, x, hx⟩
  have HF3 : Hid (Fr (fun _ => False) w W3) := fr_old4 HF.out hf3 (fun j hj e => by have e' : j = w.heap.size := e; omega)
  have g1 := (hf3.block _ (lt_of_heap H1.out) (fun e => by have e' : w.heap.size + 1 = w.heap.size := e; omega)).trans H1.out
  have K2 := as_num_of HV.out (w.heap.size + 1) _ rfl W3 (HE.out.fr HF3.out) g1
  have HX : Hid (W3.heap[w.heap.size]? = some (.cells #[.int .i64 (place : Int), x] 61 (0, 0))) := hx
  clear K1 hf3 hx g1
  go_wp2_with (fail)
  refine K2.mono ?_
  rintro e W4 ⟨rfl, hf4, hn⟩
  have HF4 : Hid (Fr (fun _ => False) w W4) := fr_old4 HF3.out hf4 (fun j hj e => by have e' : j = w.heap.size + 1 := e; omega)
  have c0 : W4.cell? ⟨w.heap.size, 0, none⟩ = some (.int .i64 (place : Int)) := cell_of_heap ((hf4.block _ (lt_of_heap HX.out) (fun e => by have e' : w.heap.size = w.heap.size + 1 := e; omega)).trans HX.out) rfl
  have c1 : W4.cell? ⟨w.heap.size + 1, 0, none⟩ = some (.int .i64 n) := cell_of_heap hn rfl
  clear K2 hf4 hn
  go_wp2_with (fail)
  go_quiet (fail)
  go_wp2_with (fail)
  go_ret2
  exact ⟨rfl, HF4.out.drewN _⟩
end Go.Proofs.YtfehmlopndklcaaDoor
