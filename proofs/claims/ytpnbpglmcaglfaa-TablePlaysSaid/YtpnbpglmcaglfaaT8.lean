/- The walks of TableStatics and TableSizes. -/
import Derived.Test.YtpnbpglmcaglfaaT7
import Derived.BigQuiet
import Derived.Deep.RegionHeldLaw
namespace Go.Proofs.Ytpnbpglmcaglfaa
open Go.RowKit
set_option maxRecDepth 100000
set_option maxHeartbeats 4000000
set_option linter.unusedVariables false

theorem heap_below {B : Nat} {w w' : World} {b : Nat} {o : Obj} (hB : Below B w w') (hb : b < B) (h : w.heap[b]? = some o) : w'.heap[b]? = some o := (hB.block b hb).trans h
/-- A header that was laid in memory ahead of a call lies there behind it. -/
theorem kept3 {w w2 : World} {a0 a1 a2 : Value} {t : TypeId} (b : Below (w.alloc (.cells #[a0, a1, a2] t)).heap.size (w.alloc (.cells #[a0, a1, a2] t)) w2) (o : Obj) :
    (w2.alloc o).cell? ⟨w.heap.size, 0, none⟩ = some a0 ∧ (w2.alloc o).cell? ⟨w.heap.size, 1, none⟩ = some a1 ∧ (w2.alloc o).cell? ⟨w.heap.size, 2, none⟩ = some a2 := by
  have h := heap_of_alloc (heap_below b (by simp) (heap_alloc_new w _)) o
  exact ⟨cell_of_heap h rfl, cell_of_heap h rfl, cell_of_heap h rfl⟩
theorem statics_walk (i : Int) (w : World) : Calls Try.prog 3 #[.int .i64 i] w fun e w' => e = .returned (.bool true) ∧ Below w.heap.size w w' := by
  generalize hn : stN i = n
  generalize hv : stV i = v
  generalize he : stE i = x
  have K1 := Static_in i w
  have K2 := fun w' => rStatic_in i w'
  rw [hn, hv, he] at K1
  simp only [hn, hv, he] at K2
  go_enter Try.func3, Try.ntmps3
  go_wp2_with (first
    | (go_at_call 9; refine K1.mono ?_; clear K1; rintro e w1 ⟨rfl, b1⟩)
    | (go_at_call 10; refine (K2 _).mono ?_; clear K2; rintro e w2 ⟨rfl, b2⟩; obtain ⟨c0, c1, c2⟩ := kept3 b2 (.cells #[.string n, .string v, .bool false] 23))
    | (go_at_call 11; refine (awake_in _).mono ?_; rintro e w3 ⟨rfl, b3⟩))
  go_ret
  exact ⟨rfl, (((b1.alloc b1.size _).trans (b2.mono (by have := b1.size; simp; omega))).alloc (by have := b1.size; have := b2.size; simp at *; omega) _).trans (b3.mono (by have := b1.size; have := b2.size; simp at *; omega))⟩

theorem rSize_in (n v : ByteArray) (s : Bool) (w : World) (hn : n.size < 2 ^ 60) (hv : v.size < 2 ^ 60) :
    Calls Try.prog 13 #[.agg #[.string n, .string v, .bool s]] w fun e w' => e = .returned (.int .i64 ((n.size + v.size + 32 : Nat) : Int)) ∧ w' = w.alloc (.cells #[.string n, .string v, .bool s] 23) := by
  go_enter Try.func13, Try.ntmps13
  go_wp2_with (fail)
  go_ret
  exact ⟨by simp, rfl⟩
theorem sizes_walk (n v : ByteArray) (s : Bool) (w : World) (hn : n.size < 2 ^ 60) (hv : v.size < 2 ^ 60) : Calls Try.prog 4 #[.agg #[.string n, .string v, .bool s]] w fun e w' => e = .returned (.bool true) ∧ Below w.heap.size w w' := by
  have K1 : ∀ w', Calls Try.prog 12 #[.agg #[.string n, .string v, .bool s]] w' fun e w'' => e = .returned (.int .i64 ((n.size + v.size + 32 : Nat) : Int)) ∧ Below w'.heap.size w' w'' := fun w' => (Size_in n v s w' hn hv).mono (by rintro e w'' ⟨rfl, rfl⟩; exact ⟨rfl, (Below.refl _ _).alloc (Nat.le_refl _) _⟩)
  have K2 : ∀ w', Calls Try.prog 13 #[.agg #[.string n, .string v, .bool s]] w' fun e w'' => e = .returned (.int .i64 ((n.size + v.size + 32 : Nat) : Int)) ∧ Below w'.heap.size w' w'' := fun w' => (rSize_in n v s w' hn hv).mono (by rintro e w'' ⟨rfl, rfl⟩; exact ⟨rfl, (Below.refl _ _).alloc (Nat.le_refl _) _⟩)
  generalize n.size + v.size + 32 = N at K1 K2
  have HC : Hid (∀ w', Below (w.alloc (.cells #[.string n, .string v, .bool s] 23)).heap.size (w.alloc (.cells #[.string n, .string v, .bool s] 23)) w' → w'.cell? ⟨w.heap.size, 0, none⟩ = some (.string n) ∧ w'.cell? ⟨w.heap.size, 1, none⟩ = some (.string v) ∧ w'.cell? ⟨w.heap.size, 2, none⟩ = some (.bool s)) := fun w' b => by
    have h := heap_below b (by simp) (heap_alloc_new w _)
    exact ⟨cell_of_heap h rfl, cell_of_heap h rfl, cell_of_heap h rfl⟩
  obtain ⟨s0, s1, s2⟩ := HC.out _ (Below.refl _ _)
  have HB : Hid (Below w.heap.size w (w.alloc (.cells #[.string n, .string v, .bool s] 23))) := (Below.refl _ w).alloc (Nat.le_refl _) _
  have HS : Hid (w.heap.size ≤ (w.alloc (.cells #[.string n, .string v, .bool s] 23)).heap.size) := by simp [Hid]
  have KA : Hid (∀ w', Calls Try.prog 11 #[] w' fun e w'' => e = .returned (.bool true) ∧ Below w'.heap.size w' w'') := fun w' => awake_in w'
  have HK1 : Hid (∀ w', Calls Try.prog 12 #[.agg #[.string n, .string v, .bool s]] w' fun e w'' => e = .returned (.int .i64 (N : Int)) ∧ Below w'.heap.size w' w'') := K1
  have HK2 : Hid (∀ w', Calls Try.prog 13 #[.agg #[.string n, .string v, .bool s]] w' fun e w'' => e = .returned (.int .i64 (N : Int)) ∧ Below w'.heap.size w' w'') := K2
  clear K1 K2
  go_enter Try.func4, Try.ntmps4
  go_wp2_with (fail)
  generalize w.alloc (.cells #[.string n, .string v, .bool s] 23) = w0 at HC s0 s1 s2 HB HS ⊢
  go_region_held_law (fun w' => w'.cell? ⟨w.heap.size, 0, none⟩ = some (.string n) ∧ w'.cell? ⟨w.heap.size, 1, none⟩ = some (.string v) ∧ w'.cell? ⟨w.heap.size, 2, none⟩ = some (.bool s)) (first | exact ⟨s0, s1, s2⟩ | exact ⟨r0, r1, r2⟩ | exact ⟨t0, t1, t2⟩ | exact ⟨u0, u1, u2⟩ | go_keep)
    (first
      | (go_at_call 12; refine (HK1.out _).mono ?_; rintro e w1 ⟨rfl, b1⟩; have B1 : Hid (Below w0.heap.size w0 w1) := Below.trans (Below.refl w0.heap.size w0).drew b1; obtain ⟨r0, r1, r2⟩ := HC.out w1 B1.out; clear b1)
      | (go_at_call 13; refine (HK2.out _).mono ?_; rintro e w2 ⟨rfl, b2⟩; have B2 : Hid (Below w0.heap.size w0 w2) := Below.trans B1.out (Below.mono b2 B1.out.size); obtain ⟨t0, t1, t2⟩ := HC.out w2 B2.out; clear b2)
      | (go_at_call 11; refine (KA.out _).mono ?_; rintro e w3 ⟨rfl, b3⟩; have B3 : Hid (Below w0.heap.size w0 w3) := Below.trans B2.out (Below.mono b3 B2.out.size); obtain ⟨u0, u1, u2⟩ := HC.out w3 B3.out; clear b3))
  all_goals go_wp2_with (fail)
  go_ret
  exact ⟨rfl, Below.trans HB.out (Below.mono B3.out HS.out)⟩
end Go.Proofs.Ytpnbpglmcaglfaa
