/- The walk of WheelOrder. -/
import Derived.Test.YtldedlphamcehaaGk
import Derived.Test.YtldedlphamcehaaGm
namespace Go.Proofs.Ytldedlphamcehaa
open Go.RowKit Go.Maps
set_option linter.unusedVariables false
set_option maxRecDepth 100000
set_option maxHeartbeats 4000000

/-- When timer k is due. -/
def fO (X : List UInt8) (k : Nat) : Nat := 1 + (X.getD k 0).toNat % 100
/-- Those that are still to be told, N ticks in. -/
def restN (X : List UInt8) (n N : Nat) : List (Int × Int) := (rowN (fO X) n).filter (fun x => decide ((N : Int) < x.2))
theorem restN_new (X : List UInt8) (n : Nat) : restN X n 0 = rowN (fO X) n := by
  unfold restN
  rw [List.filter_eq_self]
  intro x hx
  obtain ⟨k, hk, rfl⟩ := List.mem_map.1 hx
  have : 1 ≤ fO X k := by unfold fO; omega
  simp
  omega
theorem restN_tick (X : List UInt8) (n N : Nat) : restT N (restN X n N) = restN X n (N + 1) := by
  unfold restT restN
  rw [List.filter_filter]
  refine List.filter_congr fun x hx => ?_
  rw [Int.natCast_add]
  by_cases h1 : (N : Int) < x.2
  · by_cases h2 : x.2 = (N : Int) + 1
    · simp [h2]
    · have : (N : Int) + 1 < x.2 := by omega
      simp [h1, h2, this]
  · have h2 : ¬ (N : Int) + 1 < x.2 := by omega
    simp [h1, h2]
/-- Those of the first i that are due at tick t. -/
def wantN (X : List UInt8) (t i : Nat) : List Int := ((List.range i).filter (fun k => decide (fO X k = t))).map (fun k : Nat => (k : Int))
theorem wantN_step (X : List UInt8) (t i : Nat) : wantN X t (i + 1) = wantN X t i ++ (if fO X i = t then [(i : Int)] else []) := by
  unfold wantN
  rw [List.range_succ, List.filter_append, List.map_append]
  congr 1
  by_cases h : fO X i = t <;> simp [h]
theorem wantN_len (X : List UInt8) (t i : Nat) : (wantN X t i).length ≤ i := by
  unfold wantN
  rw [List.length_map]
  have := List.length_filter_le (fun k => decide (fO X k = t)) (List.range i)
  rwa [List.length_range] at this
theorem due_want (X : List UInt8) (n N : Nat) : dueT N (restN X n N) = wantN X (N + 1) n := by
  unfold dueT restN wantN rowN
  rw [List.filter_filter, List.filter_map, List.map_map]
  have e : ((fun x : Int × Int => x.1) ∘ fun k : Nat => ((k : Int), ((fO X k : Nat) : Int))) = fun k : Nat => (k : Int) := rfl
  rw [e]
  congr 1
  refine List.filter_congr fun k hk => ?_
  simp only [Function.comp]
  by_cases h : fO X k = N + 1
  · simp [h]
    omega
  · have h2 : ¬ ((fO X k : Nat) : Int) = (N : Int) + 1 := by omega
    simp [h, h2]
theorem rest_len (X : List UInt8) (n N : Nat) : (restN X n (N + 1)).length + (wantN X (N + 1) n).length = (restN X n N).length := by
  rw [← restN_tick, ← due_want]
  unfold restT dueT
  rw [List.length_map]
  generalize restN X n N = L
  induction L with
  | nil => rfl
  | cons x r ih =>
    by_cases h : x.2 = (N : Int) + 1
    · rw [List.filter_cons, if_neg (by simp [h]), List.filter_cons, if_pos (by simp [h]), List.length_cons, List.length_cons]
      omega
    · rw [List.filter_cons, if_pos (by simp [h]), List.filter_cons, if_neg (by simp [h]), List.length_cons, List.length_cons]
      omega
theorem rest_end (X : List UInt8) (n : Nat) : restN X n 100 = [] := by
  unfold restN
  rw [List.filter_eq_nil_iff]
  intro x hx
  obtain ⟨k, hk, rfl⟩ := List.mem_map.1 hx
  have : fO X k ≤ 100 := by unfold fO; omega
  simp
  omega
theorem rest_le (X : List UInt8) (n N : Nat) : (restN X n N).length ≤ n := by
  unfold restN
  have := List.length_filter_le (fun x : Int × Int => decide ((N : Int) < x.2)) (rowN (fO X) n)
  rwa [rowN_length] at this
/-- The wheel N ticks in. -/
def OrS (base : Nat) (w : World) (g mb : Nat) (N : Nat) (L : List (Int × Int)) (wr : World) : Prop := ∃ sl, WAt base wr g mb sl N L ∧ Fr (fun k => base ≤ k) w wr
theorem OrS.later {base : Nat} {w : World} {g mb N : Nat} {L : List (Int × Int)} {wr w' : World} (h : OrS base w g mb N L wr) (f : Fr (fun _ => False) wr w') : OrS base w g mb N L w' := by
  obtain ⟨sl, h1, h3⟩ := h
  exact ⟨sl, h1.later f, h3.trans (f.mono (fun _ _ e => e.elim))⟩
theorem OrS.set {base : Nat} {w : World} {g mb i : Nat} {X : List UInt8} {wr : World} (h : OrS base w g mb 0 (rowN (fO X) i) wr) (hb : base ≤ w.heap.size) (hi : i < 1000) : Calls Try.prog 10 #[.pointer (some ⟨g, 0, none⟩), .int .i64 (i : Int), .int .i64 (fO X i : Int)] wr fun e w' => e = .returned (.int .i64 0) ∧ OrS base w g mb 0 (rowN (fO X) (i + 1)) w' := by
  obtain ⟨sl, h1, h3⟩ := h
  have hf : 1 ≤ fO X i ∧ fO X i ≤ 1000 := by unfold fO; omega
  have K := qSet_in h1 (Nat.le_trans hb h3.size) (by omega) (i : Int) (fO X i : Int) ⟨by omega, by omega⟩
  rw [rowN_set (fO X) i hf.1 hf.2 (by omega)] at K
  refine K.mono ?_
  rintro e w' ⟨rfl, sl2, h4, h5, h6⟩
  exact ⟨rfl, sl2, h4, h3.trans (h5.mono (fun k _ e => h1.1.base_le k e))⟩
theorem OrS.len {base : Nat} {w : World} {g mb N : Nat} {L : List (Int × Int)} {wr : World} (h : OrS base w g mb N L wr) : Calls Try.prog 20 #[.pointer (some ⟨g, 0, none⟩)] wr fun e w' => e = .returned (.int .i64 (L.length : Nat)) ∧ wr = w' := by
  obtain ⟨sl, h1, h3⟩ := h
  exact qLen_in h1
end Go.Proofs.Ytldedlphamcehaa
