/- How arguments read: headers, and slices of headers and of a script's calls. -/
import Derived.Test.YtibiiagdhdmpiaaRows
import Derived.WalkKit
import Derived.ProofKit
import Derived.OpenShut
import Derived.ShutString
import Derived.SizedLaws
import Derived.Carry
import Derived.Below
import Derived.Lib.SmallJoins
import Derived.Deep.Slices
namespace Go.Proofs.Ytibiiagdhdmpiaa
open Go.ChangeShapes Go.WideShapes Go.ChangeAt Go.RowKit Go.Deep Go.Joins
set_option linter.unusedVariables false
set_option maxRecDepth 100000
set_option maxHeartbeats 4000000

theorem own : ownKnob Try.prog.godebug = none := by kernel_rfl
theorem laidOut : laidOutB Try.prog = true := by kernel_rfl
theorem reach_lt : reachBytes < 2 ^ 47 := by decide

/-- A header that came in. -/
theorem hdr_open {H : Type} {enc : TypeId × Value → H} {W : World} {base : Nat} {sp : Nat → Bool} {hd : Bool} {r : Reach} {b0 : Nat} {u : Value} {d : DataW H} {p : List MemPlace}
    (hv : Value.okWide Try.prog W r b0 71 u) (h : DataW.Trod enc Try.prog W base sp hd 71 u d p) :
    ∃ (n v : ByteArray) (s : Bool), u = .agg #[.string n, .string v, .bool s] ∧ d = .agg [.lit (.string n.data.toList), .lit (.string v.data.toList), .lit (.bool s)] ∧ p = [] := by
  obtain ⟨v0, v1, v2, y0, y1, y2, m, rfl, rfl, rfl, t0, t1, t2⟩ := open_agg3 Try.underlying71 (by kernel_rfl) (by kernel_rfl) hv h
  obtain ⟨n, e0, rfl, _⟩ := DataW.trod_string Try.underlying9 t0
  obtain ⟨v, e1, rfl, _⟩ := DataW.trod_string Try.underlying9 t1
  obtain ⟨s, e2, rfl⟩ := DataW.trod_bool Try.underlying4 t2
  simp only [List.cons.injEq, and_true] at e0 e1 e2
  subst e0; subst e1; subst e2
  exact ⟨n, v, s, rfl, rfl, rfl⟩
theorem hdr_sized {H : Type} {n v : List UInt8} {s : Bool} : ∀ k ∈ [n.length, v.length], k ∈ (DataW.agg [.lit (.string n), .lit (.string v), .lit (.bool s)] : DataW H).weights Try.prog 71 := by
  intro k hk
  simp only [DataW.weights, Try.underlying71, List.map_cons, List.map_nil, DataW.weightsEach, List.mem_append]
  simp at hk
  rcases hk with rfl | rfl
  · exact .inl (by simp)
  · exact .inr (.inl (by simp))
theorem hdr_fits {H : Type} {ts : List TypeId} {ds : List (DataW H)} (h : (DataW.weightsEach Try.prog ts ds).all (· ≤ reachBytes) = true) {j : Nat} {n v : ByteArray} {s : Bool}
    (ht : ts[j]? = some 71) (hd : ds[j]? = some (.agg [.lit (.string n.data.toList), .lit (.string v.data.toList), .lit (.bool s)])) : n.size < 2 ^ 47 ∧ v.size < 2 ^ 47 := by
  have h1 := List.all_eq_true.1 h _ (DataW.weights_mem_each ht hd n.data.toList.length (hdr_sized _ (by simp)))
  have h2 := List.all_eq_true.1 h _ (DataW.weights_mem_each ht hd v.data.toList.length (hdr_sized _ (by simp)))
  have hr := reach_lt
  have e1 : n.data.toList.length = n.size := by rw [Array.length_toList]; rfl
  have e2 : v.data.toList.length = v.size := by rw [Array.length_toList]; rfl
  rw [e1] at h1
  rw [e2] at h2
  have h1' := of_decide_eq_true h1
  have h2' := of_decide_eq_true h2
  omega
end Go.Proofs.Ytibiiagdhdmpiaa
