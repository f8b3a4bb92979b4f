/- How arguments read: bytes, settings, frames. -/
import Derived.Test.YthcjgjmbicnklabRows
import Derived.Test.YthcjgjmbicnklabFa
import Derived.WalkKit
import Derived.ProofKit
import Derived.OpenShut
import Derived.ShutString
import Derived.SizedLaws
import Derived.Carry
import Derived.Below
import Derived.Lib.SmallJoins
import Derived.Deep.Slices
namespace Go.Proofs.Ythcjgjmbicnklab
open Go.ChangeShapes Go.WideShapes Go.ChangeAt Go.RowKit Go.Deep Go.Joins
set_option linter.unusedVariables false
set_option maxRecDepth 100000
set_option maxHeartbeats 4000000

theorem own : ownKnob Try.prog.godebug = none := by kernel_rfl
theorem laidOut : laidOutB Try.prog = true := by kernel_rfl
theorem reach_lt : reachBytes < 2 ^ 47 := by decide
theorem u16_nat {a : Int} (h : (Lit.int .u16 a).wf = true) : ∃ k : Nat, a = (k : Int) ∧ k ≤ 65535 := by
  have h2 : IntKind.u16.min ≤ a ∧ a ≤ IntKind.u16.max := by simpa [Lit.wf] using h
  have h3 : (0 : Int) ≤ a ∧ a ≤ 65535 := h2
  exact ⟨a.toNat, by omega, by omega⟩
theorem u8_nat {a : Int} (h : (Lit.int .u8 a).wf = true) : ∃ k : Nat, a = (k : Int) ∧ k ≤ 255 := by
  have h2 : IntKind.u8.min ≤ a ∧ a ≤ IntKind.u8.max := by simpa [Lit.wf] using h
  have h3 : (0 : Int) ≤ a ∧ a ≤ 255 := h2
  exact ⟨a.toNat, by omega, by omega⟩
theorem u32_nat {a : Int} (h : (Lit.int .u32 a).wf = true) : ∃ k : Nat, a = (k : Int) ∧ k < 4294967296 := by
  have h2 : IntKind.u32.min ≤ a ∧ a ≤ IntKind.u32.max := by simpa [Lit.wf] using h
  have h3 : (0 : Int) ≤ a ∧ a ≤ 4294967295 := h2
  exact ⟨a.toNat, by omega, by omega⟩
theorem weightsAll_in {H : Type} {P : Program} {e : TypeId} {l : List (DataW H)} {d : DataW H} (hd : d ∈ l) {n : Nat} (hn : n ∈ d.weights P e) : n ∈ DataW.weightsAll P e l := by
  induction l with
  | nil => simp at hd
  | cons a r ih =>
    simp only [DataW.weightsAll, List.mem_append]
    rcases List.mem_cons.1 hd with rfl | h
    · exact .inl hn
    · exact .inr (ih h)
theorem cells_at {w : World} {base : Nat} {a : Addr} {n : Nat} {cs : List Value} (h : w.cells? base a n = some cs) {j : Nat} {v : Value} (hj : cs[j]? = some v) : w.cell? (a.add j) = some v := by
  obtain ⟨h1, h2, h3⟩ := World.cells?_some h
  have hl := (List.getElem?_eq_some_iff.1 hj).1
  rw [h3 j (by omega)]; exact hj

/-- Bytes that came in. -/
theorem bytes_core {H : Type} {enc : TypeId × Value → H} {W : World} {sp : Nat → Bool} {hd : Bool} {fuel : Nat} {cs : List Value} {x : DataW H × List MemPlace}
    (hf : DataW.trod enc Try.prog W 0 sp hd fuel 22 cs = some x) (hw : ∀ y ∈ x.1.weights Try.prog 22, y ≤ reachBytes) :
    ∃ (q : Option Addr) (c : Nat) (X : List UInt8), cs = [.slice q X.length c] ∧ SrcAt W q X ∧ X.length < 2 ^ 47 := by
  rcases open_slice Try.underlying22 hf with ⟨hcs, _⟩ | ⟨a, n, cap, m, k, D, Pl, hcs, _, hl, hm, hmm, hx, hcell⟩
  · exact ⟨none, 0, [], hcs, SrcAt.nil _ _, by simp⟩
  · subst hcs
    have hr := reach_lt
    have hlm : n ≤ m := by rw [hmm]; split <;> omega
    have hC : Try.prog.cellsOf 5 = 1 := by kernel_rfl
    have hBy : Try.prog.bytesOf 5 = 1 := by kernel_rfl
    rw [hC] at hcell
    rw [hx] at hw
    dsimp only at hw
    have hfew : n < 2 ^ 47 := by
      have := hw (((List.range n).map D).length * 1 + ((List.range (m - n)).map fun j => D (n + j)).length * 1) (by simp only [DataW.weights, Try.underlying22, hBy, List.mem_cons]; left; rw [Nat.add_mul])
      simp at this
      omega
    obtain ⟨O, hO⟩ := choose_lt (α := UInt8) (n := n) (p := fun r x => W.cell? (a.add (r * 1)) = some (.int .u8 x.toNat)) (fun r hr' => by
      obtain ⟨cs', h1, h2⟩ := hcell r (by omega)
      obtain ⟨k2, e2, hy2, wf2⟩ := DataW.trod_int Try.underlying5 h2
      subst e2
      obtain ⟨k3, rfl, hk3⟩ := u8_nat wf2
      refine ⟨UInt8.ofNat k3, ?_⟩
      have := cells_at h1 (j := 0) (v := .int .u8 (k3 : Int)) rfl
      rw [show (a.add (r * 1)).add 0 = a.add (r * 1) from by unfold Addr.add; simp] at this
      rw [this]
      simp
      omega)
    have hlen : ((List.range n).map O).length = n := by simp
    refine ⟨_, cap, (List.range n).map O, by rw [hlen], ?_, by rw [hlen]; exact hfew⟩
    intro r c hr'
    simp only [List.getElem?_map, Option.map_eq_some_iff] at hr'
    obtain ⟨r', hr1, rfl⟩ := hr'
    obtain ⟨hrn, rfl⟩ : r < n ∧ r = r' := by
      obtain ⟨h1, h2⟩ := List.getElem?_eq_some_iff.1 hr1
      simp at h1 h2
      exact ⟨h1, h2⟩
    have := hO r hrn
    rw [Nat.mul_one] at this
    exact ⟨a, rfl, this⟩
theorem bytes_open {H : Type} {enc : TypeId × Value → H} {W : World} {sp : Nat → Bool} {hd : Bool} {r : Reach} {b0 : Nat} {u : Value} {d : DataW H} {p : List MemPlace} {ts : List TypeId} {ds : List (DataW H)}
    (hv : Value.okWide Try.prog W r b0 22 u) (h : DataW.Trod enc Try.prog W 0 sp hd 22 u d p) (hsz : (DataW.weightsEach Try.prog ts ds).all (· ≤ reachBytes) = true) {j : Nat} (ht : ts[j]? = some 22) (hds : ds[j]? = some d) :
    ∃ (q : Option Addr) (c : Nat) (X : List UInt8), u = .slice q X.length c ∧ SrcAt W q X ∧ X.length < 2 ^ 47 := by
  obtain ⟨q, n, c, rfl⟩ := okWide_slice Try.underlying22 hv
  obtain ⟨fuel, hf⟩ := h
  have hw : ∀ x ∈ d.weights Try.prog 22, x ≤ reachBytes := fun x hx => of_decide_eq_true (List.all_eq_true.1 hsz x (DataW.weights_mem_each ht hds x hx))
  obtain ⟨q', c', X, hcs, hl⟩ := bytes_core hf hw
  simp [Value.cells] at hcs
  obtain ⟨rfl, rfl, rfl⟩ := hcs
  exact ⟨_, _, X, rfl, hl⟩
end Go.Proofs.Ythcjgjmbicnklab
