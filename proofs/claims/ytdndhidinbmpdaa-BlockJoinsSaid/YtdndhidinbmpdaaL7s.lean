/- How arguments read: settings. -/
import Derived.Test.YtdndhidinbmpdaaLx
import Derived.Test.YtdndhidinbmpdaaFs
import Derived.WalkKit
import Derived.ProofKit
import Derived.OpenShut
import Derived.ShutString
import Derived.SizedLaws
import Derived.Carry
import Derived.Below
import Derived.Lib.SmallJoins
import Derived.Deep.Slices
namespace Go.Proofs.Ytdndhidinbmpdaa
open Go.ChangeShapes Go.WideShapes Go.ChangeAt Go.RowKit Go.Deep Go.Joins
set_option linter.unusedVariables false
set_option maxRecDepth 100000
set_option maxHeartbeats 4000000

theorem spot_none2 {W : World} {b o : Nat} {spot : Option _} {v : Value} (h : W.cell? ((⟨b, o, spot⟩ : Addr).add (0 * 2)) = some v) : spot = none := by simpa [Addr.add] using World.cell?_spot h
/-- Settings that came in. -/
theorem sets_core {H : Type} {enc : TypeId × Value → H} {W : World} {sp : Nat → Bool} {hd : Bool} {fuel : Nat} {cs : List Value} {x : DataW H × List MemPlace}
    (hf : DataW.trod enc Try.prog W 0 sp hd fuel 32 cs = some x) (hw : ∀ y ∈ x.1.weights Try.prog 32, y ≤ reachBytes) :
    ∃ (q : Option Addr) (c : Nat) (Y : List (Int × Nat)), cs = [.slice q Y.length c] ∧ SetsAt W q c Y := by
  rcases open_slice Try.underlying32 hf with ⟨hcs, _⟩ | ⟨a, n, cap, m, k, D, Pl, hcs, _, hl, hm, hmm, hx, hcell⟩
  · exact ⟨none, 0, [], hcs, SetsAt.nil W⟩
  · subst hcs
    have hr := reach_lt
    have hlm : n ≤ m := by rw [hmm]; split <;> omega
    have hC : Try.prog.cellsOf 70 = 2 := by kernel_rfl
    have hBy : Try.prog.bytesOf 70 = 16 := by kernel_rfl
    rw [hC] at hcell
    rw [hx] at hw
    dsimp only at hw
    have hfew : n * 16 < 2 ^ 47 := by
      have := hw (((List.range n).map D).length * 16 + ((List.range (m - n)).map fun j => D (n + j)).length * 16) (by simp only [DataW.weights, Try.underlying32, hBy, List.mem_cons]; left; rw [Nat.add_mul])
      simp at this
      omega
    obtain ⟨O, hO⟩ := choose_lt (α := Int × Nat) (n := n) (p := fun r x => W.cell? (a.add (r * 2)) = some (.int .i64 x.1) ∧ W.cell? (a.add (r * 2 + 1)) = some (.int .u32 (x.2 : Nat)) ∧ (Lit.int .i64 x.1).wf = true ∧ x.2 < 4294967296) (fun r hr' => by
      obtain ⟨cs', h1, h2⟩ := hcell r (by omega)
      obtain ⟨y0, y1, k2, hy, hcl, t0, t1⟩ := trod_struct2 Try.underlying70 h2
      obtain ⟨x0, e0, hy0, wf0⟩ := DataW.trod_int Try.underlying3 t0
      obtain ⟨x1, e1, hy1, wf1⟩ := DataW.trod_int Try.underlying31 t1
      have c3 : Try.prog.cellsOf 3 = 1 := by kernel_rfl
      have c23 : Try.prog.cellsOf 31 = 1 := by kernel_rfl
      rw [hC] at hcl
      obtain ⟨a0, a1, rfl⟩ : ∃ a0 a1, cs' = [a0, a1] := by
        match cs', hcl with
        | [a0, a1], _ => exact ⟨a0, a1, rfl⟩
      simp [c3, c23] at e0 e1
      subst e0; subst e1
      obtain ⟨k3, rfl, hk3⟩ := u32_nat wf1
      refine ⟨(x0, k3), ?_, ?_, wf0, hk3⟩
      · have := cells_at h1 (j := 0) (v := .int .i64 x0) rfl; rwa [add_add] at this
      · have := cells_at h1 (j := 1) (v := .int .u32 (k3 : Int)) rfl; rwa [add_add] at this)
    obtain ⟨b, o, spot⟩ := a
    have hlen : ((List.range n).map O).length = n := by simp
    refine ⟨_, cap, (List.range n).map O, by rw [hlen], ⟨by rw [hlen]; exact hl, hm, by rw [hlen]; exact hfew, fun r h hr' => ?_⟩⟩
    simp only [List.getElem?_map, Option.map_eq_some_iff] at hr'
    obtain ⟨r', hr1, rfl⟩ := hr'
    obtain ⟨hrn, rfl⟩ : r < n ∧ r = r' := by
      obtain ⟨h1, h2⟩ := List.getElem?_eq_some_iff.1 hr1
      simp at h1 h2
      exact ⟨h1, h2⟩
    obtain ⟨h0, h1, h2, h5⟩ := hO r hrn
    have hspot : spot = none := spot_none2 (hO 0 (by omega)).1
    subst hspot
    have hadd : ∀ j, (⟨b, o, none⟩ : Addr).add j = ⟨b, o + j, none⟩ := fun j => by unfold Addr.add; split <;> simp_all
    rw [hadd] at h0 h1
    exact ⟨b, o, rfl, World.block_lt_of_cell? _ _ h0, h0, h1, h2, h5⟩
theorem sets_open {H : Type} {enc : TypeId × Value → H} {W : World} {sp : Nat → Bool} {hd : Bool} {r : Reach} {b0 : Nat} {u : Value} {d : DataW H} {p : List MemPlace} {ts : List TypeId} {ds : List (DataW H)}
    (hv : Value.okWide Try.prog W r b0 32 u) (h : DataW.Trod enc Try.prog W 0 sp hd 32 u d p) (hsz : (DataW.weightsEach Try.prog ts ds).all (· ≤ reachBytes) = true) {j : Nat} (ht : ts[j]? = some 32) (hds : ds[j]? = some d) :
    ∃ (q : Option Addr) (c : Nat) (Y : List (Int × Nat)), u = .slice q Y.length c ∧ SetsAt W q c Y := by
  obtain ⟨q, n, c, rfl⟩ := okWide_slice Try.underlying32 hv
  obtain ⟨fuel, hf⟩ := h
  have hw : ∀ x ∈ d.weights Try.prog 32, x ≤ reachBytes := fun x hx => of_decide_eq_true (List.all_eq_true.1 hsz x (DataW.weights_mem_each ht hds x hx))
  obtain ⟨q', c', X, hcs, hl⟩ := sets_core hf hw
  simp [Value.cells] at hcs
  obtain ⟨rfl, rfl, rfl⟩ := hcs
  exact ⟨_, _, X, rfl, hl⟩
end Go.Proofs.Ytdndhidinbmpdaa
