/- How long a list of headers that came in is at most; the table of tens, out of what a row lays. -/
import Derived.Test.YtplggcfoadjffaaGreatDoorL13
import Derived.Test.YtplggcfoadjffaaGreatDoorXn
namespace Go.Proofs.YtplggcfoadjffaaGreatDoor
open Go.ChangeShapes Go.WideShapes Go.ChangeAt Go.RowKit Go.Deep Go.Joins
set_option linter.unusedVariables false
set_option maxRecDepth 100000
set_option maxHeartbeats 4000000

theorem hl_bound {H : Type} {enc : TypeId × Value → H} {W : World} {sp : Nat → Bool} {hd : Bool} {fuel : Nat} {cs : List Value} {x : DataW H × List MemPlace} {q : Option Addr} {len c : Nat}
    (hf : DataW.trod enc Tryz.prog W 0 sp hd fuel 22 cs = some x) (hw : ∀ y ∈ x.1.weights Tryz.prog 22, y ≤ reachBytes) (e : cs = [.slice q len c]) : len * 40 + 4096 ≤ 2 ^ 47 := by
  rcases open_slice Tryz.underlying22 hf with ⟨hcs, _⟩ | ⟨a, n, cap, m, k, D, Pl, hcs, _, hl, hm, hmm, hx, hcell⟩
  · rw [hcs] at e
    cases e
    simp
  · rw [hcs] at e
    cases e
    have hBy : Tryz.prog.bytesOf 35 = 40 := by kernel_rfl
    rw [hx] at hw
    dsimp only at hw
    have := hw (((List.range len).map D).length * 40 + ((List.range (m - len)).map fun j => D (len + j)).length * 40) (by simp only [DataW.weights, Tryz.underlying22, hBy, List.mem_cons]; left; rw [Nat.add_mul])
    simp at this
    have hr : reachBytes = 140737488351232 := rfl
    omega
theorem hl_tight {H : Type} {enc : TypeId × Value → H} {W : World} {sp : Nat → Bool} {hd : Bool} {u : Value} {d : DataW H} {p : List MemPlace} {ts : List TypeId} {ds : List (DataW H)} {q : Option Addr} {len c : Nat}
    (h : DataW.Trod enc Tryz.prog W 0 sp hd 22 u d p) (hsz : (DataW.weightsEach Tryz.prog ts ds).all (· ≤ reachBytes) = true) {j : Nat} (ht : ts[j]? = some 22) (hds : ds[j]? = some d) (e : u = .slice q len c) : len * 40 + 4096 ≤ 2 ^ 47 := by
  obtain ⟨fuel, hf⟩ := h
  have hw : ∀ x ∈ d.weights Tryz.prog 22, x ≤ reachBytes := fun x hx => of_decide_eq_true (List.all_eq_true.1 hsz x (DataW.weights_mem_each ht hds x hx))
  subst e
  exact hl_bound hf hw rfl
theorem tabD : (Rows.laid_internal_strconv_uint64pow10 : DataW Unit) = Lib.tabData .u64 Lib.pow10Tab := by kernel_rfl
theorem pow_laid {r : List (String × DataW Unit)} {W : World} (h : laidMet Tryz.prog ((nmP, Rows.laid_internal_strconv_uint64pow10) :: r) W) : PowAt W := by
  rw [tabD] at h
  obtain ⟨g, hg⟩ := gP
  have hg2 : Tryz.prog.globalNamed nmP = some (oItoa_ren.g 17) := by kernel_rfl
  exact Lib.tabIs_of_head (g := oItoa_ren.g 17) (n := 20) (t := 132) (e := 114) hg2 (by kernel_rfl) Tryz.underlying132 Tryz.underlying114 (by kernel_rfl) (by kernel_rfl) h
end Go.Proofs.YtplggcfoadjffaaGreatDoor
