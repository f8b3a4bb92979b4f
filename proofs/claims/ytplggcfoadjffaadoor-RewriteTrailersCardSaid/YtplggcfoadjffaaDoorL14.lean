/- How long a list of headers that came in is at most; how bytes that came in read; the table of tens, out of what a row lays. -/
import Derived.Test.YtplggcfoadjffaaDoorL13
import Derived.Test.YtplggcfoadjffaaDoorXn
import Derived.Stop.LaidErr
namespace Go.Proofs.YtplggcfoadjffaaDoor
open Go.ChangeShapes Go.WideShapes Go.ChangeAt Go.RowKit Go.Deep Go.Joins
set_option linter.unusedVariables false
set_option maxRecDepth 100000
set_option maxHeartbeats 4000000

theorem hl_bound {H : Type} {enc : TypeId × Value → H} {W : World} {sp : Nat → Bool} {hd : Bool} {fuel : Nat} {cs : List Value} {x : DataW H × List MemPlace} {q : Option Addr} {len c : Nat}
    (hf : DataW.trod enc Tryd.prog W 0 sp hd fuel 22 cs = some x) (hw : ∀ y ∈ x.1.weights Tryd.prog 22, y ≤ reachBytes) (e : cs = [.slice q len c]) : len * 40 + 4096 ≤ 2 ^ 47 := by
  rcases open_slice Tryd.underlying22 hf with ⟨hcs, _⟩ | ⟨a, n, cap, m, k, D, Pl, hcs, _, hl, hm, hmm, hx, hcell⟩
  · rw [hcs] at e
    cases e
    simp
  · rw [hcs] at e
    cases e
    have hBy : Tryd.prog.bytesOf 36 = 40 := by kernel_rfl
    rw [hx] at hw
    dsimp only at hw
    have := hw (((List.range len).map D).length * 40 + ((List.range (m - len)).map fun j => D (len + j)).length * 40) (by simp only [DataW.weights, Tryd.underlying22, hBy, List.mem_cons]; left; rw [Nat.add_mul])
    simp at this
    have hr : reachBytes = 140737488351232 := rfl
    omega
theorem hl_tight {H : Type} {enc : TypeId × Value → H} {W : World} {sp : Nat → Bool} {hd : Bool} {u : Value} {d : DataW H} {p : List MemPlace} {ts : List TypeId} {ds : List (DataW H)} {q : Option Addr} {len c : Nat}
    (h : DataW.Trod enc Tryd.prog W 0 sp hd 22 u d p) (hsz : (DataW.weightsEach Tryd.prog ts ds).all (· ≤ reachBytes) = true) {j : Nat} (ht : ts[j]? = some 22) (hds : ds[j]? = some d) (e : u = .slice q len c) : len * 40 + 4096 ≤ 2 ^ 47 := by
  obtain ⟨fuel, hf⟩ := h
  have hw : ∀ x ∈ d.weights Tryd.prog 22, x ≤ reachBytes := fun x hx => of_decide_eq_true (List.all_eq_true.1 hsz x (DataW.weights_mem_each ht hds x hx))
  subst e
  exact hl_bound hf hw rfl
theorem tabD : (Rows.laid_internal_strconv_uint64pow10 : DataW Unit) = Lib.tabData .u64 Lib.pow10Tab := by kernel_rfl
theorem pow_laid {r : List (String × DataW Unit)} {W : World} (h : laidMet Tryd.prog ((nmP, Rows.laid_internal_strconv_uint64pow10) :: r) W) : PowAt W := by
  rw [tabD] at h
  obtain ⟨g, hg⟩ := gP
  have hg2 : Tryd.prog.globalNamed nmP = some (oItoa_ren.g 17) := by kernel_rfl
  exact Lib.tabIs_of_head (g := oItoa_ren.g 17) (n := 20) (t := 76) (e := 61) hg2 (by kernel_rfl) Tryd.underlying76 Tryd.underlying61 (by kernel_rfl) (by kernel_rfl) h
theorem u8_nat {a : Int} (h : (Lit.int .u8 a).wf = true) : ∃ k : Nat, a = (k : Int) ∧ k ≤ 255 := by
  have h2 : IntKind.u8.min ≤ a ∧ a ≤ IntKind.u8.max := by simpa [Lit.wf] using h
  have h3 : (0 : Int) ≤ a ∧ a ≤ 255 := h2
  exact ⟨a.toNat, by omega, by omega⟩
theorem bytes_core {H : Type} {enc : TypeId × Value → H} {W : World} {sp : Nat → Bool} {hd : Bool} {fuel : Nat} {cs : List Value} {x : DataW H × List MemPlace}
    (hf : DataW.trod enc Tryd.prog W 0 sp hd fuel 39 cs = some x) (hw : ∀ y ∈ x.1.weights Tryd.prog 39, y ≤ reachBytes) :
    ∃ (q : Option Addr) (c : Nat) (X : List UInt8), cs = [.slice q X.length c] ∧ SrcAt W q X ∧ X.length < 2 ^ 47 ∧ X.length ≤ c := by
  rcases open_slice Tryd.underlying39 hf with ⟨hcs, _⟩ | ⟨a, n, cap, m, k, D, Pl, hcs, _, hl, hm, hmm, hx, hcell⟩
  · exact ⟨none, 0, [], hcs, SrcAt.nil _ _, by simp, by simp⟩
  · subst hcs
    have hr := reach_lt
    have hlm : n ≤ m := by rw [hmm]; split <;> omega
    have hC : Tryd.prog.cellsOf 5 = 1 := by kernel_rfl
    have hBy : Tryd.prog.bytesOf 5 = 1 := by kernel_rfl
    rw [hC] at hcell
    rw [hx] at hw
    dsimp only at hw
    have hfew : n < 2 ^ 47 := by
      have := hw (((List.range n).map D).length * 1 + ((List.range (m - n)).map fun j => D (n + j)).length * 1) (by simp only [DataW.weights, Tryd.underlying39, hBy, List.mem_cons]; left; rw [Nat.add_mul])
      simp at this
      omega
    obtain ⟨O, hO⟩ := choose_lt (α := UInt8) (n := n) (p := fun r x => W.cell? (a.add (r * 1)) = some (.int .u8 x.toNat)) (fun r hr' => by
      obtain ⟨cs', h1, h2⟩ := hcell r (by omega)
      obtain ⟨k2, e2, hy2, wf2⟩ := DataW.trod_int Tryd.underlying5 h2
      subst e2
      obtain ⟨k3, rfl, hk3⟩ := u8_nat wf2
      refine ⟨UInt8.ofNat k3, ?_⟩
      have := cells_at h1 (j := 0) (v := .int .u8 (k3 : Int)) rfl
      rw [show (a.add (r * 1)).add 0 = a.add (r * 1) from by unfold Addr.add; simp] at this
      rw [this]
      simp
      omega)
    have hlen : ((List.range n).map O).length = n := by simp
    refine ⟨_, cap, (List.range n).map O, by rw [hlen], ?_, by rw [hlen]; exact hfew, by rw [hlen]; exact hl⟩
    intro r c hr'
    simp only [List.getElem?_map, Option.map_eq_some_iff] at hr'
    obtain ⟨r', hr1, rfl⟩ := hr'
    obtain ⟨hrn, rfl⟩ : r < n ∧ r = r' := by
      obtain ⟨h1, h2⟩ := List.getElem?_eq_some_iff.1 hr1
      simp at h1 h2
      exact ⟨h1, h2⟩
    have := hO r hrn
    rw [Nat.mul_one] at this
    exact ⟨a, rfl, this⟩
theorem bytes_open {H : Type} {enc : TypeId × Value → H} {W : World} {sp : Nat → Bool} {hd : Bool} {r : Reach} {b0 : Nat} {u : Value} {d : DataW H} {p : List MemPlace} {ts : List TypeId} {ds : List (DataW H)}
    (hv : Value.okWide Tryd.prog W r b0 39 u) (h : DataW.Trod enc Tryd.prog W 0 sp hd 39 u d p) (hsz : (DataW.weightsEach Tryd.prog ts ds).all (· ≤ reachBytes) = true) {j : Nat} (ht : ts[j]? = some 39) (hds : ds[j]? = some d) :
    ∃ (q : Option Addr) (c : Nat) (X : List UInt8), u = .slice q X.length c ∧ SrcAt W q X ∧ X.length < 2 ^ 47 ∧ X.length ≤ c := by
  obtain ⟨q, n, c, rfl⟩ := okWide_slice Tryd.underlying39 hv
  obtain ⟨fuel, hf⟩ := h
  have hw : ∀ x ∈ d.weights Tryd.prog 39, x ≤ reachBytes := fun x hx => of_decide_eq_true (List.all_eq_true.1 hsz x (DataW.weights_mem_each ht hds x hx))
  obtain ⟨q', c', X, hcs, hl⟩ := bytes_core hf hw
  simp [Value.cells] at hcs
  obtain ⟨rfl, rfl, rfl⟩ := hcs
  exact ⟨_, _, X, rfl, hl⟩
end Go.Proofs.YtplggcfoadjffaaDoor
