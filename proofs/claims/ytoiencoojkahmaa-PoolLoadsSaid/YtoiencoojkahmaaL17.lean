/- How arguments read: lists of ints; rules of health. -/
import Derived.Test.YtoiencoojkahmaaLx
import Derived.Test.YtoiencoojkahmaaB1
import Derived.Test.YtoiencoojkahmaaIx
namespace Go.Proofs.Ytoiencoojkahmaa
open Go.ChangeShapes Go.WideShapes Go.ChangeAt Go.RowKit Go.Deep Go.Joins
set_option linter.unusedVariables false
set_option maxRecDepth 100000
set_option maxHeartbeats 4000000

theorem spot_none1x {W : World} {b o : Nat} {spot : Option _} {v : Value} (h : W.cell? ((⟨b, o, spot⟩ : Addr).add (0 * 1)) = some v) : spot = none := by simpa [Addr.add] using World.cell?_spot h
theorem rule_open {H : Type} {enc : TypeId × Value → H} {W : World} {base : Nat} {sp : Nat → Bool} {hd : Bool} {r : Reach} {b0 : Nat} {u : Value} {d : DataW H} {p : List MemPlace}
    (hv : Value.okWide Try.prog W r b0 23 u) (h : DataW.Trod enc Try.prog W base sp hd 23 u d p) :
    ∃ (x y z : Int), u = .agg #[.int .i64 x, .int .i64 y, .int .i64 z] := by
  obtain ⟨v0, v1, v2, y0, y1, y2, m, rfl, rfl, rfl, t0, t1, t2⟩ := open_agg3 Try.underlying23 (by kernel_rfl) (by kernel_rfl) hv h
  obtain ⟨x, e0, -, wf0⟩ := DataW.trod_int Try.underlying3 t0
  obtain ⟨y, e1, -, wf1⟩ := DataW.trod_int Try.underlying3 t1
  obtain ⟨z, e2, -, wf2⟩ := DataW.trod_int Try.underlying3 t2
  simp only [List.cons.injEq, and_true] at e0 e1 e2
  subst e0; subst e1; subst e2
  exact ⟨x, y, z, rfl⟩
/-- Ints in memory. -/
structure Ints10 (w : World) (q : Option Addr) (c : Nat) (L : List Int) : Prop where
  cap : L.length ≤ c
  few : L.length * 8 ≤ reachBytes
  cells : ∀ r x, L[r]? = some x → ∃ g o, q = some ⟨g, o, none⟩ ∧ g < w.heap.size ∧ w.cell? ⟨g, o + r, none⟩ = some (.int .i64 x) ∧ IsI x
theorem Ints10.fr {X : Nat → Prop} {w w' : World} {q : Option Addr} {c : Nat} {L : List Int} (h : Ints10 w q c L) (f : Fr X w w') (hX : ∀ k, k < w.heap.size → ¬ X k) : Ints10 w' q c L := by
  refine ⟨h.cap, h.few, fun r x hr => ?_⟩
  obtain ⟨g, o, hq, hg, h0, h1⟩ := h.cells r x hr
  exact ⟨g, o, hq, Nat.lt_of_lt_of_le hg f.size, (f.cell (p := ⟨g, _, none⟩) hg (hX g hg)).trans h0, h1⟩
theorem ints10_open {H : Type} {enc : TypeId × Value → H} {W : World} {sp : Nat → Bool} {hd : Bool} {r : Reach} {b0 : Nat} {u : Value} {d : DataW H} {p : List MemPlace} {ts : List TypeId} {ds : List (DataW H)}
    (hv : Value.okWide Try.prog W r b0 38 u) (h : DataW.Trod enc Try.prog W 0 sp hd 38 u d p) (hsz : (DataW.weightsEach Try.prog ts ds).all (· ≤ reachBytes) = true) {j : Nat} (ht : ts[j]? = some 38) (hds : ds[j]? = some d) :
    ∃ (q : Option Addr) (c : Nat) (L : List Int), u = .slice q L.length c ∧ Ints10 W q c L := by
  obtain ⟨q, n, c, rfl⟩ := okWide_slice Try.underlying38 hv
  obtain ⟨fuel, hf⟩ := h
  have hw : ∀ x ∈ d.weights Try.prog 38, x ≤ reachBytes := fun x hx => of_decide_eq_true (List.all_eq_true.1 hsz x (DataW.weights_mem_each ht hds x hx))
  rcases open_slice Try.underlying38 hf with ⟨hcs, _⟩ | ⟨a, l, cap, m, k, D, Pl, hcs, _, hl, hm, hmm, hx, hcell⟩
  · simp [Value.cells] at hcs
    obtain ⟨rfl, rfl, rfl⟩ := hcs
    exact ⟨none, 0, [], rfl, by simp, by simp, fun r x hr => by simp at hr⟩
  · simp [Value.cells] at hcs
    obtain ⟨rfl, rfl, rfl⟩ := hcs
    simp only [Prod.mk.injEq] at hx
    rw [hx.1] at hw
    have hlm : n ≤ m := by rw [hmm]; split <;> omega
    have hC : Try.prog.cellsOf 3 = 1 := by kernel_rfl
    have hBy : Try.prog.bytesOf 3 = 8 := by kernel_rfl
    rw [hC] at hcell
    have hfew : n * 8 ≤ reachBytes := by
      have := hw (((List.range n).map D).length * 8 + ((List.range (m - n)).map fun j => D (n + j)).length * 8) (by simp only [DataW.weights, Try.underlying38, hBy, List.mem_cons]; left; rw [Nat.add_mul])
      simp at this
      omega
    obtain ⟨O, hO⟩ := choose_lt (α := Int) (n := n) (p := fun r x => W.cell? (a.add (r * 1)) = some (.int .i64 x) ∧ IsI x) (fun r hr' => by
      obtain ⟨cs', h1, h2⟩ := hcell r (by omega)
      obtain ⟨x0, e0, hy0, wf0⟩ := DataW.trod_int Try.underlying3 h2
      subst e0
      refine ⟨x0, ?_, IsI.of wf0⟩
      have := cells_at h1 (j := 0) (v := .int .i64 x0) rfl
      rw [show (a.add (r * 1)).add 0 = a.add (r * 1) from by unfold Addr.add; simp] at this
      exact this)
    obtain ⟨b, o, spot⟩ := a
    have hlen : ((List.range n).map O).length = n := by simp
    refine ⟨_, c, (List.range n).map O, by rw [hlen], by rw [hlen]; exact hl, by rw [hlen]; exact hfew, fun r z hr' => ?_⟩
    simp only [List.getElem?_map, Option.map_eq_some_iff] at hr'
    obtain ⟨r', hr1, rfl⟩ := hr'
    obtain ⟨hrn, rfl⟩ : r < n ∧ r = r' := by
      obtain ⟨h1, h2⟩ := List.getElem?_eq_some_iff.1 hr1
      simp at h1 h2
      exact ⟨h1, h2⟩
    obtain ⟨h0, h1⟩ := hO r hrn
    have hspot : spot = none := spot_none1x (hO 0 (by omega)).1
    subst hspot
    have hadd : ∀ j, (⟨b, o, none⟩ : Addr).add j = ⟨b, o + j, none⟩ := fun j => by unfold Addr.add; split <;> simp_all
    rw [hadd, Nat.mul_one] at h0
    exact ⟨b, o, rfl, World.block_lt_of_cell? _ _ h0, h0, h1⟩
end Go.Proofs.Ytoiencoojkahmaa
