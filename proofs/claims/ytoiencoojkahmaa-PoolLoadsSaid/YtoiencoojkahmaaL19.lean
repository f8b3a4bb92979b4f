/- How arguments read: a script's calls on a pool. -/
import Derived.Test.YtoiencoojkahmaaLx
import Derived.Test.YtoiencoojkahmaaL17
import Derived.Test.YtoiencoojkahmaaB1
import Derived.Test.YtoiencoojkahmaaMa
namespace Go.Proofs.Ytoiencoojkahmaa
open Go.ChangeShapes Go.WideShapes Go.ChangeAt Go.RowKit Go.Deep Go.Joins
set_option linter.unusedVariables false
set_option maxRecDepth 100000
set_option maxHeartbeats 4000000

theorem spot_none3' {W : World} {b o : Nat} {spot : Option _} {v : Value} (h : W.cell? ((⟨b, o, spot⟩ : Addr).add (0 * 3)) = some v) : spot = none := by simpa [Addr.add] using World.cell?_spot h
/-- A script's calls in memory. -/
structure Ops19 (w : World) (q : Option Addr) (c : Nat) (L : List (Int × Int × Int)) : Prop where
  cap : L.length ≤ c
  few : L.length * 24 ≤ reachBytes
  cells : ∀ r x, L[r]? = some x → ∃ g o, q = some ⟨g, o, none⟩ ∧ g < w.heap.size ∧ w.cell? ⟨g, o + r * 3, none⟩ = some (.int .i64 x.1) ∧ w.cell? ⟨g, o + r * 3 + 1, none⟩ = some (.int .i64 x.2.1) ∧ w.cell? ⟨g, o + r * 3 + 2, none⟩ = some (.int .i64 x.2.2) ∧ IsI x.1 ∧ IsI x.2.1 ∧ IsI x.2.2
theorem Ops19.fr {X : Nat → Prop} {w w' : World} {q : Option Addr} {c : Nat} {L : List (Int × Int × Int)} (h : Ops19 w q c L) (f : Fr X w w') (hX : ∀ k, k < w.heap.size → ¬ X k) : Ops19 w' q c L := by
  refine ⟨h.cap, h.few, fun r x hr => ?_⟩
  obtain ⟨g, o, hq, hg, h0, h1, h2, h3⟩ := h.cells r x hr
  exact ⟨g, o, hq, Nat.lt_of_lt_of_le hg f.size, (f.cell (p := ⟨g, _, none⟩) hg (hX g hg)).trans h0, (f.cell (p := ⟨g, _, none⟩) hg (hX g hg)).trans h1, (f.cell (p := ⟨g, _, none⟩) hg (hX g hg)).trans h2, h3⟩
theorem ops19_open {H : Type} {enc : TypeId × Value → H} {W : World} {sp : Nat → Bool} {hd : Bool} {r : Reach} {b0 : Nat} {u : Value} {d : DataW H} {p : List MemPlace} {ts : List TypeId} {ds : List (DataW H)}
    (hv : Value.okWide Try.prog W r b0 24 u) (h : DataW.Trod enc Try.prog W 0 sp hd 24 u d p) (hsz : (DataW.weightsEach Try.prog ts ds).all (· ≤ reachBytes) = true) {j : Nat} (ht : ts[j]? = some 24) (hds : ds[j]? = some d) :
    ∃ (q : Option Addr) (c : Nat) (L : List (Int × Int × Int)), u = .slice q L.length c ∧ Ops19 W q c L := by
  obtain ⟨q, n, c, rfl⟩ := okWide_slice Try.underlying24 hv
  obtain ⟨fuel, hf⟩ := h
  have hw : ∀ x ∈ d.weights Try.prog 24, x ≤ reachBytes := fun x hx => of_decide_eq_true (List.all_eq_true.1 hsz x (DataW.weights_mem_each ht hds x hx))
  rcases open_slice Try.underlying24 hf with ⟨hcs, _⟩ | ⟨a, l, cap, m, k, D, Pl, hcs, _, hl, hm, hmm, hx, hcell⟩
  · simp [Value.cells] at hcs
    obtain ⟨rfl, rfl, rfl⟩ := hcs
    exact ⟨none, 0, [], rfl, by simp, by simp, fun r x hr => by simp at hr⟩
  · simp [Value.cells] at hcs
    obtain ⟨rfl, rfl, rfl⟩ := hcs
    simp only [Prod.mk.injEq] at hx
    rw [hx.1] at hw
    have hlm : n ≤ m := by rw [hmm]; split <;> omega
    have hC : Try.prog.cellsOf 34 = 3 := by kernel_rfl
    have hBy : Try.prog.bytesOf 34 = 24 := by kernel_rfl
    rw [hC] at hcell
    have hfew : n * 24 ≤ reachBytes := by
      have := hw (((List.range n).map D).length * 24 + ((List.range (m - n)).map fun j => D (n + j)).length * 24) (by simp only [DataW.weights, Try.underlying24, hBy, List.mem_cons]; left; rw [Nat.add_mul])
      simp at this
      omega
    obtain ⟨O, hO⟩ := choose_lt (α := Int × Int × Int) (n := n) (p := fun r x => W.cell? (a.add (r * 3)) = some (.int .i64 x.1) ∧ W.cell? (a.add (r * 3 + 1)) = some (.int .i64 x.2.1) ∧ W.cell? (a.add (r * 3 + 2)) = some (.int .i64 x.2.2) ∧ IsI x.1 ∧ IsI x.2.1 ∧ IsI x.2.2) (fun r hr' => by
      obtain ⟨cs', h1, h2⟩ := hcell r (by omega)
      obtain ⟨y0, y1, y2, k2, hy, hcl, t0, t1, t2⟩ := trod_struct3 Try.underlying34 h2
      obtain ⟨x0, e0, hy0, wf0⟩ := DataW.trod_int Try.underlying3 t0
      obtain ⟨x1, e1, hy1, wf1⟩ := DataW.trod_int Try.underlying3 t1
      obtain ⟨x2, e2, hy2, wf2⟩ := DataW.trod_int Try.underlying3 t2
      have c3 : Try.prog.cellsOf 3 = 1 := by kernel_rfl
      rw [hC] at hcl
      obtain ⟨a0, a1, a2, rfl⟩ : ∃ a0 a1 a2, cs' = [a0, a1, a2] := by
        match cs', hcl with
        | [a0, a1, a2], _ => exact ⟨a0, a1, a2, rfl⟩
      simp [c3] at e0 e1 e2
      subst e0; subst e1; subst e2
      refine ⟨(x0, x1, x2), ?_, ?_, ?_, IsI.of wf0, IsI.of wf1, IsI.of wf2⟩
      · have := cells_at h1 (j := 0) (v := .int .i64 x0) rfl; rwa [add_add] at this
      · have := cells_at h1 (j := 1) (v := .int .i64 x1) rfl; rwa [add_add] at this
      · have := cells_at h1 (j := 2) (v := .int .i64 x2) rfl; rwa [add_add] at this)
    obtain ⟨b, o, spot⟩ := a
    have hlen : ((List.range n).map O).length = n := by simp
    refine ⟨_, c, (List.range n).map O, by rw [hlen], by rw [hlen]; exact hl, by rw [hlen]; exact hfew, fun r z hr' => ?_⟩
    simp only [List.getElem?_map, Option.map_eq_some_iff] at hr'
    obtain ⟨r', hr1, rfl⟩ := hr'
    obtain ⟨hrn, rfl⟩ : r < n ∧ r = r' := by
      obtain ⟨h1, h2⟩ := List.getElem?_eq_some_iff.1 hr1
      simp at h1 h2
      exact ⟨h1, h2⟩
    obtain ⟨h0, h1, h2, h3⟩ := hO r hrn
    have hspot : spot = none := spot_none3' (hO 0 (by omega)).1
    subst hspot
    have hadd : ∀ j, (⟨b, o, none⟩ : Addr).add j = ⟨b, o + j, none⟩ := fun j => by unfold Addr.add; split <;> simp_all
    rw [hadd] at h0 h1 h2
    exact ⟨b, o, rfl, World.block_lt_of_cell? _ _ h0, h0, h1, h2, h3⟩
end Go.Proofs.Ytoiencoojkahmaa
