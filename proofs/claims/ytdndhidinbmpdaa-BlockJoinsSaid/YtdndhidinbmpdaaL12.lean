/- How arguments read: frames, many or few. -/
import Derived.Test.YtdndhidinbmpdaaL7
namespace Go.Proofs.Ytdndhidinbmpdaa
open Go.ChangeShapes Go.WideShapes Go.ChangeAt Go.RowKit Go.Deep Go.Joins
set_option linter.unusedVariables false
set_option maxRecDepth 100000
set_option maxHeartbeats 4000000

theorem frame_core {H : Type} {enc : TypeId × Value → H} {W : World} {sp : Nat → Bool} {hd : Bool} {fuel : Nat} {cs : List Value} {x : DataW H × List MemPlace}
    (hf : DataW.trod enc Try.prog W 0 sp hd fuel 34 cs = some x) (hcl : cs.length = 12) (hw : ∀ y ∈ x.1.weights Try.prog 34, y ≤ reachBytes) : ∃ z : FM, cs = fcl z ∧ FrIn W z.1 z.2.1 z.2.2.2.1 z.2.2.2.2 := by
  obtain ⟨c0, c1, c2, c3, c4, c5, c6, c7, c8, c9, c10, c11, rfl⟩ := list12 hcl
  have hC : Try.prog.cellsOf 34 = 12 := by kernel_rfl
  obtain ⟨xd, xp⟩ := x
  obtain ⟨xs, n, _, hx, hl, hlen, hfld⟩ := DataW.trod_struct Try.underlying34 hf
  obtain ⟨y0, y1, y2, y3, y4, y5, y6, y7, y8, y9, y10, y11, rfl⟩ := list12 (show xs.length = 12 from hlen)
  have k3 : Try.prog.cellsOf 3 = 1 := by kernel_rfl
  have k4 : Try.prog.cellsOf 4 = 1 := by kernel_rfl
  have k22 : Try.prog.cellsOf 22 = 1 := by kernel_rfl
  have k23 : Try.prog.cellsOf 31 = 1 := by kernel_rfl
  have k24 : Try.prog.cellsOf 32 = 1 := by kernel_rfl
  have t0 : DataW.trod enc Try.prog W 0 sp hd n 3 [c0] = some y0 := by simpa [k3] using hfld 0 _ rfl
  have t1 : DataW.trod enc Try.prog W 0 sp hd n 3 [c1] = some y1 := by simpa [k3] using hfld 1 _ rfl
  have t2 : DataW.trod enc Try.prog W 0 sp hd n 3 [c2] = some y2 := by simpa [k3] using hfld 2 _ rfl
  have t3 : DataW.trod enc Try.prog W 0 sp hd n 22 [c3] = some y3 := by simpa [k22] using hfld 3 _ rfl
  have t4 : DataW.trod enc Try.prog W 0 sp hd n 3 [c4] = some y4 := by simpa [k3] using hfld 4 _ rfl
  have t5 : DataW.trod enc Try.prog W 0 sp hd n 31 [c5] = some y5 := by simpa [k23] using hfld 5 _ rfl
  have t6 : DataW.trod enc Try.prog W 0 sp hd n 3 [c6] = some y6 := by simpa [k3] using hfld 6 _ rfl
  have t7 : DataW.trod enc Try.prog W 0 sp hd n 3 [c7] = some y7 := by simpa [k3] using hfld 7 _ rfl
  have t8 : DataW.trod enc Try.prog W 0 sp hd n 3 [c8] = some y8 := by simpa [k3] using hfld 8 _ rfl
  have t9 : DataW.trod enc Try.prog W 0 sp hd n 4 [c9] = some y9 := by simpa [k4] using hfld 9 _ rfl
  have t10 : DataW.trod enc Try.prog W 0 sp hd n 3 [c10] = some y10 := by simpa [k3] using hfld 10 _ rfl
  have t11 : DataW.trod enc Try.prog W 0 sp hd n 32 [c11] = some y11 := by simpa [k24] using hfld 11 _ rfl
  simp only [Prod.mk.injEq] at hx
  have hw3 : ∀ z ∈ y3.1.weights Try.prog 22, z ≤ reachBytes := fun z hz => hw z (by
    rw [hx.1]
    simp only [DataW.weights, Try.underlying34, List.map_cons, List.map_nil, DataW.weightsEach, List.mem_append]
    simp [hz])
  have hw11 : ∀ z ∈ y11.1.weights Try.prog 32, z ≤ reachBytes := fun z hz => hw z (by
    rw [hx.1]
    simp only [DataW.weights, Try.underlying34, List.map_cons, List.map_nil, DataW.weightsEach, List.mem_append]
    simp [hz])
  obtain ⟨x0, e0, -, wf0⟩ := DataW.trod_int Try.underlying3 t0
  obtain ⟨x1, e1, -, wf1⟩ := DataW.trod_int Try.underlying3 t1
  obtain ⟨x2, e2, -, wf2⟩ := DataW.trod_int Try.underlying3 t2
  obtain ⟨q3, d3, X, e3, hX, hXn, -⟩ := bytes_core t3 hw3
  obtain ⟨x4, e4, -, wf4⟩ := DataW.trod_int Try.underlying3 t4
  obtain ⟨x5, e5, -, wf5⟩ := DataW.trod_int Try.underlying31 t5
  obtain ⟨x6, e6, -, wf6⟩ := DataW.trod_int Try.underlying3 t6
  obtain ⟨x7, e7, -, wf7⟩ := DataW.trod_int Try.underlying3 t7
  obtain ⟨x8, e8, -, wf8⟩ := DataW.trod_int Try.underlying3 t8
  obtain ⟨x9, e9, -⟩ := DataW.trod_bool Try.underlying4 t9
  obtain ⟨x10, e10, -, wf10⟩ := DataW.trod_int Try.underlying3 t10
  obtain ⟨q11, d11, Y, e11, hY⟩ := sets_core t11 hw11
  simp only [List.cons.injEq, and_true] at e0 e1 e2 e3 e4 e5 e6 e7 e8 e9 e10 e11
  obtain ⟨n5, rfl, hn5⟩ := u32_nat wf5
  subst e0; subst e1; subst e2; subst e3; subst e4; subst e5; subst e6; subst e7; subst e8; subst e9; subst e10; subst e11
  exact ⟨(⟨x0, x1, x2, X, x4, n5, x6, x7, x8, x9, x10, Y⟩, q3, d3, q11, d11), rfl, ⟨hX, hY, by show X.length < 2 ^ 47; omega, hn5, wf0, wf1, wf2, wf4, wf6, wf7, wf8, wf10⟩⟩

/-- Frames in memory. -/
structure FrsW (w : World) (q : Option Addr) (c : Nat) (ls : List FM) : Prop where
  cap : ls.length ≤ c
  few : ls.length * 128 < 2 ^ 47
  cells : ∀ r z, ls[r]? = some z → ∃ g o, q = some ⟨g, o, none⟩ ∧ g < w.heap.size ∧ (∀ (j : Nat) u, (fcl z)[j]? = some u → w.cell? ⟨g, o + r * 12 + j, none⟩ = some u) ∧ FrIn w z.1 z.2.1 z.2.2.2.1 z.2.2.2.2
theorem spot_none12 {W : World} {b o : Nat} {spot : Option _} {v : Value} (h : W.cell? ((⟨b, o, spot⟩ : Addr).add (0 * 12)) = some v) : spot = none := by simpa [Addr.add] using World.cell?_spot h
theorem frs_open {H : Type} {enc : TypeId × Value → H} {W : World} {sp : Nat → Bool} {hd : Bool} {r : Reach} {b0 : Nat} {u : Value} {d : DataW H} {p : List MemPlace} {ts : List TypeId} {ds : List (DataW H)}
    (hv : Value.okWide Try.prog W r b0 24 u) (h : DataW.Trod enc Try.prog W 0 sp hd 24 u d p) (hsz : (DataW.weightsEach Try.prog ts ds).all (· ≤ reachBytes) = true) {j : Nat} (ht : ts[j]? = some 24) (hds : ds[j]? = some d) :
    ∃ (q : Option Addr) (c : Nat) (ls : List FM), u = .slice q ls.length c ∧ FrsW W q c ls := by
  obtain ⟨q, n, c, rfl⟩ := okWide_slice Try.underlying24 hv
  obtain ⟨fuel, hf⟩ := h
  rcases open_slice Try.underlying24 hf with ⟨hcs, _⟩ | ⟨a, l, cap, m, k, D, Pl, hcs, _, hl, hm, hmm, hx, hcell⟩
  · simp [Value.cells] at hcs
    obtain ⟨rfl, rfl, rfl⟩ := hcs
    exact ⟨none, 0, [], rfl, by simp, by simp, fun r z hr => by simp at hr⟩
  · simp [Value.cells] at hcs
    obtain ⟨rfl, rfl, rfl⟩ := hcs
    simp only [Prod.mk.injEq] at hx
    have hw : ∀ x ∈ d.weights Try.prog 24, x ≤ reachBytes := fun x hx => of_decide_eq_true (List.all_eq_true.1 hsz x (DataW.weights_mem_each ht hds x hx))
    rw [hx.1] at hw
    have hr := reach_lt
    have hlm : n ≤ m := by rw [hmm]; split <;> omega
    have hC : Try.prog.cellsOf 34 = 12 := by kernel_rfl
    have hBy : Try.prog.bytesOf 34 = 128 := by kernel_rfl
    rw [hC] at hcell
    have hfew : n * 128 < 2 ^ 47 := by
      have := hw (((List.range n).map D).length * 128 + ((List.range (m - n)).map fun j => D (n + j)).length * 128) (by simp only [DataW.weights, Try.underlying24, hBy, List.mem_cons]; left; rw [Nat.add_mul])
      simp at this
      omega
    have hinh : Inhabited FM := ⟨(zeroF, none, 0, none, 0)⟩
    obtain ⟨O, hO⟩ := choose_lt (α := FM) (n := n) (p := fun r z => (∀ (j : Nat) u, (fcl z)[j]? = some u → W.cell? ((a.add (r * 12)).add j) = some u) ∧ FrIn W z.1 z.2.1 z.2.2.2.1 z.2.2.2.2) (fun r hr' => by
      obtain ⟨cs', h1, h2⟩ := hcell r (by omega)
      have hin : D r ∈ (List.range n).map D := List.mem_map.2 ⟨r, List.mem_range.2 hr', rfl⟩
      have hlc : cs'.length = 12 := (World.cells?_some h1).2.1
      obtain ⟨z, rfl, hz⟩ := frame_core h2 hlc (fun y hyy => hw y (by
        simp only [DataW.weights, Try.underlying24, List.mem_cons, List.mem_append]
        exact .inr (.inl (weightsAll_in hin hyy))))
      exact ⟨z, fun j u hj => cells_at h1 hj, hz⟩)
    obtain ⟨b, o, spot⟩ := a
    have hlen : ((List.range n).map O).length = n := by simp
    refine ⟨_, c, (List.range n).map O, by rw [hlen], by rw [hlen]; exact hl, by rw [hlen]; exact hfew, fun r z hr' => ?_⟩
    simp only [List.getElem?_map, Option.map_eq_some_iff] at hr'
    obtain ⟨r', hr1, rfl⟩ := hr'
    obtain ⟨hrn, rfl⟩ : r < n ∧ r = r' := by
      obtain ⟨h1, h2⟩ := List.getElem?_eq_some_iff.1 hr1
      simp at h1 h2
      exact ⟨h1, h2⟩
    obtain ⟨h0, h1⟩ := hO r hrn
    have hspot : spot = none := by
      have h9 := (hO 0 (by omega)).1 0 _ rfl
      have := World.cell?_spot h9
      simpa [Addr.add] using this
    subst hspot
    refine ⟨b, o, rfl, ?_, fun j u hj => ?_, h1⟩
    · have h9 := h0 0 _ rfl
      rw [add_none, add_none] at h9
      exact World.block_lt_of_cell? _ _ h9
    · have h9 := h0 j u hj
      rw [add_none, add_none] at h9
      exact h9
end Go.Proofs.Ytdndhidinbmpdaa
