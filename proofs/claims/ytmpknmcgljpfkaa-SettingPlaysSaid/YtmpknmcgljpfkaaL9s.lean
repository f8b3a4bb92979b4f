/- How arguments read: a setting, lists of settings. -/
import Derived.Test.YtmpknmcgljpfkaaL7s
namespace Go.Proofs.Ytmpknmcgljpfkaa
open Go.ChangeShapes Go.WideShapes Go.ChangeAt Go.RowKit Go.Deep Go.Joins
set_option linter.unusedVariables false
set_option maxRecDepth 100000
set_option maxHeartbeats 4000000

theorem set_open {H : Type} {enc : TypeId × Value → H} {W : World} {base : Nat} {sp : Nat → Bool} {hd : Bool} {r : Reach} {b0 : Nat} {u : Value} {d : DataW H} {p : List MemPlace}
    (hv : Value.okWide Try.prog W r b0 24 u) (h : DataW.Trod enc Try.prog W base sp hd 24 u d p) :
    ∃ (x : Int) (n : Nat), u = .agg #[.int .i64 x, .int .u32 (n : Int)] ∧ (Lit.int .i64 x).wf = true ∧ n < 4294967296 := by
  obtain ⟨v0, v1, y0, y1, m, rfl, rfl, rfl, t0, t1⟩ := open_agg2 Try.underlying24 (by kernel_rfl) (by kernel_rfl) hv h
  obtain ⟨x, e0, -, wf0⟩ := DataW.trod_int Try.underlying3 t0
  obtain ⟨y, e1, -, wf1⟩ := DataW.trod_int Try.underlying22 t1
  simp only [List.cons.injEq, and_true] at e0 e1
  obtain ⟨n, rfl, hn⟩ := u32_nat wf1
  subst e0; subst e1
  exact ⟨x, n, rfl, wf0, hn⟩

/-- Lists of settings in memory. -/
structure SetssAt (w : World) (q : Option Addr) (c : Nat) (L : List (Option Addr × Nat × List (Int × Nat))) : Prop where
  cap : L.length ≤ c
  few : L.length * 24 ≤ reachBytes
  cells : ∀ r x, L[r]? = some x → ∃ g o, q = some ⟨g, o, none⟩ ∧ g < w.heap.size ∧ w.cell? ⟨g, o + r, none⟩ = some (.slice x.1 x.2.2.length x.2.1) ∧ SetsAt w x.1 x.2.1 x.2.2
theorem SetssAt.later {w w' : World} {q : Option Addr} {c : Nat} {L : List (Option Addr × Nat × List (Int × Nat))} (h : SetssAt w q c L) (f : Fr (fun _ => False) w w') : SetssAt w' q c L := by
  refine ⟨h.cap, h.few, fun r x hr => ?_⟩
  obtain ⟨g, o, hq, hg, h0, h1⟩ := h.cells r x hr
  exact ⟨g, o, hq, Nat.lt_of_lt_of_le hg f.size, (f.cell (p := ⟨g, o + r, none⟩) hg id).trans h0, h1.later f⟩
theorem spot_none1' {W : World} {b o : Nat} {spot : Option _} {v : Value} (h : W.cell? ((⟨b, o, spot⟩ : Addr).add (0 * 1)) = some v) : spot = none := by simpa [Addr.add] using World.cell?_spot h
theorem setss_open {H : Type} {enc : TypeId × Value → H} {W : World} {sp : Nat → Bool} {hd : Bool} {r : Reach} {b0 : Nat} {u : Value} {d : DataW H} {p : List MemPlace} {ts : List TypeId} {ds : List (DataW H)}
    (hv : Value.okWide Try.prog W r b0 51 u) (h : DataW.Trod enc Try.prog W 0 sp hd 51 u d p) (hsz : (DataW.weightsEach Try.prog ts ds).all (· ≤ reachBytes) = true) {j : Nat} (ht : ts[j]? = some 51) (hds : ds[j]? = some d) :
    ∃ (q : Option Addr) (c : Nat) (L : List (Option Addr × Nat × List (Int × Nat))), u = .slice q L.length c ∧ SetssAt W q c L := by
  obtain ⟨q, n, c, rfl⟩ := okWide_slice Try.underlying51 hv
  obtain ⟨fuel, hf⟩ := h
  have hw : ∀ x ∈ d.weights Try.prog 51, x ≤ reachBytes := fun x hx => of_decide_eq_true (List.all_eq_true.1 hsz x (DataW.weights_mem_each ht hds x hx))
  rcases open_slice Try.underlying51 hf with ⟨hcs, _⟩ | ⟨a, l, cap, m, k, D, Pl, hcs, _, hl, hm, hmm, hx, hcell⟩
  · simp [Value.cells] at hcs
    obtain ⟨rfl, rfl, rfl⟩ := hcs
    exact ⟨none, 0, [], rfl, by simp, by simp, fun r x hr => by simp at hr⟩
  · simp [Value.cells] at hcs
    obtain ⟨rfl, rfl, rfl⟩ := hcs
    simp only [Prod.mk.injEq] at hx
    rw [hx.1] at hw
    have hlm : n ≤ m := by rw [hmm]; split <;> omega
    have hC : Try.prog.cellsOf 33 = 1 := by kernel_rfl
    have hBy : Try.prog.bytesOf 33 = 24 := by kernel_rfl
    rw [hC] at hcell
    have hfew : n * 24 ≤ reachBytes := by
      have := hw (((List.range n).map D).length * 24 + ((List.range (m - n)).map fun j => D (n + j)).length * 24) (by simp only [DataW.weights, Try.underlying51, hBy, List.mem_cons]; left; rw [Nat.add_mul])
      simp at this
      omega
    obtain ⟨O, hO⟩ := choose_lt (α := Option Addr × Nat × List (Int × Nat)) (n := n) (p := fun r x => W.cell? (a.add (r * 1)) = some (.slice x.1 x.2.2.length x.2.1) ∧ SetsAt W x.1 x.2.1 x.2.2) (fun r hr' => by
      obtain ⟨cs', h1, h2⟩ := hcell r (by omega)
      have hin : D r ∈ (List.range n).map D := List.mem_map.2 ⟨r, List.mem_range.2 hr', rfl⟩
      obtain ⟨q2, c2, X2, e2, hX2⟩ := sets_core h2 (fun y hyy => hw y (by
        simp only [DataW.weights, Try.underlying51, List.mem_cons, List.mem_append]
        exact .inr (.inl (weightsAll_in hin hyy))))
      subst e2
      refine ⟨(q2, c2, X2), ?_, hX2⟩
      have := cells_at h1 (j := 0) (v := .slice q2 X2.length c2) rfl
      rw [show (a.add (r * 1)).add 0 = a.add (r * 1) from by unfold Addr.add; simp] at this
      exact this)
    obtain ⟨b, o, spot⟩ := a
    have hlen : ((List.range n).map O).length = n := by simp
    refine ⟨_, c, (List.range n).map O, by rw [hlen], by rw [hlen]; exact hl, by rw [hlen]; exact hfew, fun r z hr' => ?_⟩
    simp only [List.getElem?_map, Option.map_eq_some_iff] at hr'
    obtain ⟨r', hr1, rfl⟩ := hr'
    obtain ⟨hrn, rfl⟩ : r < n ∧ r = r' := by
      obtain ⟨h1, h2⟩ := List.getElem?_eq_some_iff.1 hr1
      simp at h1 h2
      exact ⟨h1, h2⟩
    obtain ⟨h0, h1⟩ := hO r hrn
    have hspot : spot = none := spot_none1' (hO 0 (by omega)).1
    subst hspot
    have hadd : ∀ j, (⟨b, o, none⟩ : Addr).add j = ⟨b, o + j, none⟩ := fun j => by unfold Addr.add; split <;> simp_all
    rw [hadd, Nat.mul_one] at h0
    exact ⟨b, o, rfl, World.block_lt_of_cell? _ _ h0, h0, h1⟩

/-- A script's calls in memory. -/
structure Ops9 (w : World) (q : Option Addr) (c : Nat) (L : List (Int × Option Addr × Nat × List (Int × Nat))) : Prop where
  cap : L.length ≤ c
  few : L.length * 32 ≤ reachBytes
  cells : ∀ r x, L[r]? = some x → ∃ g o, q = some ⟨g, o, none⟩ ∧ g < w.heap.size ∧ w.cell? ⟨g, o + r * 2, none⟩ = some (.int .i64 x.1) ∧ w.cell? ⟨g, o + r * 2 + 1, none⟩ = some (.slice x.2.1 x.2.2.2.length x.2.2.1) ∧ (Lit.int .i64 x.1).wf = true ∧ SetsAt w x.2.1 x.2.2.1 x.2.2.2
theorem Ops9.later {w w' : World} {q : Option Addr} {c : Nat} {L : List (Int × Option Addr × Nat × List (Int × Nat))} (h : Ops9 w q c L) (f : Fr (fun _ => False) w w') : Ops9 w' q c L := by
  refine ⟨h.cap, h.few, fun r x hr => ?_⟩
  obtain ⟨g, o, hq, hg, h0, h1, h2, h3⟩ := h.cells r x hr
  exact ⟨g, o, hq, Nat.lt_of_lt_of_le hg f.size, (f.cell (p := ⟨g, _, none⟩) hg id).trans h0, (f.cell (p := ⟨g, _, none⟩) hg id).trans h1, h2, h3.later f⟩
theorem ops9_open {H : Type} {enc : TypeId × Value → H} {W : World} {sp : Nat → Bool} {hd : Bool} {r : Reach} {b0 : Nat} {u : Value} {d : DataW H} {p : List MemPlace} {ts : List TypeId} {ds : List (DataW H)}
    (hv : Value.okWide Try.prog W r b0 28 u) (h : DataW.Trod enc Try.prog W 0 sp hd 28 u d p) (hsz : (DataW.weightsEach Try.prog ts ds).all (· ≤ reachBytes) = true) {j : Nat} (ht : ts[j]? = some 28) (hds : ds[j]? = some d) :
    ∃ (q : Option Addr) (c : Nat) (L : List (Int × Option Addr × Nat × List (Int × Nat))), u = .slice q L.length c ∧ Ops9 W q c L := by
  obtain ⟨q, n, c, rfl⟩ := okWide_slice Try.underlying28 hv
  obtain ⟨fuel, hf⟩ := h
  have hw : ∀ x ∈ d.weights Try.prog 28, x ≤ reachBytes := fun x hx => of_decide_eq_true (List.all_eq_true.1 hsz x (DataW.weights_mem_each ht hds x hx))
  rcases open_slice Try.underlying28 hf with ⟨hcs, _⟩ | ⟨a, l, cap, m, k, D, Pl, hcs, _, hl, hm, hmm, hx, hcell⟩
  · simp [Value.cells] at hcs
    obtain ⟨rfl, rfl, rfl⟩ := hcs
    exact ⟨none, 0, [], rfl, by simp, by simp, fun r x hr => by simp at hr⟩
  · simp [Value.cells] at hcs
    obtain ⟨rfl, rfl, rfl⟩ := hcs
    simp only [Prod.mk.injEq] at hx
    rw [hx.1] at hw
    have hlm : n ≤ m := by rw [hmm]; split <;> omega
    have hC : Try.prog.cellsOf 35 = 2 := by kernel_rfl
    have hBy : Try.prog.bytesOf 35 = 32 := by kernel_rfl
    rw [hC] at hcell
    have hfew : n * 32 ≤ reachBytes := by
      have := hw (((List.range n).map D).length * 32 + ((List.range (m - n)).map fun j => D (n + j)).length * 32) (by simp only [DataW.weights, Try.underlying28, hBy, List.mem_cons]; left; rw [Nat.add_mul])
      simp at this
      omega
    obtain ⟨O, hO⟩ := choose_lt (α := Int × Option Addr × Nat × List (Int × Nat)) (n := n) (p := fun r x => W.cell? (a.add (r * 2)) = some (.int .i64 x.1) ∧ W.cell? (a.add (r * 2 + 1)) = some (.slice x.2.1 x.2.2.2.length x.2.2.1) ∧ (Lit.int .i64 x.1).wf = true ∧ SetsAt W x.2.1 x.2.2.1 x.2.2.2) (fun r hr' => by
      obtain ⟨cs', h1, h2⟩ := hcell r (by omega)
      have hin : D r ∈ (List.range n).map D := List.mem_map.2 ⟨r, List.mem_range.2 hr', rfl⟩
      obtain ⟨y0, y1, k2, hy, hcl, t0, t1⟩ := trod_struct2 Try.underlying35 h2
      obtain ⟨x0, e0, hy0, wf0⟩ := DataW.trod_int Try.underlying3 t0
      have c3 : Try.prog.cellsOf 3 = 1 := by kernel_rfl
      have c33 : Try.prog.cellsOf 33 = 1 := by kernel_rfl
      rw [hC] at hcl
      obtain ⟨a0, a1, rfl⟩ : ∃ a0 a1, cs' = [a0, a1] := by
        match cs', hcl with
        | [a0, a1], _ => exact ⟨a0, a1, rfl⟩
      simp [c3, c33] at e0 t1
      subst e0
      simp only [Prod.mk.injEq] at hy
      obtain ⟨q2, c2, X2, e2, hX2⟩ := sets_core t1 (fun y hyy => hw y (by
        simp only [DataW.weights, Try.underlying28, List.mem_cons, List.mem_append]
        refine .inr (.inl (weightsAll_in hin ?_))
        rw [hy.1]
        simp only [DataW.weights, Try.underlying35, List.map_cons, List.map_nil, DataW.weightsEach, List.mem_append]
        simp [hyy]))
      simp only [List.cons.injEq, and_true] at e2
      subst e2
      refine ⟨(x0, q2, c2, X2), ?_, ?_, wf0, hX2⟩
      · have := cells_at h1 (j := 0) (v := .int .i64 x0) rfl; rwa [add_add] at this
      · have := cells_at h1 (j := 1) (v := .slice q2 X2.length c2) rfl; rwa [add_add] at this)
    obtain ⟨b, o, spot⟩ := a
    have hlen : ((List.range n).map O).length = n := by simp
    refine ⟨_, c, (List.range n).map O, by rw [hlen], by rw [hlen]; exact hl, by rw [hlen]; exact hfew, fun r z hr' => ?_⟩
    simp only [List.getElem?_map, Option.map_eq_some_iff] at hr'
    obtain ⟨r', hr1, rfl⟩ := hr'
    obtain ⟨hrn, rfl⟩ : r < n ∧ r = r' := by
      obtain ⟨h1, h2⟩ := List.getElem?_eq_some_iff.1 hr1
      simp at h1 h2
      exact ⟨h1, h2⟩
    obtain ⟨h0, h1, h2, h3⟩ := hO r hrn
    have hspot : spot = none := spot_none2 (hO 0 (by omega)).1
    subst hspot
    have hadd : ∀ j, (⟨b, o, none⟩ : Addr).add j = ⟨b, o + j, none⟩ := fun j => by unfold Addr.add; split <;> simp_all
    rw [hadd] at h0 h1
    exact ⟨b, o, rfl, World.block_lt_of_cell? _ _ h0, h0, h1, h2, h3⟩
end Go.Proofs.Ytmpknmcgljpfkaa
