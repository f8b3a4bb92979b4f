/- How a slice of headers reads, cell by cell. -/
import Derived.Test.YtibiiagdhdmpiaaL0
namespace Go.Proofs.Ytibiiagdhdmpiaa
open Go.ChangeShapes Go.WideShapes Go.ChangeAt Go.RowKit Go.Deep Go.Joins
set_option linter.unusedVariables false
set_option maxRecDepth 100000
set_option maxHeartbeats 4000000

/-- Headers in memory: name, value, secret. -/
structure HdrsAt (w : World) (q : Option Addr) (n c : Nat) (b o : Nat) (O : Nat → ByteArray × ByteArray × Bool) : Prop where
  addr : 0 < n → q = some ⟨b, o, none⟩
  few : n < 2 ^ 47
  cap : n ≤ c
  big : c ≤ maxLen
  cells : ∀ r, r < n → b < w.heap.size ∧ w.cell? ⟨b, o + r * 3, none⟩ = some (.string (O r).1) ∧ w.cell? ⟨b, o + r * 3 + 1, none⟩ = some (.string (O r).2.1) ∧ w.cell? ⟨b, o + r * 3 + 2, none⟩ = some (.bool (O r).2.2) ∧ (O r).1.size < 2 ^ 47 ∧ (O r).2.1.size < 2 ^ 47
theorem u16_nat {a : Int} (h : (Lit.int .u16 a).wf = true) : ∃ k : Nat, a = (k : Int) ∧ k ≤ 65535 := by
  have h2 : IntKind.u16.min ≤ a ∧ a ≤ IntKind.u16.max := by simpa [Lit.wf] using h
  have h3 : (0 : Int) ≤ a ∧ a ≤ 65535 := h2
  exact ⟨a.toNat, by omega, by omega⟩
theorem weightsAll_in {H : Type} {P : Program} {e : TypeId} {l : List (DataW H)} {d : DataW H} (hd : d ∈ l) {n : Nat} (hn : n ∈ d.weights P e) : n ∈ DataW.weightsAll P e l := by
  induction l with
  | nil => simp at hd
  | cons a r ih =>
    simp only [DataW.weightsAll, List.mem_append]
    rcases List.mem_cons.1 hd with rfl | h
    · exact .inl hn
    · exact .inr (ih h)
theorem cells_at {w : World} {base : Nat} {a : Addr} {n : Nat} {cs : List Value} (h : w.cells? base a n = some cs) {j : Nat} {v : Value} (hj : cs[j]? = some v) : w.cell? (a.add j) = some v := by
  obtain ⟨h1, h2, h3⟩ := World.cells?_some h
  have hl := (List.getElem?_eq_some_iff.1 hj).1
  rw [h3 j (by omega)]; exact hj
theorem hdrs_open {H : Type} {enc : TypeId × Value → H} {W : World} {sp : Nat → Bool} {hd : Bool} {r : Reach} {b0 : Nat} {u : Value} {d : DataW H} {p : List MemPlace} {ts : List TypeId} {ds : List (DataW H)}
    (hv : Value.okWide Try.prog W r b0 32 u) (h : DataW.Trod enc Try.prog W 0 sp hd 32 u d p) (hsz : (DataW.weightsEach Try.prog ts ds).all (· ≤ reachBytes) = true) {j : Nat} (ht : ts[j]? = some 32) (hds : ds[j]? = some d) :
    ∃ (q : Option Addr) (n c b o : Nat) (O : Nat → ByteArray × ByteArray × Bool), u = .slice q n c ∧ HdrsAt W q n c b o O := by
  obtain ⟨q, n, c, rfl⟩ := okWide_slice Try.underlying32 hv
  obtain ⟨fuel, hf⟩ := h
  rcases open_slice Try.underlying32 hf with ⟨hcs, _⟩ | ⟨a, l, cap, m, k, D, Pl, hcs, _, hl, hm, hmm, hx, hcell⟩
  · simp [Value.cells] at hcs
    obtain ⟨rfl, rfl, rfl⟩ := hcs
    exact ⟨none, 0, 0, 0, 0, fun _ => default, rfl, ⟨fun h => by omega, by omega, by omega, by simp [maxLen], fun r hr => by omega⟩⟩
  · simp [Value.cells] at hcs
    obtain ⟨rfl, rfl, rfl⟩ := hcs
    simp only [Prod.mk.injEq] at hx
    have hr := reach_lt
    have hlm : n ≤ m := by rw [hmm]; split <;> omega
    have hC : Try.prog.cellsOf 71 = 3 := by kernel_rfl
    have hBy : Try.prog.bytesOf 71 = 40 := by kernel_rfl
    rw [hC] at hcell
    have hw : ∀ x ∈ d.weights Try.prog 32, x ≤ reachBytes := fun x hx => of_decide_eq_true (List.all_eq_true.1 hsz x (DataW.weights_mem_each ht hds x hx))
    rw [hx.1] at hw
    have hfew : n < 2 ^ 47 := by
      have := hw (((List.range n).map D).length * 40 + ((List.range (m - n)).map fun j => D (n + j)).length * 40) (by simp only [DataW.weights, Try.underlying32, hBy, List.mem_cons]; left; rw [Nat.add_mul])
      simp at this
      omega
    obtain ⟨O, hO⟩ := choose_lt (α := ByteArray × ByteArray × Bool) (n := n) (p := fun r x => W.cell? (a.add (r * 3)) = some (.string x.1) ∧ W.cell? (a.add (r * 3 + 1)) = some (.string x.2.1) ∧ W.cell? (a.add (r * 3 + 2)) = some (.bool x.2.2) ∧ x.1.size < 2 ^ 47 ∧ x.2.1.size < 2 ^ 47) (fun r hr' => by
      obtain ⟨cs', h1, h2⟩ := hcell r (by omega)
      obtain ⟨y0, y1, y2, k2, hy, hcl, t0, t1, t2⟩ := trod_struct3 Try.underlying71 h2
      obtain ⟨x2, e2, hy2, _⟩ := DataW.trod_string Try.underlying9 t0
      obtain ⟨x3, e3, hy3, _⟩ := DataW.trod_string Try.underlying9 t1
      obtain ⟨x4, e4, hy4⟩ := DataW.trod_bool Try.underlying4 t2
      have c9 : Try.prog.cellsOf 9 = 1 := by kernel_rfl
      have c4 : Try.prog.cellsOf 4 = 1 := by kernel_rfl
      rw [hC] at hcl
      obtain ⟨a0, a1, a2, rfl⟩ : ∃ a0 a1 a2, cs' = [a0, a1, a2] := by
        match cs', hcl with
        | [a0, a1, a2], _ => exact ⟨a0, a1, a2, rfl⟩
      simp [c9, c4] at e2 e3 e4
      subst e2; subst e3; subst e4
      have hin : D r ∈ (List.range n).map D := List.mem_map.2 ⟨r, List.mem_range.2 hr', rfl⟩
      simp only [Prod.mk.injEq] at hy
      have hD : D r = .agg [.lit (.string x2.data.toList), .lit (.string x3.data.toList), .lit (.bool x4)] := by
        rw [hy.1, hy2, hy3, hy4]
      have hall : ∀ k ∈ [x2.data.toList.length, x3.data.toList.length], k ≤ reachBytes := fun k hk => hw k (by
        simp only [DataW.weights, Try.underlying32, List.mem_cons, List.mem_append]
        exact .inr (.inl (weightsAll_in hin (by rw [hD]; exact hdr_sized k hk))))
      have q2 := hall _ (List.mem_cons_self ..)
      have q3 := hall x3.data.toList.length (by simp)
      have w2 : x2.data.toList.length = x2.size := by rw [Array.length_toList]; rfl
      have w3 : x3.data.toList.length = x3.size := by rw [Array.length_toList]; rfl
      refine ⟨(x2, x3, x4), ?_, ?_, ?_, by show x2.size < _; omega, by show x3.size < _; omega⟩
      · have := cells_at h1 (j := 0) (v := .string x2) rfl; rwa [add_add] at this
      · have := cells_at h1 (j := 1) (v := .string x3) rfl; rwa [add_add] at this
      · have := cells_at h1 (j := 2) (v := .bool x4) rfl; rwa [add_add] at this)
    obtain ⟨b, o, spot⟩ := a
    by_cases hn0 : 0 < n
    · have hspot : spot = none := by simpa [Addr.add] using World.cell?_spot (hO 0 hn0).1
      subst hspot
      refine ⟨_, n, c, b, o, O, rfl, ⟨fun _ => rfl, hfew, hl, hm, fun r hr' => ?_⟩⟩
      obtain ⟨h0, h1, h2, h5⟩ := hO r hr'
      have hadd : ∀ j, (⟨b, o, none⟩ : Addr).add j = ⟨b, o + j, none⟩ := fun j => by unfold Addr.add; split <;> simp_all
      rw [hadd] at h0 h1 h2
      exact ⟨World.block_lt_of_cell? _ _ h0, h0, h1, h2, h5⟩
    · exact ⟨_, n, c, b, o, O, rfl, ⟨fun h => absurd h hn0, hfew, hl, hm, fun r hr' => by omega⟩⟩
end Go.Proofs.Ytibiiagdhdmpiaa
