/- How slices of headers read, cell by cell. -/
import Derived.Test.YtibiiagdhdmpiaaL2
import Derived.ChangeMaps5
namespace Go.Proofs.Ytibiiagdhdmpiaa
open Go.ChangeShapes Go.WideShapes Go.ChangeAt Go.RowKit Go.Deep Go.Joins
set_option linter.unusedVariables false
set_option maxRecDepth 100000
set_option maxHeartbeats 4000000

/-- A list of headers in memory. -/
structure HL (w : World) (q : Option Addr) (c : Nat) (l : List (ByteArray × ByteArray × Bool)) : Prop where
  cap : l.length ≤ c
  big : c ≤ maxLen
  few : l.length * 40 < 2 ^ 47
  cells : ∀ r h, l[r]? = some h → ∃ b o, q = some ⟨b, o, none⟩ ∧ b < w.heap.size ∧ w.cell? ⟨b, o + r * 3, none⟩ = some (.string h.1) ∧ w.cell? ⟨b, o + r * 3 + 1, none⟩ = some (.string h.2.1) ∧ w.cell? ⟨b, o + r * 3 + 2, none⟩ = some (.bool h.2.2) ∧ h.1.size < 2 ^ 47 ∧ h.2.1.size < 2 ^ 47
theorem HL.later {w w' : World} {q : Option Addr} {c : Nat} {l : List (ByteArray × ByteArray × Bool)} (h : HL w q c l) (f : Below w.heap.size w w') : HL w' q c l := by
  refine ⟨h.cap, h.big, h.few, fun r x hr => ?_⟩
  obtain ⟨b, o, hq, hb, h0, h1, h2, h3⟩ := h.cells r x hr
  have hc : ∀ j, w'.cell? ⟨b, j, none⟩ = w.cell? ⟨b, j, none⟩ := fun j => f.cell (p := ⟨b, j, none⟩) hb
  exact ⟨b, o, hq, Nat.lt_of_lt_of_le hb f.size, (hc _).trans h0, (hc _).trans h1, (hc _).trans h2, h3⟩
theorem HL.nil (w : World) : HL w none 0 [] := ⟨by simp, by simp [maxLen], by simp, fun r h hr => by simp at hr⟩
theorem spot_none {W : World} {b o : Nat} {spot : Option _} {v : Value} (h : W.cell? ((⟨b, o, spot⟩ : Addr).add (0 * 3)) = some v) : spot = none := by simpa [Addr.add] using World.cell?_spot h
theorem hl_core {H : Type} {enc : TypeId × Value → H} {W : World} {sp : Nat → Bool} {hd : Bool} {fuel : Nat} {cs : List Value} {x : DataW H × List MemPlace}
    (hf : DataW.trod enc Try.prog W 0 sp hd fuel 32 cs = some x) (hw : ∀ y ∈ x.1.weights Try.prog 32, y ≤ reachBytes) :
    ∃ (q : Option Addr) (c : Nat) (l : List (ByteArray × ByteArray × Bool)), cs = [.slice q l.length c] ∧ HL W q c l := by
  rcases open_slice Try.underlying32 hf with ⟨hcs, _⟩ | ⟨a, n, cap, m, k, D, Pl, hcs, _, hl, hm, hmm, hx, hcell⟩
  · exact ⟨none, 0, [], hcs, HL.nil W⟩
  · subst hcs
    have hr := reach_lt
    have hlm : n ≤ m := by rw [hmm]; split <;> omega
    have hC : Try.prog.cellsOf 71 = 3 := by kernel_rfl
    have hBy : Try.prog.bytesOf 71 = 40 := by kernel_rfl
    rw [hC] at hcell
    rw [hx] at hw
    dsimp only at hw
    have hfew : n * 40 < 2 ^ 47 := by
      have := hw (((List.range n).map D).length * 40 + ((List.range (m - n)).map fun j => D (n + j)).length * 40) (by simp only [DataW.weights, Try.underlying32, hBy, List.mem_cons]; left; rw [Nat.add_mul])
      simp at this
      omega
    obtain ⟨O, hO⟩ := choose_lt (α := ByteArray × ByteArray × Bool) (n := n) (p := fun r x => W.cell? (a.add (r * 3)) = some (.string x.1) ∧ W.cell? (a.add (r * 3 + 1)) = some (.string x.2.1) ∧ W.cell? (a.add (r * 3 + 2)) = some (.bool x.2.2) ∧ x.1.size < 2 ^ 47 ∧ x.2.1.size < 2 ^ 47) (fun r hr' => by
      obtain ⟨cs', h1, h2⟩ := hcell r (by omega)
      obtain ⟨y0, y1, y2, k2, hy, hcl, t0, t1, t2⟩ := trod_struct3 Try.underlying71 h2
      obtain ⟨x2, e2, hy2, _⟩ := DataW.trod_string Try.underlying9 t0
      obtain ⟨x3, e3, hy3, _⟩ := DataW.trod_string Try.underlying9 t1
      obtain ⟨x4, e4, hy4⟩ := DataW.trod_bool Try.underlying4 t2
      have c9 : Try.prog.cellsOf 9 = 1 := by kernel_rfl
      have c4 : Try.prog.cellsOf 4 = 1 := by kernel_rfl
      rw [hC] at hcl
      obtain ⟨a0, a1, a2, rfl⟩ : ∃ a0 a1 a2, cs' = [a0, a1, a2] := by
        match cs', hcl with
        | [a0, a1, a2], _ => exact ⟨a0, a1, a2, rfl⟩
      simp [c9, c4] at e2 e3 e4
      subst e2; subst e3; subst e4
      have hin : D r ∈ (List.range n).map D := List.mem_map.2 ⟨r, List.mem_range.2 hr', rfl⟩
      simp only [Prod.mk.injEq] at hy
      have hD : D r = .agg [.lit (.string x2.data.toList), .lit (.string x3.data.toList), .lit (.bool x4)] := by
        rw [hy.1, hy2, hy3, hy4]
      have hall : ∀ k ∈ [x2.data.toList.length, x3.data.toList.length], k ≤ reachBytes := fun k hk => hw k (by
        simp only [DataW.weights, Try.underlying32, List.mem_cons, List.mem_append]
        exact .inr (.inl (weightsAll_in hin (by rw [hD]; exact hdr_sized k hk))))
      have q2 := hall _ (List.mem_cons_self ..)
      have q3 := hall x3.data.toList.length (by simp)
      have w2 : x2.data.toList.length = x2.size := by rw [Array.length_toList]; rfl
      have w3 : x3.data.toList.length = x3.size := by rw [Array.length_toList]; rfl
      refine ⟨(x2, x3, x4), ?_, ?_, ?_, by show x2.size < _; omega, by show x3.size < _; omega⟩
      · have := cells_at h1 (j := 0) (v := .string x2) rfl; rwa [add_add] at this
      · have := cells_at h1 (j := 1) (v := .string x3) rfl; rwa [add_add] at this
      · have := cells_at h1 (j := 2) (v := .bool x4) rfl; rwa [add_add] at this)
    obtain ⟨b, o, spot⟩ := a
    have hlen : ((List.range n).map O).length = n := by simp
    refine ⟨_, cap, (List.range n).map O, by rw [hlen], ⟨by rw [hlen]; exact hl, hm, by rw [hlen]; exact hfew, fun r h hr' => ?_⟩⟩
    simp only [List.getElem?_map, Option.map_eq_some_iff] at hr'
    obtain ⟨r', hr1, rfl⟩ := hr'
    obtain ⟨hrn, rfl⟩ : r < n ∧ r = r' := by
      obtain ⟨h1, h2⟩ := List.getElem?_eq_some_iff.1 hr1
      simp at h1 h2
      exact ⟨h1, h2⟩
    obtain ⟨h0, h1, h2, h5⟩ := hO r hrn
    have hspot : spot = none := spot_none (hO 0 (by omega)).1
    subst hspot
    have hadd : ∀ j, (⟨b, o, none⟩ : Addr).add j = ⟨b, o + j, none⟩ := fun j => by unfold Addr.add; split <;> simp_all
    rw [hadd] at h0 h1 h2
    exact ⟨b, o, rfl, World.block_lt_of_cell? _ _ h0, h0, h1, h2, h5⟩
theorem hl_open {H : Type} {enc : TypeId × Value → H} {W : World} {sp : Nat → Bool} {hd : Bool} {r : Reach} {b0 : Nat} {u : Value} {d : DataW H} {p : List MemPlace} {ts : List TypeId} {ds : List (DataW H)}
    (hv : Value.okWide Try.prog W r b0 32 u) (h : DataW.Trod enc Try.prog W 0 sp hd 32 u d p) (hsz : (DataW.weightsEach Try.prog ts ds).all (· ≤ reachBytes) = true) {j : Nat} (ht : ts[j]? = some 32) (hds : ds[j]? = some d) :
    ∃ (q : Option Addr) (c : Nat) (l : List (ByteArray × ByteArray × Bool)), u = .slice q l.length c ∧ HL W q c l := by
  obtain ⟨q, n, c, rfl⟩ := okWide_slice Try.underlying32 hv
  obtain ⟨fuel, hf⟩ := h
  have hw : ∀ x ∈ d.weights Try.prog 32, x ≤ reachBytes := fun x hx => of_decide_eq_true (List.all_eq_true.1 hsz x (DataW.weights_mem_each ht hds x hx))
  obtain ⟨q', c', l, hcs, hl⟩ := hl_core hf hw
  simp [Value.cells] at hcs
  obtain ⟨rfl, rfl, rfl⟩ := hcs
  exact ⟨_, _, l, rfl, hl⟩

/-- A text that came in. -/
theorem text_fits {H : Type} {ts : List TypeId} {ds : List (DataW H)} (h : (DataW.weightsEach Try.prog ts ds).all (· ≤ reachBytes) = true) {j : Nat} {s : ByteArray}
    (ht : ts[j]? = some 9) (hd : ds[j]? = some (.lit (.string s.data.toList))) : s.size < 2 ^ 60 := by
  have h1 := sized_string h ht hd
  have hr := reach_lt
  have e1 : s.data.toList.length = s.size := by rw [Array.length_toList]; rfl
  omega
end Go.Proofs.Ytibiiagdhdmpiaa
