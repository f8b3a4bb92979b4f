/- How arguments read: headers, bytes, lists of bytes, a script's calls on a pump. -/
import Derived.Test.YtibiiagdhdmpiaaL13
import Derived.Test.YtibiiagdhdmpiaaB1
import Derived.Test.YtibiiagdhdmpiaaA2
namespace Go.Proofs.Ytibiiagdhdmpiaa
open Go.ChangeShapes Go.WideShapes Go.ChangeAt Go.RowKit Go.Deep Go.Joins
set_option linter.unusedVariables false
set_option maxRecDepth 100000
set_option maxHeartbeats 4000000

theorem u8_nat {a : Int} (h : (Lit.int .u8 a).wf = true) : ∃ k : Nat, a = (k : Int) ∧ k ≤ 255 := by
  have h2 : IntKind.u8.min ≤ a ∧ a ≤ IntKind.u8.max := by simpa [Lit.wf] using h
  have h3 : (0 : Int) ≤ a ∧ a ≤ 255 := h2
  exact ⟨a.toNat, by omega, by omega⟩
theorem bytes_core {H : Type} {enc : TypeId × Value → H} {W : World} {sp : Nat → Bool} {hd : Bool} {fuel : Nat} {cs : List Value} {x : DataW H × List MemPlace}
    (hf : DataW.trod enc Try.prog W 0 sp hd fuel 31 cs = some x) (hw : ∀ y ∈ x.1.weights Try.prog 31, y ≤ reachBytes) :
    ∃ (q : Option Addr) (c : Nat) (X : List UInt8), cs = [.slice q X.length c] ∧ SrcAt W q X ∧ X.length < 2 ^ 47 ∧ X.length ≤ c := by
  rcases open_slice Try.underlying31 hf with ⟨hcs, _⟩ | ⟨a, n, cap, m, k, D, Pl, hcs, _, hl, hm, hmm, hx, hcell⟩
  · exact ⟨none, 0, [], hcs, SrcAt.nil _ _, by simp, by simp⟩
  · subst hcs
    have hr := reach_lt
    have hlm : n ≤ m := by rw [hmm]; split <;> omega
    have hC : Try.prog.cellsOf 5 = 1 := by kernel_rfl
    have hBy : Try.prog.bytesOf 5 = 1 := by kernel_rfl
    rw [hC] at hcell
    rw [hx] at hw
    dsimp only at hw
    have hfew : n < 2 ^ 47 := by
      have := hw (((List.range n).map D).length * 1 + ((List.range (m - n)).map fun j => D (n + j)).length * 1) (by simp only [DataW.weights, Try.underlying31, hBy, List.mem_cons]; left; rw [Nat.add_mul])
      simp at this
      omega
    obtain ⟨O, hO⟩ := choose_lt (α := UInt8) (n := n) (p := fun r x => W.cell? (a.add (r * 1)) = some (.int .u8 x.toNat)) (fun r hr' => by
      obtain ⟨cs', h1, h2⟩ := hcell r (by omega)
      obtain ⟨k2, e2, hy2, wf2⟩ := DataW.trod_int Try.underlying5 h2
      subst e2
      obtain ⟨k3, rfl, hk3⟩ := u8_nat wf2
      refine ⟨UInt8.ofNat k3, ?_⟩
      have := cells_at h1 (j := 0) (v := .int .u8 (k3 : Int)) rfl
      rw [show (a.add (r * 1)).add 0 = a.add (r * 1) from by unfold Addr.add; simp] at this
      rw [this]
      simp
      omega)
    have hlen : ((List.range n).map O).length = n := by simp
    refine ⟨_, cap, (List.range n).map O, by rw [hlen], ?_, by rw [hlen]; exact hfew, by rw [hlen]; exact hl⟩
    intro r c hr'
    simp only [List.getElem?_map, Option.map_eq_some_iff] at hr'
    obtain ⟨r', hr1, rfl⟩ := hr'
    obtain ⟨hrn, rfl⟩ : r < n ∧ r = r' := by
      obtain ⟨h1, h2⟩ := List.getElem?_eq_some_iff.1 hr1
      simp at h1 h2
      exact ⟨h1, h2⟩
    have := hO r hrn
    rw [Nat.mul_one] at this
    exact ⟨a, rfl, this⟩
theorem bytes_open {H : Type} {enc : TypeId × Value → H} {W : World} {sp : Nat → Bool} {hd : Bool} {r : Reach} {b0 : Nat} {u : Value} {d : DataW H} {p : List MemPlace} {ts : List TypeId} {ds : List (DataW H)}
    (hv : Value.okWide Try.prog W r b0 31 u) (h : DataW.Trod enc Try.prog W 0 sp hd 31 u d p) (hsz : (DataW.weightsEach Try.prog ts ds).all (· ≤ reachBytes) = true) {j : Nat} (ht : ts[j]? = some 31) (hds : ds[j]? = some d) :
    ∃ (q : Option Addr) (c : Nat) (X : List UInt8), u = .slice q X.length c ∧ SrcAt W q X ∧ X.length < 2 ^ 47 ∧ X.length ≤ c := by
  obtain ⟨q, n, c, rfl⟩ := okWide_slice Try.underlying31 hv
  obtain ⟨fuel, hf⟩ := h
  have hw : ∀ x ∈ d.weights Try.prog 31, x ≤ reachBytes := fun x hx => of_decide_eq_true (List.all_eq_true.1 hsz x (DataW.weights_mem_each ht hds x hx))
  obtain ⟨q', c', X, hcs, hl⟩ := bytes_core hf hw
  simp [Value.cells] at hcs
  obtain ⟨rfl, rfl, rfl⟩ := hcs
  exact ⟨_, _, X, rfl, hl⟩
/-- Chunks in memory. -/
structure ChunksAt (w : World) (q : Option Addr) (c : Nat) (L : List (List UInt8)) : Prop where
  cap : L.length ≤ c
  few : L.length * 24 < 2 ^ 47
  cells : ∀ r b, L[r]? = some b → ∃ g o p d, q = some ⟨g, o, none⟩ ∧ g < w.heap.size ∧ w.cell? ⟨g, o + r, none⟩ = some (.slice p b.length d) ∧ SrcAt w p b ∧ b.length < 2 ^ 47 ∧ b.length ≤ d
theorem ChunksAt.later {w w' : World} {q : Option Addr} {c : Nat} {L : List (List UInt8)} (h : ChunksAt w q c L) (f : Fr (fun _ => False) w w') : ChunksAt w' q c L := by
  refine ⟨h.cap, h.few, fun r b hr => ?_⟩
  obtain ⟨g, o, p, d, hq, hg, h0, h1, h2⟩ := h.cells r b hr
  exact ⟨g, o, p, d, hq, Nat.lt_of_lt_of_le hg f.size, (f.cell (p := ⟨g, o + r, none⟩) hg id).trans h0, h1.fr f (fun _ _ _ => id), h2⟩
theorem spot_none1 {W : World} {b o : Nat} {spot : Option _} {v : Value} (h : W.cell? ((⟨b, o, spot⟩ : Addr).add (0 * 1)) = some v) : spot = none := by simpa [Addr.add] using World.cell?_spot h
theorem chunks_core {H : Type} {enc : TypeId × Value → H} {W : World} {sp : Nat → Bool} {hd : Bool} {fuel : Nat} {cs : List Value} {x : DataW H × List MemPlace}
    (hf : DataW.trod enc Try.prog W 0 sp hd fuel 43 cs = some x) (hw : ∀ y ∈ x.1.weights Try.prog 43, y ≤ reachBytes) :
    ∃ (q : Option Addr) (c : Nat) (L : List (List UInt8)), cs = [.slice q L.length c] ∧ ChunksAt W q c L := by
  rcases open_slice Try.underlying43 hf with ⟨hcs, _⟩ | ⟨a, n, cap, m, k, D, Pl, hcs, _, hl, hm, hmm, hx, hcell⟩
  · exact ⟨none, 0, [], hcs, by simp, by simp, fun r b hr => by simp at hr⟩
  · subst hcs
    have hr := reach_lt
    have hlm : n ≤ m := by rw [hmm]; split <;> omega
    have hC : Try.prog.cellsOf 31 = 1 := by kernel_rfl
    have hBy : Try.prog.bytesOf 31 = 24 := by kernel_rfl
    rw [hC] at hcell
    rw [hx] at hw
    dsimp only at hw
    have hfew : n * 24 < 2 ^ 47 := by
      have := hw (((List.range n).map D).length * 24 + ((List.range (m - n)).map fun j => D (n + j)).length * 24) (by simp only [DataW.weights, Try.underlying43, hBy, List.mem_cons]; left; rw [Nat.add_mul])
      simp at this
      omega
    obtain ⟨O, hO⟩ := choose_lt (α := Option Addr × Nat × List UInt8) (n := n) (p := fun r x => W.cell? (a.add (r * 1)) = some (.slice x.1 x.2.2.length x.2.1) ∧ SrcAt W x.1 x.2.2 ∧ x.2.2.length < 2 ^ 47 ∧ x.2.2.length ≤ x.2.1) (fun r hr' => by
      obtain ⟨cs', h1, h2⟩ := hcell r (by omega)
      have hin : D r ∈ (List.range n).map D := List.mem_map.2 ⟨r, List.mem_range.2 hr', rfl⟩
      obtain ⟨q2, c2, X2, e2, hX2, hn2, hc2⟩ := bytes_core h2 (fun y hyy => hw y (by
        simp only [DataW.weights, Try.underlying43, List.mem_cons, List.mem_append]
        exact .inr (.inl (weightsAll_in hin hyy))))
      subst e2
      refine ⟨(q2, c2, X2), ?_, hX2, hn2, hc2⟩
      have := cells_at h1 (j := 0) (v := .slice q2 X2.length c2) rfl
      rw [show (a.add (r * 1)).add 0 = a.add (r * 1) from by unfold Addr.add; simp] at this
      exact this)
    obtain ⟨b, o, spot⟩ := a
    have hlen : ((List.range n).map fun r => (O r).2.2).length = n := by simp
    refine ⟨_, cap, (List.range n).map fun r => (O r).2.2, by rw [hlen], by rw [hlen]; exact hl, by rw [hlen]; exact hfew, fun r z hr' => ?_⟩
    simp only [List.getElem?_map, Option.map_eq_some_iff] at hr'
    obtain ⟨r', hr1, rfl⟩ := hr'
    obtain ⟨hrn, rfl⟩ : r < n ∧ r = r' := by
      obtain ⟨h1, h2⟩ := List.getElem?_eq_some_iff.1 hr1
      simp at h1 h2
      exact ⟨h1, h2⟩
    obtain ⟨h0, h1⟩ := hO r hrn
    have hspot : spot = none := spot_none1 (hO 0 (by omega)).1
    subst hspot
    rw [add_none, Nat.mul_one] at h0
    exact ⟨b, o, (O r).1, (O r).2.1, rfl, World.block_lt_of_cell? _ _ h0, h0, h1⟩
theorem chunks_open {H : Type} {enc : TypeId × Value → H} {W : World} {sp : Nat → Bool} {hd : Bool} {r : Reach} {b0 : Nat} {u : Value} {d : DataW H} {p : List MemPlace} {ts : List TypeId} {ds : List (DataW H)}
    (hv : Value.okWide Try.prog W r b0 43 u) (h : DataW.Trod enc Try.prog W 0 sp hd 43 u d p) (hsz : (DataW.weightsEach Try.prog ts ds).all (· ≤ reachBytes) = true) {j : Nat} (ht : ts[j]? = some 43) (hds : ds[j]? = some d) :
    ∃ (q : Option Addr) (c : Nat) (L : List (List UInt8)), u = .slice q L.length c ∧ ChunksAt W q c L := by
  obtain ⟨q, n, c, rfl⟩ := okWide_slice Try.underlying43 hv
  obtain ⟨fuel, hf⟩ := h
  have hw : ∀ x ∈ d.weights Try.prog 43, x ≤ reachBytes := fun x hx => of_decide_eq_true (List.all_eq_true.1 hsz x (DataW.weights_mem_each ht hds x hx))
  obtain ⟨q', c', L, hcs, hl⟩ := chunks_core hf hw
  simp [Value.cells] at hcs
  obtain ⟨rfl, rfl, rfl⟩ := hcs
  exact ⟨_, _, L, rfl, hl⟩

abbrev POp := Int × Int × Option Addr × Nat × List UInt8 × Option Addr × Nat × List (ByteArray × ByteArray × Bool)
theorem spot_none4 {W : World} {b o : Nat} {spot : Option _} {v : Value} (h : W.cell? ((⟨b, o, spot⟩ : Addr).add (0 * 4)) = some v) : spot = none := by simpa [Addr.add] using World.cell?_spot h
/-- One call of a script, as it lies in memory. -/
structure POpAt (w : World) (x : POp) : Prop where
  wf0 : (Lit.int .i64 x.1).wf = true
  wf1 : (Lit.int .i64 x.2.1).wf = true
  src : SrcAt w x.2.2.1 x.2.2.2.2.1
  few : x.2.2.2.2.1.length < 2 ^ 47
  cap : x.2.2.2.2.1.length ≤ x.2.2.2.1
  hl : HL w x.2.2.2.2.2.1 x.2.2.2.2.2.2.1 x.2.2.2.2.2.2.2
/-- A script's calls in memory. -/
structure Ops20 (w : World) (q : Option Addr) (c : Nat) (L : List POp) : Prop where
  cap : L.length ≤ c
  few : L.length < 2 ^ 47
  cells : ∀ r x, L[r]? = some x → ∃ b o, q = some ⟨b, o, none⟩ ∧ b < w.heap.size ∧ w.cell? ⟨b, o + r * 4, none⟩ = some (.int .i64 x.1) ∧ w.cell? ⟨b, o + r * 4 + 1, none⟩ = some (.int .i64 x.2.1) ∧ w.cell? ⟨b, o + r * 4 + 2, none⟩ = some (.slice x.2.2.1 x.2.2.2.2.1.length x.2.2.2.1) ∧ w.cell? ⟨b, o + r * 4 + 3, none⟩ = some (.slice x.2.2.2.2.2.1 x.2.2.2.2.2.2.2.length x.2.2.2.2.2.2.1) ∧ POpAt w x
theorem ops20_open {H : Type} {enc : TypeId × Value → H} {W : World} {sp : Nat → Bool} {hd : Bool} {r : Reach} {b0 : Nat} {u : Value} {d : DataW H} {p : List MemPlace} {ts : List TypeId} {ds : List (DataW H)}
    (hv : Value.okWide Try.prog W r b0 22 u) (h : DataW.Trod enc Try.prog W 0 sp hd 22 u d p) (hsz : (DataW.weightsEach Try.prog ts ds).all (· ≤ reachBytes) = true) {j : Nat} (ht : ts[j]? = some 22) (hds : ds[j]? = some d) :
    ∃ (q : Option Addr) (c : Nat) (L : List POp), u = .slice q L.length c ∧ Ops20 W q c L := by
  obtain ⟨q, n, c, rfl⟩ := okWide_slice Try.underlying22 hv
  obtain ⟨fuel, hf⟩ := h
  rcases open_slice Try.underlying22 hf with ⟨hcs, _⟩ | ⟨a, l, cap, m, k, D, Pl, hcs, _, hl, hm, hmm, hx, hcell⟩
  · simp [Value.cells] at hcs
    obtain ⟨rfl, rfl, rfl⟩ := hcs
    exact ⟨none, 0, [], rfl, ⟨by simp, by simp, fun r x hr => by simp at hr⟩⟩
  · simp [Value.cells] at hcs
    obtain ⟨rfl, rfl, rfl⟩ := hcs
    simp only [Prod.mk.injEq] at hx
    have hr := reach_lt
    have hlm : n ≤ m := by rw [hmm]; split <;> omega
    have hC : Try.prog.cellsOf 34 = 4 := by kernel_rfl
    have hBy : Try.prog.bytesOf 34 = 64 := by kernel_rfl
    rw [hC] at hcell
    have hw : ∀ x ∈ d.weights Try.prog 22, x ≤ reachBytes := fun x hx => of_decide_eq_true (List.all_eq_true.1 hsz x (DataW.weights_mem_each ht hds x hx))
    rw [hx.1] at hw
    have hfew : n < 2 ^ 47 := by
      have := hw (((List.range n).map D).length * 64 + ((List.range (m - n)).map fun j => D (n + j)).length * 64) (by simp only [DataW.weights, Try.underlying22, hBy, List.mem_cons]; left; rw [Nat.add_mul])
      simp at this
      omega
    obtain ⟨O, hO⟩ := choose_lt (α := POp) (n := n) (p := fun r x => W.cell? (a.add (r * 4)) = some (.int .i64 x.1) ∧ W.cell? (a.add (r * 4 + 1)) = some (.int .i64 x.2.1) ∧ W.cell? (a.add (r * 4 + 2)) = some (.slice x.2.2.1 x.2.2.2.2.1.length x.2.2.2.1) ∧ W.cell? (a.add (r * 4 + 3)) = some (.slice x.2.2.2.2.2.1 x.2.2.2.2.2.2.2.length x.2.2.2.2.2.2.1) ∧ POpAt W x) (fun r hr' => by
      obtain ⟨cs', h1, h2⟩ := hcell r (by omega)
      obtain ⟨y0, y1, y2, y3, k2, hy, hcl, t0, t1, t2, t3⟩ := trod_struct4 Try.underlying34 h2
      obtain ⟨n0, e0, hy0, wf0⟩ := DataW.trod_int Try.underlying3 t0
      obtain ⟨n1, e1, hy1, wf1⟩ := DataW.trod_int Try.underlying3 t1
      have c3 : Try.prog.cellsOf 3 = 1 := by kernel_rfl
      have cs3 : Try.prog.cellsOf 32 = 1 := by kernel_rfl
      have cs4 : Try.prog.cellsOf 31 = 1 := by kernel_rfl
      rw [hC] at hcl
      obtain ⟨a0, a1, a2, a3, rfl⟩ : ∃ a0 a1 a2 a3, cs' = [a0, a1, a2, a3] := by
        match cs', hcl with
        | [a0, a1, a2, a3], _ => exact ⟨a0, a1, a2, a3, rfl⟩
      have hin : D r ∈ (List.range n).map D := List.mem_map.2 ⟨r, List.mem_range.2 hr', rfl⟩
      simp only [Prod.mk.injEq] at hy
      obtain ⟨q2, c2, X2, e2, hX2, hn2, hc2⟩ := bytes_core t2 (fun y hyy => hw y (by
        simp only [DataW.weights, Try.underlying22, List.mem_cons, List.mem_append]
        refine .inr (.inl (weightsAll_in hin ?_))
        rw [hy.1]
        simp only [DataW.weights, Try.underlying34, List.map_cons, List.map_nil, DataW.weightsEach, List.mem_append]
        exact .inr (.inr (.inl hyy))))
      obtain ⟨q3, c4, l3, e3, hl3⟩ := hl_core t3 (fun y hyy => hw y (by
        simp only [DataW.weights, Try.underlying22, List.mem_cons, List.mem_append]
        refine .inr (.inl (weightsAll_in hin ?_))
        rw [hy.1]
        simp only [DataW.weights, Try.underlying34, List.map_cons, List.map_nil, DataW.weightsEach, List.mem_append]
        exact .inr (.inr (.inr (.inl hyy)))))
      simp [c3, cs3, cs4] at e0 e1 e2 e3
      subst e0; subst e1; subst e2; subst e3
      refine ⟨(n0, n1, q2, c2, X2, q3, c4, l3), ?_, ?_, ?_, ?_, wf0, wf1, hX2, hn2, hc2, hl3⟩
      · have := cells_at h1 (j := 0) (v := .int .i64 n0) rfl; rwa [add_add] at this
      · have := cells_at h1 (j := 1) (v := .int .i64 n1) rfl; rwa [add_add] at this
      · have := cells_at h1 (j := 2) (v := .slice q2 X2.length c2) rfl; rwa [add_add] at this
      · have := cells_at h1 (j := 3) (v := .slice q3 l3.length c4) rfl; rwa [add_add] at this)
    obtain ⟨b, o, spot⟩ := a
    have hlen : ((List.range n).map O).length = n := by simp
    refine ⟨_, c, (List.range n).map O, by rw [hlen], ⟨by rw [hlen]; exact hl, by rw [hlen]; exact hfew, fun r x hr' => ?_⟩⟩
    simp only [List.getElem?_map, Option.map_eq_some_iff] at hr'
    obtain ⟨r', hr1, rfl⟩ := hr'
    obtain ⟨hrn, rfl⟩ : r < n ∧ r = r' := by
      obtain ⟨h1, h2⟩ := List.getElem?_eq_some_iff.1 hr1
      simp at h1 h2
      exact ⟨h1, h2⟩
    obtain ⟨h0, h1, h2, h3, h5⟩ := hO r hrn
    have hspot : spot = none := spot_none4 (hO 0 (by omega)).1
    subst hspot
    have hadd : ∀ j, (⟨b, o, none⟩ : Addr).add j = ⟨b, o + j, none⟩ := fun j => by unfold Addr.add; split <;> simp_all
    rw [hadd] at h0 h1 h2 h3
    exact ⟨b, o, rfl, World.block_lt_of_cell? _ _ h0, h0, h1, h2, h3, h5⟩
end Go.Proofs.Ytibiiagdhdmpiaa
