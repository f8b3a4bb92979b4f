/- How arguments read: headers, and slices of headers and of a script's calls. -/
import Derived.Test.YtkipeifkfgbkeaaRows
import Derived.WalkKit
import Derived.ProofKit
import Derived.OpenShut
import Derived.ShutString
import Derived.SizedLaws
import Derived.Carry
import Derived.Below
import Derived.Lib.SmallJoins
import Derived.Deep.Slices
namespace Go.Proofs.Ytkipeifkfgbkeaa
open Go.ChangeShapes Go.WideShapes Go.ChangeAt Go.RowKit Go.Deep Go.Joins
set_option linter.unusedVariables false
set_option maxRecDepth 100000
set_option maxHeartbeats 4000000

theorem own : ownKnob Try.prog.godebug = none := by kernel_rfl
theorem laidOut : laidOutB Try.prog = true := by kernel_rfl
theorem reach_lt : reachBytes < 2 ^ 47 := by decide

/-- A header that came in. -/
theorem hdr_open {H : Type} {enc : TypeId × Value → H} {W : World} {base : Nat} {sp : Nat → Bool} {hd : Bool} {r : Reach} {b0 : Nat} {u : Value} {d : DataW H} {p : List MemPlace}
    (hv : Value.okWide Try.prog W r b0 59 u) (h : DataW.Trod enc Try.prog W base sp hd 59 u d p) :
    ∃ (n v : ByteArray) (s : Bool), u = .agg #[.string n, .string v, .bool s] ∧ d = .agg [.lit (.string n.data.toList), .lit (.string v.data.toList), .lit (.bool s)] ∧ p = [] := by
  obtain ⟨v0, v1, v2, y0, y1, y2, m, rfl, rfl, rfl, t0, t1, t2⟩ := open_agg3 Try.underlying59 (by kernel_rfl) (by kernel_rfl) hv h
  obtain ⟨n, e0, rfl, _⟩ := DataW.trod_string Try.underlying9 t0
  obtain ⟨v, e1, rfl, _⟩ := DataW.trod_string Try.underlying9 t1
  obtain ⟨s, e2, rfl⟩ := DataW.trod_bool Try.underlying4 t2
  simp only [List.cons.injEq, and_true] at e0 e1 e2
  subst e0; subst e1; subst e2
  exact ⟨n, v, s, rfl, rfl, rfl⟩
theorem hdr_sized {H : Type} {n v : List UInt8} {s : Bool} : ∀ k ∈ [n.length, v.length], k ∈ (DataW.agg [.lit (.string n), .lit (.string v), .lit (.bool s)] : DataW H).weights Try.prog 59 := by
  intro k hk
  simp only [DataW.weights, Try.underlying59, List.map_cons, List.map_nil, DataW.weightsEach, List.mem_append]
  simp at hk
  rcases hk with rfl | rfl
  · exact .inl (by simp)
  · exact .inr (.inl (by simp))
theorem hdr_fits {H : Type} {ts : List TypeId} {ds : List (DataW H)} (h : (DataW.weightsEach Try.prog ts ds).all (· ≤ reachBytes) = true) {j : Nat} {n v : ByteArray} {s : Bool}
    (ht : ts[j]? = some 59) (hd : ds[j]? = some (.agg [.lit (.string n.data.toList), .lit (.string v.data.toList), .lit (.bool s)])) : n.size < 2 ^ 47 ∧ v.size < 2 ^ 47 := by
  have h1 := List.all_eq_true.1 h _ (DataW.weights_mem_each ht hd n.data.toList.length (hdr_sized _ (by simp)))
  have h2 := List.all_eq_true.1 h _ (DataW.weights_mem_each ht hd v.data.toList.length (hdr_sized _ (by simp)))
  have hr := reach_lt
  have e1 : n.data.toList.length = n.size := by rw [Array.length_toList]; rfl
  have e2 : v.data.toList.length = v.size := by rw [Array.length_toList]; rfl
  rw [e1] at h1
  rw [e2] at h2
  have h1' := of_decide_eq_true h1
  have h2' := of_decide_eq_true h2
  omega
end Go.Proofs.Ytkipeifkfgbkeaa
/- How a slice of headers reads, cell by cell. -/
namespace Go.Proofs.Ytkipeifkfgbkeaa
open Go.ChangeShapes Go.WideShapes Go.ChangeAt Go.RowKit Go.Deep Go.Joins
set_option linter.unusedVariables false
set_option maxRecDepth 100000
set_option maxHeartbeats 4000000

/-- Headers in memory: name, value, secret. -/
structure HdrsAt (w : World) (q : Option Addr) (n c : Nat) (b o : Nat) (O : Nat → ByteArray × ByteArray × Bool) : Prop where
  addr : 0 < n → q = some ⟨b, o, none⟩
  few : n < 2 ^ 47
  cap : n ≤ c
  big : c ≤ maxLen
  cells : ∀ r, r < n → b < w.heap.size ∧ w.cell? ⟨b, o + r * 3, none⟩ = some (.string (O r).1) ∧ w.cell? ⟨b, o + r * 3 + 1, none⟩ = some (.string (O r).2.1) ∧ w.cell? ⟨b, o + r * 3 + 2, none⟩ = some (.bool (O r).2.2) ∧ (O r).1.size < 2 ^ 47 ∧ (O r).2.1.size < 2 ^ 47
theorem u16_nat {a : Int} (h : (Lit.int .u16 a).wf = true) : ∃ k : Nat, a = (k : Int) ∧ k ≤ 65535 := by
  have h2 : IntKind.u16.min ≤ a ∧ a ≤ IntKind.u16.max := by simpa [Lit.wf] using h
  have h3 : (0 : Int) ≤ a ∧ a ≤ 65535 := h2
  exact ⟨a.toNat, by omega, by omega⟩
theorem weightsAll_in {H : Type} {P : Program} {e : TypeId} {l : List (DataW H)} {d : DataW H} (hd : d ∈ l) {n : Nat} (hn : n ∈ d.weights P e) : n ∈ DataW.weightsAll P e l := by
  induction l with
  | nil => simp at hd
  | cons a r ih =>
    simp only [DataW.weightsAll, List.mem_append]
    rcases List.mem_cons.1 hd with rfl | h
    · exact .inl hn
    · exact .inr (ih h)
theorem cells_at {w : World} {base : Nat} {a : Addr} {n : Nat} {cs : List Value} (h : w.cells? base a n = some cs) {j : Nat} {v : Value} (hj : cs[j]? = some v) : w.cell? (a.add j) = some v := by
  obtain ⟨h1, h2, h3⟩ := World.cells?_some h
  have hl := (List.getElem?_eq_some_iff.1 hj).1
  rw [h3 j (by omega)]; exact hj
theorem hdrs_open {H : Type} {enc : TypeId × Value → H} {W : World} {sp : Nat → Bool} {hd : Bool} {r : Reach} {b0 : Nat} {u : Value} {d : DataW H} {p : List MemPlace} {ts : List TypeId} {ds : List (DataW H)}
    (hv : Value.okWide Try.prog W r b0 30 u) (h : DataW.Trod enc Try.prog W 0 sp hd 30 u d p) (hsz : (DataW.weightsEach Try.prog ts ds).all (· ≤ reachBytes) = true) {j : Nat} (ht : ts[j]? = some 30) (hds : ds[j]? = some d) :
    ∃ (q : Option Addr) (n c b o : Nat) (O : Nat → ByteArray × ByteArray × Bool), u = .slice q n c ∧ HdrsAt W q n c b o O := by
  obtain ⟨q, n, c, rfl⟩ := okWide_slice Try.underlying30 hv
  obtain ⟨fuel, hf⟩ := h
  rcases open_slice Try.underlying30 hf with ⟨hcs, _⟩ | ⟨a, l, cap, m, k, D, Pl, hcs, _, hl, hm, hmm, hx, hcell⟩
  · simp [Value.cells] at hcs
    obtain ⟨rfl, rfl, rfl⟩ := hcs
    exact ⟨none, 0, 0, 0, 0, fun _ => default, rfl, ⟨fun h => by omega, by omega, by omega, by simp [maxLen], fun r hr => by omega⟩⟩
  · simp [Value.cells] at hcs
    obtain ⟨rfl, rfl, rfl⟩ := hcs
    simp only [Prod.mk.injEq] at hx
    have hr := reach_lt
    have hlm : n ≤ m := by rw [hmm]; split <;> omega
    have hC : Try.prog.cellsOf 59 = 3 := by kernel_rfl
    have hBy : Try.prog.bytesOf 59 = 40 := by kernel_rfl
    rw [hC] at hcell
    have hw : ∀ x ∈ d.weights Try.prog 30, x ≤ reachBytes := fun x hx => of_decide_eq_true (List.all_eq_true.1 hsz x (DataW.weights_mem_each ht hds x hx))
    rw [hx.1] at hw
    have hfew : n < 2 ^ 47 := by
      have := hw (((List.range n).map D).length * 40 + ((List.range (m - n)).map fun j => D (n + j)).length * 40) (by simp only [DataW.weights, Try.underlying30, hBy, List.mem_cons]; left; rw [Nat.add_mul])
      simp at this
      omega
    obtain ⟨O, hO⟩ := choose_lt (α := ByteArray × ByteArray × Bool) (n := n) (p := fun r x => W.cell? (a.add (r * 3)) = some (.string x.1) ∧ W.cell? (a.add (r * 3 + 1)) = some (.string x.2.1) ∧ W.cell? (a.add (r * 3 + 2)) = some (.bool x.2.2) ∧ x.1.size < 2 ^ 47 ∧ x.2.1.size < 2 ^ 47) (fun r hr' => by
      obtain ⟨cs', h1, h2⟩ := hcell r (by omega)
      obtain ⟨y0, y1, y2, k2, hy, hcl, t0, t1, t2⟩ := trod_struct3 Try.underlying59 h2
      obtain ⟨x2, e2, hy2, _⟩ := DataW.trod_string Try.underlying9 t0
      obtain ⟨x3, e3, hy3, _⟩ := DataW.trod_string Try.underlying9 t1
      obtain ⟨x4, e4, hy4⟩ := DataW.trod_bool Try.underlying4 t2
      have c9 : Try.prog.cellsOf 9 = 1 := by kernel_rfl
      have c4 : Try.prog.cellsOf 4 = 1 := by kernel_rfl
      rw [hC] at hcl
      obtain ⟨a0, a1, a2, rfl⟩ : ∃ a0 a1 a2, cs' = [a0, a1, a2] := by
        match cs', hcl with
        | [a0, a1, a2], _ => exact ⟨a0, a1, a2, rfl⟩
      simp [c9, c4] at e2 e3 e4
      subst e2; subst e3; subst e4
      have hin : D r ∈ (List.range n).map D := List.mem_map.2 ⟨r, List.mem_range.2 hr', rfl⟩
      simp only [Prod.mk.injEq] at hy
      have hD : D r = .agg [.lit (.string x2.data.toList), .lit (.string x3.data.toList), .lit (.bool x4)] := by
        rw [hy.1, hy2, hy3, hy4]
      have hall : ∀ k ∈ [x2.data.toList.length, x3.data.toList.length], k ≤ reachBytes := fun k hk => hw k (by
        simp only [DataW.weights, Try.underlying30, List.mem_cons, List.mem_append]
        exact .inr (.inl (weightsAll_in hin (by rw [hD]; exact hdr_sized k hk))))
      have q2 := hall _ (List.mem_cons_self ..)
      have q3 := hall x3.data.toList.length (by simp)
      have w2 : x2.data.toList.length = x2.size := by rw [Array.length_toList]; rfl
      have w3 : x3.data.toList.length = x3.size := by rw [Array.length_toList]; rfl
      refine ⟨(x2, x3, x4), ?_, ?_, ?_, by show x2.size < _; omega, by show x3.size < _; omega⟩
      · have := cells_at h1 (j := 0) (v := .string x2) rfl; rwa [add_add] at this
      · have := cells_at h1 (j := 1) (v := .string x3) rfl; rwa [add_add] at this
      · have := cells_at h1 (j := 2) (v := .bool x4) rfl; rwa [add_add] at this)
    obtain ⟨b, o, spot⟩ := a
    by_cases hn0 : 0 < n
    · have hspot : spot = none := by simpa [Addr.add] using World.cell?_spot (hO 0 hn0).1
      subst hspot
      refine ⟨_, n, c, b, o, O, rfl, ⟨fun _ => rfl, hfew, hl, hm, fun r hr' => ?_⟩⟩
      obtain ⟨h0, h1, h2, h5⟩ := hO r hr'
      have hadd : ∀ j, (⟨b, o, none⟩ : Addr).add j = ⟨b, o + j, none⟩ := fun j => by unfold Addr.add; split <;> simp_all
      rw [hadd] at h0 h1 h2
      exact ⟨World.block_lt_of_cell? _ _ h0, h0, h1, h2, h5⟩
    · exact ⟨_, n, c, b, o, O, rfl, ⟨fun h => absurd h hn0, hfew, hl, hm, fun r hr' => by omega⟩⟩
end Go.Proofs.Ytkipeifkfgbkeaa
/- How slices of headers, and of a script's calls with such slices, read, cell by cell. -/
namespace Go.Proofs.Ytkipeifkfgbkeaa
open Go.ChangeShapes Go.WideShapes Go.ChangeAt Go.RowKit Go.Deep Go.Joins
set_option linter.unusedVariables false
set_option maxRecDepth 100000
set_option maxHeartbeats 4000000

/-- A list of headers in memory. -/
structure HL (w : World) (q : Option Addr) (c : Nat) (l : List (ByteArray × ByteArray × Bool)) : Prop where
  cap : l.length ≤ c
  big : c ≤ maxLen
  few : l.length * 40 < 2 ^ 47
  cells : ∀ r h, l[r]? = some h → ∃ b o, q = some ⟨b, o, none⟩ ∧ b < w.heap.size ∧ w.cell? ⟨b, o + r * 3, none⟩ = some (.string h.1) ∧ w.cell? ⟨b, o + r * 3 + 1, none⟩ = some (.string h.2.1) ∧ w.cell? ⟨b, o + r * 3 + 2, none⟩ = some (.bool h.2.2) ∧ h.1.size < 2 ^ 47 ∧ h.2.1.size < 2 ^ 47
theorem HL.later {w w' : World} {q : Option Addr} {c : Nat} {l : List (ByteArray × ByteArray × Bool)} (h : HL w q c l) (f : Below w.heap.size w w') : HL w' q c l := by
  refine ⟨h.cap, h.big, h.few, fun r x hr => ?_⟩
  obtain ⟨b, o, hq, hb, h0, h1, h2, h3⟩ := h.cells r x hr
  have hc : ∀ j, w'.cell? ⟨b, j, none⟩ = w.cell? ⟨b, j, none⟩ := fun j => f.cell (p := ⟨b, j, none⟩) hb
  exact ⟨b, o, hq, Nat.lt_of_lt_of_le hb f.size, (hc _).trans h0, (hc _).trans h1, (hc _).trans h2, h3⟩
theorem HL.nil (w : World) : HL w none 0 [] := ⟨by simp, by simp [maxLen], by simp, fun r h hr => by simp at hr⟩
theorem spot_none {W : World} {b o : Nat} {spot : Option _} {v : Value} (h : W.cell? ((⟨b, o, spot⟩ : Addr).add (0 * 3)) = some v) : spot = none := by simpa [Addr.add] using World.cell?_spot h
theorem hl_core {H : Type} {enc : TypeId × Value → H} {W : World} {sp : Nat → Bool} {hd : Bool} {fuel : Nat} {cs : List Value} {x : DataW H × List MemPlace}
    (hf : DataW.trod enc Try.prog W 0 sp hd fuel 30 cs = some x) (hw : ∀ y ∈ x.1.weights Try.prog 30, y ≤ reachBytes) :
    ∃ (q : Option Addr) (c : Nat) (l : List (ByteArray × ByteArray × Bool)), cs = [.slice q l.length c] ∧ HL W q c l := by
  rcases open_slice Try.underlying30 hf with ⟨hcs, _⟩ | ⟨a, n, cap, m, k, D, Pl, hcs, _, hl, hm, hmm, hx, hcell⟩
  · exact ⟨none, 0, [], hcs, HL.nil W⟩
  · subst hcs
    have hr := reach_lt
    have hlm : n ≤ m := by rw [hmm]; split <;> omega
    have hC : Try.prog.cellsOf 59 = 3 := by kernel_rfl
    have hBy : Try.prog.bytesOf 59 = 40 := by kernel_rfl
    rw [hC] at hcell
    rw [hx] at hw
    dsimp only at hw
    have hfew : n * 40 < 2 ^ 47 := by
      have := hw (((List.range n).map D).length * 40 + ((List.range (m - n)).map fun j => D (n + j)).length * 40) (by simp only [DataW.weights, Try.underlying30, hBy, List.mem_cons]; left; rw [Nat.add_mul])
      simp at this
      omega
    obtain ⟨O, hO⟩ := choose_lt (α := ByteArray × ByteArray × Bool) (n := n) (p := fun r x => W.cell? (a.add (r * 3)) = some (.string x.1) ∧ W.cell? (a.add (r * 3 + 1)) = some (.string x.2.1) ∧ W.cell? (a.add (r * 3 + 2)) = some (.bool x.2.2) ∧ x.1.size < 2 ^ 47 ∧ x.2.1.size < 2 ^ 47) (fun r hr' => by
      obtain ⟨cs', h1, h2⟩ := hcell r (by omega)
      obtain ⟨y0, y1, y2, k2, hy, hcl, t0, t1, t2⟩ := trod_struct3 Try.underlying59 h2
      obtain ⟨x2, e2, hy2, _⟩ := DataW.trod_string Try.underlying9 t0
      obtain ⟨x3, e3, hy3, _⟩ := DataW.trod_string Try.underlying9 t1
      obtain ⟨x4, e4, hy4⟩ := DataW.trod_bool Try.underlying4 t2
      have c9 : Try.prog.cellsOf 9 = 1 := by kernel_rfl
      have c4 : Try.prog.cellsOf 4 = 1 := by kernel_rfl
      rw [hC] at hcl
      obtain ⟨a0, a1, a2, rfl⟩ : ∃ a0 a1 a2, cs' = [a0, a1, a2] := by
        match cs', hcl with
        | [a0, a1, a2], _ => exact ⟨a0, a1, a2, rfl⟩
      simp [c9, c4] at e2 e3 e4
      subst e2; subst e3; subst e4
      have hin : D r ∈ (List.range n).map D := List.mem_map.2 ⟨r, List.mem_range.2 hr', rfl⟩
      simp only [Prod.mk.injEq] at hy
      have hD : D r = .agg [.lit (.string x2.data.toList), .lit (.string x3.data.toList), .lit (.bool x4)] := by
        rw [hy.1, hy2, hy3, hy4]
      have hall : ∀ k ∈ [x2.data.toList.length, x3.data.toList.length], k ≤ reachBytes := fun k hk => hw k (by
        simp only [DataW.weights, Try.underlying30, List.mem_cons, List.mem_append]
        exact .inr (.inl (weightsAll_in hin (by rw [hD]; exact hdr_sized k hk))))
      have q2 := hall _ (List.mem_cons_self ..)
      have q3 := hall x3.data.toList.length (by simp)
      have w2 : x2.data.toList.length = x2.size := by rw [Array.length_toList]; rfl
      have w3 : x3.data.toList.length = x3.size := by rw [Array.length_toList]; rfl
      refine ⟨(x2, x3, x4), ?_, ?_, ?_, by show x2.size < _; omega, by show x3.size < _; omega⟩
      · have := cells_at h1 (j := 0) (v := .string x2) rfl; rwa [add_add] at this
      · have := cells_at h1 (j := 1) (v := .string x3) rfl; rwa [add_add] at this
      · have := cells_at h1 (j := 2) (v := .bool x4) rfl; rwa [add_add] at this)
    obtain ⟨b, o, spot⟩ := a
    have hlen : ((List.range n).map O).length = n := by simp
    refine ⟨_, cap, (List.range n).map O, by rw [hlen], ⟨by rw [hlen]; exact hl, hm, by rw [hlen]; exact hfew, fun r h hr' => ?_⟩⟩
    simp only [List.getElem?_map, Option.map_eq_some_iff] at hr'
    obtain ⟨r', hr1, rfl⟩ := hr'
    obtain ⟨hrn, rfl⟩ : r < n ∧ r = r' := by
      obtain ⟨h1, h2⟩ := List.getElem?_eq_some_iff.1 hr1
      simp at h1 h2
      exact ⟨h1, h2⟩
    obtain ⟨h0, h1, h2, h5⟩ := hO r hrn
    have hspot : spot = none := spot_none (hO 0 (by omega)).1
    subst hspot
    have hadd : ∀ j, (⟨b, o, none⟩ : Addr).add j = ⟨b, o + j, none⟩ := fun j => by unfold Addr.add; split <;> simp_all
    rw [hadd] at h0 h1 h2
    exact ⟨b, o, rfl, World.block_lt_of_cell? _ _ h0, h0, h1, h2, h5⟩
theorem hl_open {H : Type} {enc : TypeId × Value → H} {W : World} {sp : Nat → Bool} {hd : Bool} {r : Reach} {b0 : Nat} {u : Value} {d : DataW H} {p : List MemPlace} {ts : List TypeId} {ds : List (DataW H)}
    (hv : Value.okWide Try.prog W r b0 30 u) (h : DataW.Trod enc Try.prog W 0 sp hd 30 u d p) (hsz : (DataW.weightsEach Try.prog ts ds).all (· ≤ reachBytes) = true) {j : Nat} (ht : ts[j]? = some 30) (hds : ds[j]? = some d) :
    ∃ (q : Option Addr) (c : Nat) (l : List (ByteArray × ByteArray × Bool)), u = .slice q l.length c ∧ HL W q c l := by
  obtain ⟨q, n, c, rfl⟩ := okWide_slice Try.underlying30 hv
  obtain ⟨fuel, hf⟩ := h
  have hw : ∀ x ∈ d.weights Try.prog 30, x ≤ reachBytes := fun x hx => of_decide_eq_true (List.all_eq_true.1 hsz x (DataW.weights_mem_each ht hds x hx))
  obtain ⟨q', c', l, hcs, hl⟩ := hl_core hf hw
  simp [Value.cells] at hcs
  obtain ⟨rfl, rfl, rfl⟩ := hcs
  exact ⟨_, _, l, rfl, hl⟩

/-- Calls of an encoder in memory: what, number, list. -/
structure OpsL (w : World) (q : Option Addr) (ops : List (Int × Int × Option Addr × Nat × List (ByteArray × ByteArray × Bool))) : Prop where
  few : ops.length < 2 ^ 47
  cells : ∀ r x, ops[r]? = some x → ∃ b o, q = some ⟨b, o, none⟩ ∧ b < w.heap.size ∧ w.cell? ⟨b, o + r * 3, none⟩ = some (.int .i64 x.1) ∧ w.cell? ⟨b, o + r * 3 + 1, none⟩ = some (.int .i64 x.2.1) ∧ w.cell? ⟨b, o + r * 3 + 2, none⟩ = some (.slice x.2.2.1 x.2.2.2.2.length x.2.2.2.1) ∧ (Lit.int .i64 x.1).wf = true ∧ (Lit.int .i64 x.2.1).wf = true ∧ HL w x.2.2.1 x.2.2.2.1 x.2.2.2.2
theorem OpsL.later {w w' : World} {q : Option Addr} {ops : List (Int × Int × Option Addr × Nat × List (ByteArray × ByteArray × Bool))} (h : OpsL w q ops) (f : Below w.heap.size w w') : OpsL w' q ops := by
  refine ⟨h.few, fun r x hr => ?_⟩
  obtain ⟨b, o, hq, hb, h0, h1, h2, h3, h4, h5⟩ := h.cells r x hr
  have hc : ∀ j, w'.cell? ⟨b, j, none⟩ = w.cell? ⟨b, j, none⟩ := fun j => f.cell (p := ⟨b, j, none⟩) hb
  exact ⟨b, o, hq, Nat.lt_of_lt_of_le hb f.size, (hc _).trans h0, (hc _).trans h1, (hc _).trans h2, h3, h4, h5.later f⟩
theorem opsl_open {H : Type} {enc : TypeId × Value → H} {W : World} {sp : Nat → Bool} {hd : Bool} {r : Reach} {b0 : Nat} {u : Value} {d : DataW H} {p : List MemPlace} {ts : List TypeId} {ds : List (DataW H)}
    (hv : Value.okWide Try.prog W r b0 22 u) (h : DataW.Trod enc Try.prog W 0 sp hd 22 u d p) (hsz : (DataW.weightsEach Try.prog ts ds).all (· ≤ reachBytes) = true) {j : Nat} (ht : ts[j]? = some 22) (hds : ds[j]? = some d) :
    ∃ (q : Option Addr) (c : Nat) (ops : List (Int × Int × Option Addr × Nat × List (ByteArray × ByteArray × Bool))), u = .slice q ops.length c ∧ OpsL W q ops := by
  obtain ⟨q, n, c, rfl⟩ := okWide_slice Try.underlying22 hv
  obtain ⟨fuel, hf⟩ := h
  rcases open_slice Try.underlying22 hf with ⟨hcs, _⟩ | ⟨a, l, cap, m, k, D, Pl, hcs, _, hl, hm, hmm, hx, hcell⟩
  · simp [Value.cells] at hcs
    obtain ⟨rfl, rfl, rfl⟩ := hcs
    exact ⟨none, 0, [], rfl, ⟨by simp, fun r x hr => by simp at hr⟩⟩
  · simp [Value.cells] at hcs
    obtain ⟨rfl, rfl, rfl⟩ := hcs
    simp only [Prod.mk.injEq] at hx
    have hr := reach_lt
    have hlm : n ≤ m := by rw [hmm]; split <;> omega
    have hC : Try.prog.cellsOf 32 = 3 := by kernel_rfl
    have hBy : Try.prog.bytesOf 32 = 40 := by kernel_rfl
    rw [hC] at hcell
    have hw : ∀ x ∈ d.weights Try.prog 22, x ≤ reachBytes := fun x hx => of_decide_eq_true (List.all_eq_true.1 hsz x (DataW.weights_mem_each ht hds x hx))
    rw [hx.1] at hw
    have hfew : n < 2 ^ 47 := by
      have := hw (((List.range n).map D).length * 40 + ((List.range (m - n)).map fun j => D (n + j)).length * 40) (by simp only [DataW.weights, Try.underlying22, hBy, List.mem_cons]; left; rw [Nat.add_mul])
      simp at this
      omega
    obtain ⟨O, hO⟩ := choose_lt (α := Int × Int × Option Addr × Nat × List (ByteArray × ByteArray × Bool)) (n := n) (p := fun r x => W.cell? (a.add (r * 3)) = some (.int .i64 x.1) ∧ W.cell? (a.add (r * 3 + 1)) = some (.int .i64 x.2.1) ∧ W.cell? (a.add (r * 3 + 2)) = some (.slice x.2.2.1 x.2.2.2.2.length x.2.2.2.1) ∧ (Lit.int .i64 x.1).wf = true ∧ (Lit.int .i64 x.2.1).wf = true ∧ HL W x.2.2.1 x.2.2.2.1 x.2.2.2.2) (fun r hr' => by
      obtain ⟨cs', h1, h2⟩ := hcell r (by omega)
      obtain ⟨y0, y1, y2, k2, hy, hcl, t0, t1, t2⟩ := trod_struct3 Try.underlying32 h2
      obtain ⟨n0, e0, hy0, wf0⟩ := DataW.trod_int Try.underlying3 t0
      obtain ⟨n1, e1, hy1, wf1⟩ := DataW.trod_int Try.underlying3 t1
      have c3 : Try.prog.cellsOf 3 = 1 := by kernel_rfl
      have cs3 : Try.prog.cellsOf 30 = 1 := by kernel_rfl
      rw [hC] at hcl
      obtain ⟨a0, a1, a2, rfl⟩ : ∃ a0 a1 a2, cs' = [a0, a1, a2] := by
        match cs', hcl with
        | [a0, a1, a2], _ => exact ⟨a0, a1, a2, rfl⟩
      have hin : D r ∈ (List.range n).map D := List.mem_map.2 ⟨r, List.mem_range.2 hr', rfl⟩
      simp only [Prod.mk.injEq] at hy
      obtain ⟨q2, c2, l2, e2, hl2⟩ := hl_core t2 (fun y hyy => hw y (by
        simp only [DataW.weights, Try.underlying22, List.mem_cons, List.mem_append]
        refine .inr (.inl (weightsAll_in hin ?_))
        rw [hy.1]
        simp only [DataW.weights, Try.underlying32, List.map_cons, List.map_nil, DataW.weightsEach, List.mem_append]
        exact .inr (.inr (.inl hyy))))
      simp [c3, cs3] at e0 e1 e2
      subst e0; subst e1; subst e2
      refine ⟨(n0, n1, q2, c2, l2), ?_, ?_, ?_, wf0, wf1, hl2⟩
      · have := cells_at h1 (j := 0) (v := .int .i64 n0) rfl; rwa [add_add] at this
      · have := cells_at h1 (j := 1) (v := .int .i64 n1) rfl; rwa [add_add] at this
      · have := cells_at h1 (j := 2) (v := .slice q2 l2.length c2) rfl; rwa [add_add] at this)
    obtain ⟨b, o, spot⟩ := a
    have hlen : ((List.range n).map O).length = n := by simp
    refine ⟨_, c, (List.range n).map O, by rw [hlen], ⟨by rw [hlen]; exact hfew, fun r x hr' => ?_⟩⟩
    simp only [List.getElem?_map, Option.map_eq_some_iff] at hr'
    obtain ⟨r', hr1, rfl⟩ := hr'
    obtain ⟨hrn, rfl⟩ : r < n ∧ r = r' := by
      obtain ⟨h1, h2⟩ := List.getElem?_eq_some_iff.1 hr1
      simp at h1 h2
      exact ⟨h1, h2⟩
    obtain ⟨h0, h1, h2, h5⟩ := hO r hrn
    have hspot : spot = none := spot_none (hO 0 (by omega)).1
    subst hspot
    have hadd : ∀ j, (⟨b, o, none⟩ : Addr).add j = ⟨b, o + j, none⟩ := fun j => by unfold Addr.add; split <;> simp_all
    rw [hadd] at h0 h1 h2
    exact ⟨b, o, rfl, World.block_lt_of_cell? _ _ h0, h0, h1, h2, h5⟩
end Go.Proofs.Ytkipeifkfgbkeaa
