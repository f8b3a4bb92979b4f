/- How arguments read: bytes, settings, frames. -/
import Derived.Test.YtdndhidinbmpdaaRows
import Derived.Test.YtdndhidinbmpdaaFy
import Derived.Test.YtdndhidinbmpdaaL7s
import Derived.WalkKit
import Derived.ProofKit
import Derived.OpenShut
import Derived.ShutString
import Derived.SizedLaws
import Derived.Carry
import Derived.Below
import Derived.Lib.SmallJoins
import Derived.Deep.Slices
namespace Go.Proofs.Ytdndhidinbmpdaa
open Go.ChangeShapes Go.WideShapes Go.ChangeAt Go.RowKit Go.Deep Go.Joins
set_option linter.unusedVariables false
set_option maxRecDepth 100000
set_option maxHeartbeats 4000000

/-- Bytes that came in. -/
theorem bytes_core {H : Type} {enc : TypeId × Value → H} {W : World} {sp : Nat → Bool} {hd : Bool} {fuel : Nat} {cs : List Value} {x : DataW H × List MemPlace}
    (hf : DataW.trod enc Try.prog W 0 sp hd fuel 22 cs = some x) (hw : ∀ y ∈ x.1.weights Try.prog 22, y ≤ reachBytes) :
    ∃ (q : Option Addr) (c : Nat) (X : List UInt8), cs = [.slice q X.length c] ∧ SrcAt W q X ∧ X.length < 2 ^ 47 ∧ X.length ≤ c := by
  rcases open_slice Try.underlying22 hf with ⟨hcs, _⟩ | ⟨a, n, cap, m, k, D, Pl, hcs, _, hl, hm, hmm, hx, hcell⟩
  · exact ⟨none, 0, [], hcs, SrcAt.nil _ _, by simp, by simp⟩
  · subst hcs
    have hr := reach_lt
    have hlm : n ≤ m := by rw [hmm]; split <;> omega
    have hC : Try.prog.cellsOf 5 = 1 := by kernel_rfl
    have hBy : Try.prog.bytesOf 5 = 1 := by kernel_rfl
    rw [hC] at hcell
    rw [hx] at hw
    dsimp only at hw
    have hfew : n < 2 ^ 47 := by
      have := hw (((List.range n).map D).length * 1 + ((List.range (m - n)).map fun j => D (n + j)).length * 1) (by simp only [DataW.weights, Try.underlying22, hBy, List.mem_cons]; left; rw [Nat.add_mul])
      simp at this
      omega
    obtain ⟨O, hO⟩ := choose_lt (α := UInt8) (n := n) (p := fun r x => W.cell? (a.add (r * 1)) = some (.int .u8 x.toNat)) (fun r hr' => by
      obtain ⟨cs', h1, h2⟩ := hcell r (by omega)
      obtain ⟨k2, e2, hy2, wf2⟩ := DataW.trod_int Try.underlying5 h2
      subst e2
      obtain ⟨k3, rfl, hk3⟩ := u8_nat wf2
      refine ⟨UInt8.ofNat k3, ?_⟩
      have := cells_at h1 (j := 0) (v := .int .u8 (k3 : Int)) rfl
      rw [show (a.add (r * 1)).add 0 = a.add (r * 1) from by unfold Addr.add; simp] at this
      rw [this]
      simp
      omega)
    have hlen : ((List.range n).map O).length = n := by simp
    refine ⟨_, cap, (List.range n).map O, by rw [hlen], ?_, by rw [hlen]; exact hfew, by rw [hlen]; exact hl⟩
    intro r c hr'
    simp only [List.getElem?_map, Option.map_eq_some_iff] at hr'
    obtain ⟨r', hr1, rfl⟩ := hr'
    obtain ⟨hrn, rfl⟩ : r < n ∧ r = r' := by
      obtain ⟨h1, h2⟩ := List.getElem?_eq_some_iff.1 hr1
      simp at h1 h2
      exact ⟨h1, h2⟩
    have := hO r hrn
    rw [Nat.mul_one] at this
    exact ⟨a, rfl, this⟩
theorem bytes_open {H : Type} {enc : TypeId × Value → H} {W : World} {sp : Nat → Bool} {hd : Bool} {r : Reach} {b0 : Nat} {u : Value} {d : DataW H} {p : List MemPlace} {ts : List TypeId} {ds : List (DataW H)}
    (hv : Value.okWide Try.prog W r b0 22 u) (h : DataW.Trod enc Try.prog W 0 sp hd 22 u d p) (hsz : (DataW.weightsEach Try.prog ts ds).all (· ≤ reachBytes) = true) {j : Nat} (ht : ts[j]? = some 22) (hds : ds[j]? = some d) :
    ∃ (q : Option Addr) (c : Nat) (X : List UInt8), u = .slice q X.length c ∧ SrcAt W q X ∧ X.length < 2 ^ 47 ∧ X.length ≤ c := by
  obtain ⟨q, n, c, rfl⟩ := okWide_slice Try.underlying22 hv
  obtain ⟨fuel, hf⟩ := h
  have hw : ∀ x ∈ d.weights Try.prog 22, x ≤ reachBytes := fun x hx => of_decide_eq_true (List.all_eq_true.1 hsz x (DataW.weights_mem_each ht hds x hx))
  obtain ⟨q', c', X, hcs, hl⟩ := bytes_core hf hw
  simp [Value.cells] at hcs
  obtain ⟨rfl, rfl, rfl⟩ := hcs
  exact ⟨_, _, X, rfl, hl⟩
theorem array12 {α : Type} {cs : Array α} (h : cs.size = 12) : ∃ c0 c1 c2 c3 c4 c5 c6 c7 c8 c9 c10 c11, cs = #[c0, c1, c2, c3, c4, c5, c6, c7, c8, c9, c10, c11] := by
  obtain ⟨l⟩ := cs
  match l, h with
  | [c0, c1, c2, c3, c4, c5, c6, c7, c8, c9, c10, c11], _ => exact ⟨c0, c1, c2, c3, c4, c5, c6, c7, c8, c9, c10, c11, rfl⟩
theorem list12 {α : Type} {cs : List α} (h : cs.length = 12) : ∃ c0 c1 c2 c3 c4 c5 c6 c7 c8 c9 c10 c11, cs = [c0, c1, c2, c3, c4, c5, c6, c7, c8, c9, c10, c11] := by
  match cs, h with
  | [c0, c1, c2, c3, c4, c5, c6, c7, c8, c9, c10, c11], _ => exact ⟨c0, c1, c2, c3, c4, c5, c6, c7, c8, c9, c10, c11, rfl⟩

/-- A frame that came in. -/
theorem frame_open {H : Type} {enc : TypeId × Value → H} {W : World} {sp : Nat → Bool} {hd : Bool} {r : Reach} {b0 : Nat} {u : Value} {d : DataW H} {p : List MemPlace} {ts : List TypeId} {ds : List (DataW H)}
    (hv : Value.okWide Try.prog W r b0 34 u) (h : DataW.Trod enc Try.prog W 0 sp hd 34 u d p) (hsz : (DataW.weightsEach Try.prog ts ds).all (· ≤ reachBytes) = true) {j : Nat} (ht : ts[j]? = some 34) (hds : ds[j]? = some d) :
    ∃ (f : Fra) (fp : Option Addr) (fc : Nat) (fq : Option Addr) (fd : Nat), u = .agg #[.int .i64 f.k, .int .i64 f.fl, .int .i64 f.st, .slice fp f.X.length fc, .int .i64 f.pad, .int .u32 f.code, .int .i64 f.last, .int .i64 f.inc, .int .i64 f.dep, .bool f.only, .int .i64 f.wt, .slice fq f.Y.length fd] ∧ FrIn W f fp fq fd := by
  have hw : ∀ x ∈ d.weights Try.prog 34, x ≤ reachBytes := fun x hx => of_decide_eq_true (List.all_eq_true.1 hsz x (DataW.weights_mem_each ht hds x hx))
  obtain ⟨cs, rfl, hcs⟩ := okWide_struct Try.underlying34 hv
  have hC : Try.prog.cellsOf 34 = 12 := by kernel_rfl
  obtain ⟨c0, c1, c2, c3, c4, c5, c6, c7, c8, c9, c10, c11, rfl⟩ := array12 (hcs.trans hC)
  obtain ⟨fuel, hf⟩ := h
  obtain ⟨xs, n, _, hx, hl, hlen, hfld⟩ := DataW.trod_struct Try.underlying34 hf
  obtain ⟨y0, y1, y2, y3, y4, y5, y6, y7, y8, y9, y10, y11, rfl⟩ := list12 (show xs.length = 12 from hlen)
  have k3 : Try.prog.cellsOf 3 = 1 := by kernel_rfl
  have k4 : Try.prog.cellsOf 4 = 1 := by kernel_rfl
  have k22 : Try.prog.cellsOf 22 = 1 := by kernel_rfl
  have k23 : Try.prog.cellsOf 31 = 1 := by kernel_rfl
  have k24 : Try.prog.cellsOf 32 = 1 := by kernel_rfl
  have t0 : DataW.trod enc Try.prog W 0 sp hd n 3 [c0] = some y0 := by simpa [Value.cells, k3] using hfld 0 _ rfl
  have t1 : DataW.trod enc Try.prog W 0 sp hd n 3 [c1] = some y1 := by simpa [Value.cells, k3] using hfld 1 _ rfl
  have t2 : DataW.trod enc Try.prog W 0 sp hd n 3 [c2] = some y2 := by simpa [Value.cells, k3] using hfld 2 _ rfl
  have t3 : DataW.trod enc Try.prog W 0 sp hd n 22 [c3] = some y3 := by simpa [Value.cells, k22] using hfld 3 _ rfl
  have t4 : DataW.trod enc Try.prog W 0 sp hd n 3 [c4] = some y4 := by simpa [Value.cells, k3] using hfld 4 _ rfl
  have t5 : DataW.trod enc Try.prog W 0 sp hd n 31 [c5] = some y5 := by simpa [Value.cells, k23] using hfld 5 _ rfl
  have t6 : DataW.trod enc Try.prog W 0 sp hd n 3 [c6] = some y6 := by simpa [Value.cells, k3] using hfld 6 _ rfl
  have t7 : DataW.trod enc Try.prog W 0 sp hd n 3 [c7] = some y7 := by simpa [Value.cells, k3] using hfld 7 _ rfl
  have t8 : DataW.trod enc Try.prog W 0 sp hd n 3 [c8] = some y8 := by simpa [Value.cells, k3] using hfld 8 _ rfl
  have t9 : DataW.trod enc Try.prog W 0 sp hd n 4 [c9] = some y9 := by simpa [Value.cells, k4] using hfld 9 _ rfl
  have t10 : DataW.trod enc Try.prog W 0 sp hd n 3 [c10] = some y10 := by simpa [Value.cells, k3] using hfld 10 _ rfl
  have t11 : DataW.trod enc Try.prog W 0 sp hd n 32 [c11] = some y11 := by simpa [Value.cells, k24] using hfld 11 _ rfl
  simp only [Prod.mk.injEq] at hx
  have hw3 : ∀ z ∈ y3.1.weights Try.prog 22, z ≤ reachBytes := fun z hz => hw z (by
    rw [hx.1]
    simp only [DataW.weights, Try.underlying34, List.map_cons, List.map_nil, DataW.weightsEach, List.mem_append]
    simp [hz])
  have hw11 : ∀ z ∈ y11.1.weights Try.prog 32, z ≤ reachBytes := fun z hz => hw z (by
    rw [hx.1]
    simp only [DataW.weights, Try.underlying34, List.map_cons, List.map_nil, DataW.weightsEach, List.mem_append]
    simp [hz])
  obtain ⟨x0, e0, -, wf0⟩ := DataW.trod_int Try.underlying3 t0
  obtain ⟨x1, e1, -, wf1⟩ := DataW.trod_int Try.underlying3 t1
  obtain ⟨x2, e2, -, wf2⟩ := DataW.trod_int Try.underlying3 t2
  obtain ⟨q3, d3, X, e3, hX, hXn, -⟩ := bytes_core t3 hw3
  obtain ⟨x4, e4, -, wf4⟩ := DataW.trod_int Try.underlying3 t4
  obtain ⟨x5, e5, -, wf5⟩ := DataW.trod_int Try.underlying31 t5
  obtain ⟨x6, e6, -, wf6⟩ := DataW.trod_int Try.underlying3 t6
  obtain ⟨x7, e7, -, wf7⟩ := DataW.trod_int Try.underlying3 t7
  obtain ⟨x8, e8, -, wf8⟩ := DataW.trod_int Try.underlying3 t8
  obtain ⟨x9, e9, -⟩ := DataW.trod_bool Try.underlying4 t9
  obtain ⟨x10, e10, -, wf10⟩ := DataW.trod_int Try.underlying3 t10
  obtain ⟨q11, d11, Y, e11, hY⟩ := sets_core t11 hw11
  simp only [List.cons.injEq, and_true] at e0 e1 e2 e3 e4 e5 e6 e7 e8 e9 e10 e11
  obtain ⟨n5, rfl, hn5⟩ := u32_nat wf5
  subst e0; subst e1; subst e2; subst e3; subst e4; subst e5; subst e6; subst e7; subst e8; subst e9; subst e10; subst e11
  exact ⟨⟨x0, x1, x2, X, x4, n5, x6, x7, x8, x9, x10, Y⟩, q3, d3, q11, d11, rfl, ⟨hX, hY, hXn, hn5, wf0, wf1, wf2, wf4, wf6, wf7, wf8, wf10⟩⟩
end Go.Proofs.Ytdndhidinbmpdaa
