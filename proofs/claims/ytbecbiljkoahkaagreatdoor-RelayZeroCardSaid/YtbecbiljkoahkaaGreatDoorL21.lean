/- How an event that came in reads. -/
import Derived.Test.YtbecbiljkoahkaaGreatDoorLx
namespace Go.Proofs.YtbecbiljkoahkaaGreatDoor
open Go.ChangeShapes Go.WideShapes Go.ChangeAt Go.RowKit Go.Deep Go.Joins
set_option linter.unusedVariables false
set_option maxRecDepth 100000
set_option maxHeartbeats 4000000

theorem array7 {cs : Array Value} (h : cs.size = 7) : ∃ c0 c1 c2 c3 c4 c5 c6, cs = #[c0, c1, c2, c3, c4, c5, c6] := by
  obtain ⟨l⟩ := cs
  match l, h with
  | [c0, c1, c2, c3, c4, c5, c6], _ => exact ⟨c0, c1, c2, c3, c4, c5, c6, rfl⟩
theorem list7 {α : Type} {cs : List α} (h : cs.length = 7) : ∃ c0 c1 c2 c3 c4 c5 c6, cs = [c0, c1, c2, c3, c4, c5, c6] := by
  match cs, h with
  | [c0, c1, c2, c3, c4, c5, c6], _ => exact ⟨c0, c1, c2, c3, c4, c5, c6, rfl⟩
theorem slice_shape {H : Type} {enc : TypeId × Value → H} {W : World} {sp : Nat → Bool} {hd : Bool} {fuel : Nat} {v : Value} {x : DataW H × List MemPlace} {t e : TypeId} (ht : Tryz.prog.underlying t = some (.slice e))
    (hf : DataW.trod enc Tryz.prog W 0 sp hd fuel t [v] = some x) : ∃ q n c, v = .slice q n c := by
  rcases open_slice ht hf with ⟨hcs, _⟩ | ⟨a, n, cap, m, k, D, Pl, hcs, _⟩
  · simp only [List.cons.injEq, and_true] at hcs
    exact ⟨_, _, _, hcs⟩
  · simp only [List.cons.injEq, and_true] at hcs
    exact ⟨_, _, _, hcs⟩
theorem event_open {H : Type} {enc : TypeId × Value → H} {W : World} {sp : Nat → Bool} {hd : Bool} {r : Reach} {b0 : Nat} {u : Value} {d : DataW H} {p : List MemPlace}
    (hv : Value.okWide Tryz.prog W r b0 25 u) (h : DataW.Trod enc Tryz.prog W 0 sp hd 25 u d p) :
    ∃ (k s : Int) (q1 : Option Addr) (n1 c1 : Nat) (q2 : Option Addr) (n2 c2 : Nat) (e : Bool) (cd la : Int), u = .agg #[.int .i64 k, .int .i64 s, .slice q1 n1 c1, .slice q2 n2 c2, .bool e, .int .i64 cd, .int .i64 la] := by
  obtain ⟨cs, rfl, hcs⟩ := okWide_struct Tryz.underlying25 hv
  have hC : Tryz.prog.cellsOf 25 = 7 := by kernel_rfl
  obtain ⟨c0, c1, c2, c3, c4, c5, c6, rfl⟩ := array7 (hcs.trans hC)
  obtain ⟨fuel, hf⟩ := h
  obtain ⟨xs, n, _, hx, hl, hlen, hfld⟩ := DataW.trod_struct Tryz.underlying25 hf
  obtain ⟨y0, y1, y2, y3, y4, y5, y6, rfl⟩ := list7 (show xs.length = 7 from hlen)
  have k3 : Tryz.prog.cellsOf 3 = 1 := by kernel_rfl
  have k4 : Tryz.prog.cellsOf 4 = 1 := by kernel_rfl
  have k22 : Tryz.prog.cellsOf 23 = 1 := by kernel_rfl
  have k23 : Tryz.prog.cellsOf 22 = 1 := by kernel_rfl
  have t0 : DataW.trod enc Tryz.prog W 0 sp hd n 3 [c0] = some y0 := by simpa [Value.cells, k3] using hfld 0 _ rfl
  have t1 : DataW.trod enc Tryz.prog W 0 sp hd n 3 [c1] = some y1 := by simpa [Value.cells, k3] using hfld 1 _ rfl
  have t2 : DataW.trod enc Tryz.prog W 0 sp hd n 22 [c2] = some y2 := by simpa [Value.cells, k3, k23] using hfld 2 _ rfl
  have t3 : DataW.trod enc Tryz.prog W 0 sp hd n 23 [c3] = some y3 := by simpa [Value.cells, k3, k22, k23] using hfld 3 _ rfl
  have t4 : DataW.trod enc Tryz.prog W 0 sp hd n 4 [c4] = some y4 := by simpa [Value.cells, k3, k4, k22, k23] using hfld 4 _ rfl
  have t5 : DataW.trod enc Tryz.prog W 0 sp hd n 3 [c5] = some y5 := by simpa [Value.cells, k3, k4, k22, k23] using hfld 5 _ rfl
  have t6 : DataW.trod enc Tryz.prog W 0 sp hd n 3 [c6] = some y6 := by simpa [Value.cells, k3, k4, k22, k23] using hfld 6 _ rfl
  obtain ⟨x0, e0, -, -⟩ := DataW.trod_int Tryz.underlying3 t0
  obtain ⟨x1, e1, -, -⟩ := DataW.trod_int Tryz.underlying3 t1
  obtain ⟨q2, n2, d2, rfl⟩ := slice_shape Tryz.underlying22 t2
  obtain ⟨q3, n3, d3, rfl⟩ := slice_shape Tryz.underlying23 t3
  obtain ⟨x4, e4, -⟩ := DataW.trod_bool Tryz.underlying4 t4
  obtain ⟨x5, e5, -, -⟩ := DataW.trod_int Tryz.underlying3 t5
  obtain ⟨x6, e6, -, -⟩ := DataW.trod_int Tryz.underlying3 t6
  simp only [List.cons.injEq, and_true] at e0 e1 e4 e5 e6
  subst e0; subst e1; subst e4; subst e5; subst e6
  exact ⟨_, _, _, _, _, _, _, _, _, _, _, rfl⟩
end Go.Proofs.YtbecbiljkoahkaaGreatDoor
