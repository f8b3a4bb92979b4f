/- A setup that came in. -/
import Derived.Test.YtpjbgjgaigkbcaaGreatKb
import Derived.Test.YtpjbgjgaigkbcaaGreatLx
namespace Go.Proofs.YtpjbgjgaigkbcaaGreat
open Go.ChangeShapes Go.WideShapes Go.ChangeAt Go.RowKit
set_option linter.unusedVariables false
set_option maxRecDepth 100000
set_option maxHeartbeats 4000000

theorem array7 {cs : Array Value} (h : cs.size = 7) : ∃ c0 c1 c2 c3 c4 c5 c6, cs = #[c0, c1, c2, c3, c4, c5, c6] := by
  obtain ⟨l⟩ := cs
  match l, h with
  | [c0, c1, c2, c3, c4, c5, c6], _ => exact ⟨c0, c1, c2, c3, c4, c5, c6, rfl⟩
theorem list7 {α : Type} {cs : List α} (h : cs.length = 7) : ∃ c0 c1 c2 c3 c4 c5 c6, cs = [c0, c1, c2, c3, c4, c5, c6] := by
  match cs, h with
  | [c0, c1, c2, c3, c4, c5, c6], _ => exact ⟨c0, c1, c2, c3, c4, c5, c6, rfl⟩
theorem stp_open {H : Type} {enc : TypeId × Value → H} {W : World} {sp : Nat → Bool} {hd : Bool} {r : Reach} {b0 : Nat} {u : Value} {d : DataW H} {p : List MemPlace}
    (hv : Value.okWide Tryz.prog W r b0 23 u) (h : DataW.Trod enc Tryz.prog W 0 sp hd 23 u d p) :
    ∃ s : Stp, u = .agg #[.bool s.server, .int .i64 s.streams, .int .i64 s.window, .int .i64 s.frame, .int .i64 s.list, .int .i64 s.table, .int .i64 s.queue] := by
  obtain ⟨cs, rfl, hcs⟩ := okWide_struct Tryz.underlying23 hv
  have hC : Tryz.prog.cellsOf 23 = 7 := by kernel_rfl
  obtain ⟨c0, c1, c2, c3, c4, c5, c6, rfl⟩ := array7 (hcs.trans hC)
  obtain ⟨fuel, hf⟩ := h
  obtain ⟨xs, n, _, hx, hl, hlen, hfld⟩ := DataW.trod_struct Tryz.underlying23 hf
  obtain ⟨y0, y1, y2, y3, y4, y5, y6, rfl⟩ := list7 (show xs.length = 7 from hlen)
  have k3 : Tryz.prog.cellsOf 3 = 1 := by kernel_rfl
  have k4 : Tryz.prog.cellsOf 4 = 1 := by kernel_rfl
  have t0 : DataW.trod enc Tryz.prog W 0 sp hd n 4 [c0] = some y0 := by simpa [Value.cells, k4] using hfld 0 _ rfl
  have t1 : DataW.trod enc Tryz.prog W 0 sp hd n 3 [c1] = some y1 := by simpa [Value.cells, k3, k4] using hfld 1 _ rfl
  have t2 : DataW.trod enc Tryz.prog W 0 sp hd n 3 [c2] = some y2 := by simpa [Value.cells, k3, k4] using hfld 2 _ rfl
  have t3 : DataW.trod enc Tryz.prog W 0 sp hd n 3 [c3] = some y3 := by simpa [Value.cells, k3, k4] using hfld 3 _ rfl
  have t4 : DataW.trod enc Tryz.prog W 0 sp hd n 3 [c4] = some y4 := by simpa [Value.cells, k3, k4] using hfld 4 _ rfl
  have t5 : DataW.trod enc Tryz.prog W 0 sp hd n 3 [c5] = some y5 := by simpa [Value.cells, k3, k4] using hfld 5 _ rfl
  have t6 : DataW.trod enc Tryz.prog W 0 sp hd n 3 [c6] = some y6 := by simpa [Value.cells, k3, k4] using hfld 6 _ rfl
  obtain ⟨x0, e0, -⟩ := DataW.trod_bool Tryz.underlying4 t0
  obtain ⟨x1, e1, -, wf1⟩ := DataW.trod_int Tryz.underlying3 t1
  obtain ⟨x2, e2, -, wf2⟩ := DataW.trod_int Tryz.underlying3 t2
  obtain ⟨x3, e3, -, wf3⟩ := DataW.trod_int Tryz.underlying3 t3
  obtain ⟨x4, e4, -, wf4⟩ := DataW.trod_int Tryz.underlying3 t4
  obtain ⟨x5, e5, -, wf5⟩ := DataW.trod_int Tryz.underlying3 t5
  obtain ⟨x6, e6, -, wf6⟩ := DataW.trod_int Tryz.underlying3 t6
  simp only [List.cons.injEq, and_true] at e0 e1 e2 e3 e4 e5 e6
  subst e0; subst e1; subst e2; subst e3; subst e4; subst e5; subst e6
  exact ⟨⟨x0, x1, x2, x3, x4, x5, x6⟩, rfl⟩
end Go.Proofs.YtpjbgjgaigkbcaaGreat
