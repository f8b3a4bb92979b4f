/- Contracts of the settings' small functions: the rules' functions, check, made, fault, window, Get, firsts, New. -/
import Derived.Test.YtpjbgjgaigkbcaaGreatMb
namespace Go.Proofs.YtpjbgjgaigkbcaaGreat
open Go.RowKit Go.Maps
set_option linter.unusedVariables false
set_option maxRecDepth 100000
set_option maxHeartbeats 4000000

theorem anyFits_in (now next : Nat) (w : World) : Calls Tryz.prog 52 #[.int .u32 (now : Int), .int .u32 (next : Int)] w fun e w' => e = .returned (.bool true) ∧ w = w' := by
  go_enter Tryz.func52, Tryz.ntmps52
  go_wp2_with (fail)
  go_ret
  exact ⟨rfl, rfl⟩
theorem flagFits_in (now next : Nat) (w : World) : Calls Tryz.prog 53 #[.int .u32 (now : Int), .int .u32 (next : Int)] w fun e w' => e = .returned (.bool (decide (next ≤ 1))) ∧ w = w' := by
  by_cases h : next ≤ 1
  · have h2 : (next : Int) ≤ 1 := by omega
    rw [decide_eq_true h]
    go_enter Tryz.func53, Tryz.ntmps53
    go_wp2_with (fail)
    go_ret
    exact ⟨by simp, rfl⟩
  · have h2 : ¬ (next : Int) ≤ 1 := by omega
    rw [decide_eq_false h]
    go_enter Tryz.func53, Tryz.ntmps53
    go_wp2_with (fail)
    go_ret
    exact ⟨by simp, rfl⟩
theorem windowFits_in (now next : Nat) (w : World) : Calls Tryz.prog 54 #[.int .u32 (now : Int), .int .u32 (next : Int)] w fun e w' => e = .returned (.bool (decide (next ≤ 2147483647))) ∧ w = w' := by
  by_cases h : next ≤ 2147483647
  · rw [decide_eq_true h]
    go_enter Tryz.func54, Tryz.ntmps54
    go_wp2_with (fail)
    go_ret
    exact ⟨by simp; omega, rfl⟩
  · rw [decide_eq_false h]
    go_enter Tryz.func54, Tryz.ntmps54
    go_wp2_with (fail)
    go_ret
    exact ⟨by simp; omega, rfl⟩
theorem frameFits_in (now next : Nat) (w : World) : Calls Tryz.prog 55 #[.int .u32 (now : Int), .int .u32 (next : Int)] w fun e w' => e = .returned (.bool (decide (16384 ≤ next) && decide (next ≤ 16777215))) ∧ w = w' := by
  by_cases h0 : 16384 ≤ next
  · by_cases h : next ≤ 16777215
    · go_enter Tryz.func55, Tryz.ntmps55
      go_wp2_with (fail)
      go_ret
      exact ⟨by simp [h, h0]; omega, rfl⟩
    · go_enter Tryz.func55, Tryz.ntmps55
      go_wp2_with (fail)
      go_ret
      exact ⟨by simp [h, h0]; omega, rfl⟩
  · go_enter Tryz.func55, Tryz.ntmps55
    go_wp2_with (fail)
    go_ret
    exact ⟨by simp, rfl⟩
theorem lastingFits_in (now next : Nat) (w : World) : Calls Tryz.prog 56 #[.int .u32 (now : Int), .int .u32 (next : Int)] w fun e w' => e = .returned (.bool (decide (next ≤ 1) && decide (now ≤ next))) ∧ w = w' := by
  have K := flagFits_in now next w
  by_cases h0 : next ≤ 1
  · rw [decide_eq_true h0] at K ⊢
    by_cases h : now ≤ next
    · go_enter Tryz.func56, Tryz.ntmps56
      go_wp2_with (go_at_call 53; refine K.mono ?_; clear K; rintro e w' ⟨rfl, rfl⟩)
      go_ret
      exact ⟨by simp [h], rfl⟩
    · go_enter Tryz.func56, Tryz.ntmps56
      go_wp2_with (go_at_call 53; refine K.mono ?_; clear K; rintro e w' ⟨rfl, rfl⟩)
      go_ret
      exact ⟨by simp [h], rfl⟩
  · rw [decide_eq_false h0] at K ⊢
    go_enter Tryz.func56, Tryz.ntmps56
    go_wp2_with (go_at_call 53; refine K.mono ?_; clear K; rintro e w' ⟨rfl, rfl⟩)
    go_ret
    exact ⟨by simp, rfl⟩
theorem kn_cases {id : Int} (h : kn id = true) : id = 1 ∨ id = 2 ∨ id = 3 ∨ id = 4 ∨ id = 5 ∨ id = 6 ∨ id = 8 := by simpa [kn] using h
theorem fit_in (id : Int) (now next : Nat) (w : World) (hk : kn id = true) : Calls Tryz.prog (fitFn id) #[.int .u32 (now : Int), .int .u32 (next : Int)] w fun e w' => e = .returned (.bool (fitsB id now next)) ∧ w = w' := by
  rcases kn_cases hk with rfl | rfl | rfl | rfl | rfl | rfl | rfl
  · exact anyFits_in now next w
  · exact flagFits_in now next w
  · exact anyFits_in now next w
  · exact windowFits_in now next w
  · exact frameFits_in now next w
  · exact anyFits_in now next w
  · exact lastingFits_in now next w
theorem enters_fit (id : Int) (hk : kn id = true) (args : Array Value) (w : World) : Sem.run Tryz.prog (callFunc (fitFn id) args) w = .ok (.enter (fitFn id) args) w := by
  rcases kn_cases hk with rfl | rfl | rfl | rfl | rfl | rfl | rfl
  · exact enters_of (f := 52) Tryz.func52 (by kernel_rfl) rfl args w
  · exact enters_of (f := 53) Tryz.func53 (by kernel_rfl) rfl args w
  · exact enters_of (f := 52) Tryz.func52 (by kernel_rfl) rfl args w
  · exact enters_of (f := 54) Tryz.func54 (by kernel_rfl) rfl args w
  · exact enters_of (f := 55) Tryz.func55 (by kernel_rfl) rfl args w
  · exact enters_of (f := 52) Tryz.func52 (by kernel_rfl) rfl args w
  · exact enters_of (f := 56) Tryz.func56 (by kernel_rfl) rfl args w
/-- Settings of the program's in memory: their map, and their offers. -/
def SetC (w : World) (g b : Nat) (v : Value) : Prop := w.heap[g]? = some (.cells #[.map (some b), v] 77 (0, 0))
theorem scells {w : World} {g b : Nat} {v : Value} (h : SetC w g b v) : w.cell? ⟨g, 0, none⟩ = some (.map (some b)) ∧ w.cell? ⟨g, 1, none⟩ = some v := ⟨cell_of_heap h rfl, cell_of_heap h rfl⟩
theorem SetC.lt {w : World} {g b : Nat} {v : Value} (h : SetC w g b v) : g < w.heap.size := lt_of_heap h
theorem SetC.fr {S : Nat → Prop} {w w' : World} {g b : Nat} {v : Value} (h : SetC w g b v) (hf : Fr S w w') (hs : ¬ S g) : SetC w' g b v := (hf.block g h.lt hs).trans h
def ZeroC (w : World) (g : Nat) : Prop := w.heap[g]? = some (.cells #[.map none, .slice none 0 0] 77 (0, 0))

theorem neq_some (bm : Nat) (w : World) : (binOp .neq 71 (.map (some bm)) (.map none)).run Tryz.prog w = .ok (.bool true) w := by kernel_rfl
theorem neq_none (w : World) : (binOp .neq 71 (.map none) (.map none)).run Tryz.prog w = .ok (.bool false) w := by kernel_rfl
theorem smade_in (g b : Nat) (v : Value) (w : World) (h : SetC w g b v) : Calls Tryz.prog 34 #[.pointer (some ⟨g, 0, none⟩)] w fun e w' => e = .returned (.bool true) ∧ w = w' := by
  obtain ⟨c0, c1⟩ := scells h
  have hne := neq_some
  go_enter Tryz.func34, Tryz.ntmps34
  go_wp2_with (fail)
  go_ret
  exact ⟨rfl, rfl⟩
theorem smade_zero (g : Nat) (w : World) (h : ZeroC w g) : Calls Tryz.prog 34 #[.pointer (some ⟨g, 0, none⟩)] w fun e w' => e = .returned (.bool false) ∧ w = w' := by
  have c0 : w.cell? ⟨g, 0, none⟩ = some (.map none) := cell_of_heap h rfl
  have hne := neq_none
  go_enter Tryz.func34, Tryz.ntmps34
  go_wp2_with (fail)
  go_ret
  exact ⟨rfl, rfl⟩
theorem smade_nil (w : World) : Calls Tryz.prog 34 #[.pointer none] w fun e w' => e = .returned (.bool false) ∧ w = w' := by
  go_enter Tryz.func34, Tryz.ntmps34
  go_wp2_with (fail)
  go_ret
  exact ⟨rfl, rfl⟩

/-- What the map holds where the values are V. -/
def valsM (V : Int → Nat) (id : Int) : Option Value := if kn id then some (.int .u32 (V id : Nat)) else none
def getV (V : Int → Nat) (id : Int) : Nat := if kn id then V id else 0
theorem vals_get (V : Int → Nat) (id : Int) : (valsM V id).getD (.int .u32 0) = .int .u32 (getV V id : Nat) := by
  unfold valsM getV; split <;> rfl
theorem sGet_in (g b : Nat) (v : Value) (V : Int → Nat) (id : Int) (w : World) (h : SetC w g b v) (hm : MapAt w b 7 (valsM V)) (hi : IsI id) :
    Calls Tryz.prog 26 #[.pointer (some ⟨g, 0, none⟩), .int .i64 id] w fun e w' => e = .returned (.int .u32 (getV V id : Nat)) ∧ w = w' := by
  obtain ⟨c0, c1⟩ := scells h
  have KM := smade_in g b v w h
  obtain ⟨x, hx⟩ : ∃ x, getV V id = x := ⟨_, rfl⟩
  have hl := (hm.look Tryz.underlying71 zero_u32 hi).1
  rw [vals_get, hx] at hl
  rw [hx]
  clear hx
  go_enter Tryz.func26, Tryz.ntmps26
  go_wp2_with (go_at_call 34; refine KM.mono ?_; clear KM; rintro e w' ⟨rfl, rfl⟩)
  go_ret
  exact ⟨rfl, rfl⟩
theorem sGet_nil (id : Int) (w : World) : Calls Tryz.prog 26 #[.pointer none, .int .i64 id] w fun e w' => e = .returned (.int .u32 0) ∧ w = w' := by
  have KM := smade_nil w
  go_enter Tryz.func26, Tryz.ntmps26
  go_wp2_with (go_at_call 34; refine KM.mono ?_; clear KM; rintro e w' ⟨rfl, rfl⟩)
  go_ret
  exact ⟨rfl, rfl⟩
end Go.Proofs.YtpjbgjgaigkbcaaGreat
