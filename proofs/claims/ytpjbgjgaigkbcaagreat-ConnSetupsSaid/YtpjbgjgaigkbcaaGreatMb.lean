/- The settings' rules: what they say, and how they lie in a map; the program's small questions. -/
import Derived.Test.YtpjbgjgaigkbcaaGreatMa
import Derived.Test.YtpjbgjgaigkbcaaGreatMu
import Derived.Test.YtpjbgjgaigkbcaaGreatFs
import Derived.Laws.EntriesVeiled
import Derived.Shelf.Abstract
import Derived.BigQuiet
import Derived.Deep.QuietTactic
namespace Go.Proofs.YtpjbgjgaigkbcaaGreat
open Go.RowKit Go.Maps
set_option linter.unusedVariables false
set_option maxRecDepth 100000
set_option maxHeartbeats 4000000


/-- A setting that counts. -/
def kn (id : Int) : Bool := decide (id = 1 ∨ id = 2 ∨ id = 3 ∨ id = 4 ∨ id = 5 ∨ id = 6 ∨ id = 8)
def firstV (id : Int) : Nat := if id = 1 then 4096 else if id = 2 then 1 else if id = 3 then 4294967295 else if id = 4 then 65535 else if id = 5 then 16384 else if id = 6 then 4294967295 else 0
def fitFn (id : Int) : Nat := if id = 2 then 53 else if id = 4 then 54 else if id = 5 then 55 else if id = 8 then 56 else 52
def badC (id : Int) : Int := if id = 2 then 1 else if id = 4 then 3 else if id = 5 then 1 else if id = 8 then 1 else 0
def fitsB (id : Int) (now next : Nat) : Bool := if id = 2 then decide (next ≤ 1) else if id = 4 then decide (next ≤ 2147483647) else if id = 5 then decide (16384 ≤ next) && decide (next ≤ 16777215) else if id = 8 then decide (next ≤ 1) && decide (now ≤ next) else true
/-- The code of a value that comes behind another. -/
def codeO (id : Int) (now next : Nat) : Int := if fitsB id now next then 0 else badC id
def ruleV (id : Int) : Value := .agg #[.int .u32 (firstV id : Nat), .func (.func (fitFn id)) #[] #[], .int .i64 (badC id)]
def rulesM (id : Int) : Option Value := if kn id then some (ruleV id) else none
def zeroRule : Value := .agg #[.int .u32 0, .nilFunc, .int .i64 0]
theorem zero_rule (w : World) : (zeroValue 131).run Tryz.prog w = .ok zeroRule w := by kernel_rfl
theorem zero_u32 (w : World) : (zeroValue 64).run Tryz.prog w = .ok (.int .u32 0) w := by kernel_rfl

theorem rules_all : putM (putM (putM (putM (putM (putM (putM (fun _ => none) 1 (ruleV 1)) 2 (ruleV 2)) 3 (ruleV 3)) 4 (ruleV 4)) 5 (ruleV 5)) 6 (ruleV 6)) 8 (ruleV 8) = rulesM := by
  funext j
  by_cases h8 : j = 8
  · subst h8; rfl
  by_cases h6 : j = 6
  · subst h6; rfl
  by_cases h5 : j = 5
  · subst h5; rfl
  by_cases h4 : j = 4
  · subst h4; rfl
  by_cases h3 : j = 3
  · subst h3; rfl
  by_cases h2 : j = 2
  · subst h2; rfl
  by_cases h1 : j = 1
  · subst h1; rfl
  have hk : kn j = false := by simp [kn]; omega
  simp [putM, rulesM, *]

theorem rules_in (w : World) : Calls Tryz.prog 41 #[] w fun e w' => e = .returned (.map (some w.heap.size)) ∧ MapAt w' w.heap.size 7 rulesM ∧ Fr (fun _ => False) w w' ∧ w'.heap.size = w.heap.size + 1 := by
  have hmm := @run_makeMap Tryz.prog
  have m0 := map_made w
  go_enter Tryz.func41, Tryz.ntmps41
  go_wp2_with (first
    | (refine wpList_put rfl (.tmp 1) (.const (.int .i64 1)) (.tmp 2) 127 (.inr rfl) 131 Tryz.underlying127 w.heap.size 0 (fun _ => none) rfl m0 (by unfold maxLen; omega) 1 rfl (by unfold IsI; omega) (ruleV 1) rfl ?_; intro w1 h1 f1 s1; have m1 := h1.mono (m := 1) (by split <;> omega); clear h1)
    | (refine wpList_put rfl (.tmp 1) (.const (.int .i64 2)) (.tmp 3) 127 (.inr rfl) 131 Tryz.underlying127 w.heap.size 1 (putM (fun _ => none) 1 (ruleV 1)) rfl m1 (by unfold maxLen; omega) 2 rfl (by unfold IsI; omega) (ruleV 2) rfl ?_; intro w2 h2 f2 s2; have m2 := h2.mono (m := 2) (by split <;> omega); clear h2)
    | (refine wpList_put rfl (.tmp 1) (.const (.int .i64 3)) (.tmp 4) 127 (.inr rfl) 131 Tryz.underlying127 w.heap.size 2 (putM (putM (fun _ => none) 1 (ruleV 1)) 2 (ruleV 2)) rfl m2 (by unfold maxLen; omega) 3 rfl (by unfold IsI; omega) (ruleV 3) rfl ?_; intro w3 h3 f3 s3; have m3 := h3.mono (m := 3) (by split <;> omega); clear h3)
    | (refine wpList_put rfl (.tmp 1) (.const (.int .i64 4)) (.tmp 5) 127 (.inr rfl) 131 Tryz.underlying127 w.heap.size 3 (putM (putM (putM (fun _ => none) 1 (ruleV 1)) 2 (ruleV 2)) 3 (ruleV 3)) rfl m3 (by unfold maxLen; omega) 4 rfl (by unfold IsI; omega) (ruleV 4) rfl ?_; intro w4 h4 f4 s4; have m4 := h4.mono (m := 4) (by split <;> omega); clear h4)
    | (refine wpList_put rfl (.tmp 1) (.const (.int .i64 5)) (.tmp 6) 127 (.inr rfl) 131 Tryz.underlying127 w.heap.size 4 (putM (putM (putM (putM (fun _ => none) 1 (ruleV 1)) 2 (ruleV 2)) 3 (ruleV 3)) 4 (ruleV 4)) rfl m4 (by unfold maxLen; omega) 5 rfl (by unfold IsI; omega) (ruleV 5) rfl ?_; intro w5 h5 f5 s5; have m5 := h5.mono (m := 5) (by split <;> omega); clear h5)
    | (refine wpList_put rfl (.tmp 1) (.const (.int .i64 6)) (.tmp 7) 127 (.inr rfl) 131 Tryz.underlying127 w.heap.size 5 (putM (putM (putM (putM (putM (fun _ => none) 1 (ruleV 1)) 2 (ruleV 2)) 3 (ruleV 3)) 4 (ruleV 4)) 5 (ruleV 5)) rfl m5 (by unfold maxLen; omega) 6 rfl (by unfold IsI; omega) (ruleV 6) rfl ?_; intro w6 h6 f6 s6; have m6 := h6.mono (m := 6) (by split <;> omega); clear h6)
    | (refine wpList_put rfl (.tmp 1) (.const (.int .i64 8)) (.tmp 8) 127 (.inr rfl) 131 Tryz.underlying127 w.heap.size 6 (putM (putM (putM (putM (putM (putM (fun _ => none) 1 (ruleV 1)) 2 (ruleV 2)) 3 (ruleV 3)) 4 (ruleV 4)) 5 (ruleV 5)) 6 (ruleV 6)) rfl m6 (by unfold maxLen; omega) 8 rfl (by unfold IsI; omega) (ruleV 8) rfl ?_; intro w7 h7 f7 s7; have m7 := h7.mono (m := 7) (by split <;> omega); clear h7))
  go_ret
  have hf := (((((f1.trans f2).trans f3).trans f4).trans f5).trans f6).trans f7
  have h0 : Fr (fun k => k = w.heap.size) w (w.alloc (.map #[] 0)) := (Fr.refl _ _).alloc _
  refine ⟨rfl, ?_, (h0.trans hf).mono (fun k hk e => by omega), by rw [s7, s6, s5, s4, s3, s2, s1]; simp⟩
  rw [rules_all] at m7
  exact m7
end Go.Proofs.YtpjbgjgaigkbcaaGreat
