/- The settings' rules: what they say, and how they lie in a map; the program's small questions. -/
import Derived.Test.YtmpknmcgljpfkaaMa
import Derived.Test.YtmpknmcgljpfkaaFs
import Derived.Laws.EntriesVeiled
import Derived.Shelf.Abstract
import Derived.BigQuiet
import Derived.Deep.QuietTactic
namespace Go.Proofs.Ytmpknmcgljpfkaa
open Go.RowKit Go.Maps
set_option linter.unusedVariables false
set_option maxRecDepth 100000
set_option maxHeartbeats 4000000

section
variable {w : World} {ops : Array Oper} {rest : List Oper} {o : Oper} {a : Act} {Q : Exit → Act → World → Prop}
theorem wpList_look (hg : o.guard = none) (m x : Operand) (t : TypeId) (hop : o.op = Op.lookup t m x false) (e : TypeId) (ht : Try.prog.underlying t = some (.map 3 e)) (z : Value) (hz : ∀ w, (zeroValue e).run Try.prog w = .ok z w)
    (b n : Nat) (M : Int → Option Value) (hm : a.eval m = .map (some b)) (h : MapAt w b n M) (k : Int) (hx : a.eval x = .int .i64 k) (hk : IsI k) (v : Value) (hv : (M k).getD z = v)
    (hK : wpList Try.prog ops Q rest (a.put o.dst v) w) : wpList Try.prog ops Q (o :: rest) a w := by
  refine wpList_plain hg fun K' hK' => ?_
  have hrun := (h.look ht hz hk).1
  rw [hv] at hrun
  unfold Oper.wp
  simp [execOp, hop, hm, hx, hrun, Result.andThen]
  exact hK' _ _ hK
theorem wpList_look_ok (hg : o.guard = none) (m x : Operand) (t : TypeId) (hop : o.op = Op.lookup t m x true) (e : TypeId) (ht : Try.prog.underlying t = some (.map 3 e)) (z : Value) (hz : ∀ w, (zeroValue e).run Try.prog w = .ok z w)
    (b n : Nat) (M : Int → Option Value) (hm : a.eval m = .map (some b)) (h : MapAt w b n M) (k : Int) (hx : a.eval x = .int .i64 k) (hk : IsI k) (v : Value) (hv : (M k).getD z = v) (t2 : Bool) (ht2 : (M k).isSome = t2)
    (hK : wpList Try.prog ops Q rest (a.put o.dst (.tuple #[v, .bool t2])) w) : wpList Try.prog ops Q (o :: rest) a w := by
  refine wpList_plain hg fun K' hK' => ?_
  have hrun := (h.look ht hz hk).2
  rw [hv, ht2] at hrun
  unfold Oper.wp
  simp [execOp, hop, hm, hx, hrun, Result.andThen]
  exact hK' _ _ hK
theorem wpList_put (hg : o.guard = none) (m x u : Operand) (t : TypeId) (hop : o.op = Op.mapUpdate t m x u ∨ o.op = Op.insert t m x u) (e : TypeId) (ht : Try.prog.underlying t = some (.map 3 e))
    (b n : Nat) (M : Int → Option Value) (hm : a.eval m = .map (some b)) (h : MapAt w b n M) (hn : n < maxLen) (k : Int) (hx : a.eval x = .int .i64 k) (hk : IsI k) (v : Value) (hu : a.eval u = v)
    (hK : ∀ w', MapAt w' b (if (M k).isSome then n else n + 1) (putM M k v) → Fr (fun k => k = b) w w' → w'.heap.size = w.heap.size → wpList Try.prog ops Q rest (a.put o.dst undef) w') : wpList Try.prog ops Q (o :: rest) a w := by
  refine wpList_plain hg fun K' hK' => ?_
  obtain ⟨w', hrun, h1, h2, h3⟩ := h.put ht hn hk v
  unfold Oper.wp
  rcases hop with hop | hop
  · simp [execOp, hop, hm, hx, hu, hrun, Result.andThen]
    exact hK' _ _ (hK w' h1 h2 h3)
  · simp [execOp, hop, hm, hx, hu, hrun, Result.andThen]
    exact hK' _ _ (hK w' h1 h2 h3)
end

/-- A setting that counts. -/
def kn (id : Int) : Bool := decide (id = 1 ∨ id = 2 ∨ id = 3 ∨ id = 4 ∨ id = 5 ∨ id = 6 ∨ id = 8)
def firstV (id : Int) : Nat := if id = 1 then 4096 else if id = 2 then 1 else if id = 3 then 4294967295 else if id = 4 then 65535 else if id = 5 then 16384 else if id = 6 then 4294967295 else 0
def fitFn (id : Int) : Nat := if id = 2 then 35 else if id = 4 then 36 else if id = 5 then 37 else if id = 8 then 38 else 34
def badC (id : Int) : Int := if id = 2 then 1 else if id = 4 then 3 else if id = 5 then 1 else if id = 8 then 1 else 0
def fitsB (id : Int) (now next : Nat) : Bool := if id = 2 then decide (next ≤ 1) else if id = 4 then decide (next ≤ 2147483647) else if id = 5 then decide (16384 ≤ next) && decide (next ≤ 16777215) else if id = 8 then decide (next ≤ 1) && decide (now ≤ next) else true
/-- The code of a value that comes behind another. -/
def codeO (id : Int) (now next : Nat) : Int := if fitsB id now next then 0 else badC id
def ruleV (id : Int) : Value := .agg #[.int .u32 (firstV id : Nat), .func (.func (fitFn id)) #[] #[], .int .i64 (badC id)]
def rulesM (id : Int) : Option Value := if kn id then some (ruleV id) else none
def zeroRule : Value := .agg #[.int .u32 0, .nilFunc, .int .i64 0]
theorem zero_rule (w : World) : (zeroValue 65).run Try.prog w = .ok zeroRule w := by kernel_rfl
theorem zero_u32 (w : World) : (zeroValue 22).run Try.prog w = .ok (.int .u32 0) w := by kernel_rfl

theorem rules_all : putM (putM (putM (putM (putM (putM (putM (fun _ => none) 1 (ruleV 1)) 2 (ruleV 2)) 3 (ruleV 3)) 4 (ruleV 4)) 5 (ruleV 5)) 6 (ruleV 6)) 8 (ruleV 8) = rulesM := by
  funext j
  by_cases h8 : j = 8
  · subst h8; rfl
  by_cases h6 : j = 6
  · subst h6; rfl
  by_cases h5 : j = 5
  · subst h5; rfl
  by_cases h4 : j = 4
  · subst h4; rfl
  by_cases h3 : j = 3
  · subst h3; rfl
  by_cases h2 : j = 2
  · subst h2; rfl
  by_cases h1 : j = 1
  · subst h1; rfl
  have hk : kn j = false := by simp [kn]; omega
  simp [putM, rulesM, *]

theorem rules_in (w : World) : Calls Try.prog 24 #[] w fun e w' => e = .returned (.map (some w.heap.size)) ∧ MapAt w' w.heap.size 7 rulesM ∧ Fr (fun _ => False) w w' ∧ w'.heap.size = w.heap.size + 1 := by
  have hmm := @run_makeMap Try.prog
  have m0 := map_made w
  go_enter Try.func24, Try.ntmps24
  go_wp2_with (first
    | (refine wpList_put rfl (.tmp 1) (.const (.int .i64 1)) (.tmp 2) 67 (.inr rfl) 65 Try.underlying67 w.heap.size 0 (fun _ => none) rfl m0 (by unfold maxLen; omega) 1 rfl (by unfold IsI; omega) (ruleV 1) rfl ?_; intro w1 h1 f1 s1; have m1 := h1.mono (m := 1) (by split <;> omega); clear h1)
    | (refine wpList_put rfl (.tmp 1) (.const (.int .i64 2)) (.tmp 3) 67 (.inr rfl) 65 Try.underlying67 w.heap.size 1 (putM (fun _ => none) 1 (ruleV 1)) rfl m1 (by unfold maxLen; omega) 2 rfl (by unfold IsI; omega) (ruleV 2) rfl ?_; intro w2 h2 f2 s2; have m2 := h2.mono (m := 2) (by split <;> omega); clear h2)
    | (refine wpList_put rfl (.tmp 1) (.const (.int .i64 3)) (.tmp 4) 67 (.inr rfl) 65 Try.underlying67 w.heap.size 2 (putM (putM (fun _ => none) 1 (ruleV 1)) 2 (ruleV 2)) rfl m2 (by unfold maxLen; omega) 3 rfl (by unfold IsI; omega) (ruleV 3) rfl ?_; intro w3 h3 f3 s3; have m3 := h3.mono (m := 3) (by split <;> omega); clear h3)
    | (refine wpList_put rfl (.tmp 1) (.const (.int .i64 4)) (.tmp 5) 67 (.inr rfl) 65 Try.underlying67 w.heap.size 3 (putM (putM (putM (fun _ => none) 1 (ruleV 1)) 2 (ruleV 2)) 3 (ruleV 3)) rfl m3 (by unfold maxLen; omega) 4 rfl (by unfold IsI; omega) (ruleV 4) rfl ?_; intro w4 h4 f4 s4; have m4 := h4.mono (m := 4) (by split <;> omega); clear h4)
    | (refine wpList_put rfl (.tmp 1) (.const (.int .i64 5)) (.tmp 6) 67 (.inr rfl) 65 Try.underlying67 w.heap.size 4 (putM (putM (putM (putM (fun _ => none) 1 (ruleV 1)) 2 (ruleV 2)) 3 (ruleV 3)) 4 (ruleV 4)) rfl m4 (by unfold maxLen; omega) 5 rfl (by unfold IsI; omega) (ruleV 5) rfl ?_; intro w5 h5 f5 s5; have m5 := h5.mono (m := 5) (by split <;> omega); clear h5)
    | (refine wpList_put rfl (.tmp 1) (.const (.int .i64 6)) (.tmp 7) 67 (.inr rfl) 65 Try.underlying67 w.heap.size 5 (putM (putM (putM (putM (putM (fun _ => none) 1 (ruleV 1)) 2 (ruleV 2)) 3 (ruleV 3)) 4 (ruleV 4)) 5 (ruleV 5)) rfl m5 (by unfold maxLen; omega) 6 rfl (by unfold IsI; omega) (ruleV 6) rfl ?_; intro w6 h6 f6 s6; have m6 := h6.mono (m := 6) (by split <;> omega); clear h6)
    | (refine wpList_put rfl (.tmp 1) (.const (.int .i64 8)) (.tmp 8) 67 (.inr rfl) 65 Try.underlying67 w.heap.size 6 (putM (putM (putM (putM (putM (putM (fun _ => none) 1 (ruleV 1)) 2 (ruleV 2)) 3 (ruleV 3)) 4 (ruleV 4)) 5 (ruleV 5)) 6 (ruleV 6)) rfl m6 (by unfold maxLen; omega) 8 rfl (by unfold IsI; omega) (ruleV 8) rfl ?_; intro w7 h7 f7 s7; have m7 := h7.mono (m := 7) (by split <;> omega); clear h7))
  go_ret
  have hf := (((((f1.trans f2).trans f3).trans f4).trans f5).trans f6).trans f7
  have h0 : Fr (fun k => k = w.heap.size) w (w.alloc (.map #[] 0)) := (Fr.refl _ _).alloc _
  refine ⟨rfl, ?_, (h0.trans hf).mono (fun k hk e => by omega), by rw [s7, s6, s5, s4, s3, s2, s1]; simp⟩
  rw [rules_all] at m7
  exact m7
end Go.Proofs.Ytmpknmcgljpfkaa
