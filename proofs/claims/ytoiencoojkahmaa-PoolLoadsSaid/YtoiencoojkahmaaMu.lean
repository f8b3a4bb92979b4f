/- Maps keyed by ints: look-ups and stores as steps of a walk. -/
import Derived.Test.YtoiencoojkahmaaMa
import Derived.Test.YtoiencoojkahmaaMt
namespace Go.Proofs.Ytoiencoojkahmaa
open Go.RowKit Go.Maps
set_option linter.unusedVariables false
set_option maxRecDepth 100000
set_option maxHeartbeats 4000000

section
variable {w : World} {ops : Array Oper} {rest : List Oper} {o : Oper} {a : Act} {Q : Exit → Act → World → Prop}
theorem wpList_look (hg : o.guard = none) (m x : Operand) (t : TypeId) (hop : o.op = Op.lookup t m x false) (e : TypeId) (ht : Try.prog.underlying t = some (.map 3 e)) (z : Value) (hz : ∀ w, (zeroValue e).run Try.prog w = .ok z w)
    (b n : Nat) (M : Int → Option Value) (hm : a.eval m = .map (some b)) (h : MapAt w b n M) (k : Int) (hx : a.eval x = .int .i64 k) (hk : IsI k) (v : Value) (hv : (M k).getD z = v)
    (hK : wpList Try.prog ops Q rest (a.put o.dst v) w) : wpList Try.prog ops Q (o :: rest) a w := by
  refine wpList_plain hg fun K' hK' => ?_
  have hrun := (h.look ht hz hk).1
  rw [hv] at hrun
  unfold Oper.wp
  simp [execOp, hop, hm, hx, hrun, Result.andThen]
  exact hK' _ _ hK
theorem wpList_look_ok (hg : o.guard = none) (m x : Operand) (t : TypeId) (hop : o.op = Op.lookup t m x true) (e : TypeId) (ht : Try.prog.underlying t = some (.map 3 e)) (z : Value) (hz : ∀ w, (zeroValue e).run Try.prog w = .ok z w)
    (b n : Nat) (M : Int → Option Value) (hm : a.eval m = .map (some b)) (h : MapAt w b n M) (k : Int) (hx : a.eval x = .int .i64 k) (hk : IsI k) (v : Value) (hv : (M k).getD z = v) (t2 : Bool) (ht2 : (M k).isSome = t2)
    (hK : wpList Try.prog ops Q rest (a.put o.dst (.tuple #[v, .bool t2])) w) : wpList Try.prog ops Q (o :: rest) a w := by
  refine wpList_plain hg fun K' hK' => ?_
  have hrun := (h.look ht hz hk).2
  rw [hv, ht2] at hrun
  unfold Oper.wp
  simp [execOp, hop, hm, hx, hrun, Result.andThen]
  exact hK' _ _ hK
theorem wpList_put (hg : o.guard = none) (m x u : Operand) (t : TypeId) (hop : o.op = Op.mapUpdate t m x u ∨ o.op = Op.insert t m x u) (e : TypeId) (ht : Try.prog.underlying t = some (.map 3 e))
    (b n : Nat) (M : Int → Option Value) (hm : a.eval m = .map (some b)) (h : MapAt w b n M) (hn : n < maxLen) (k : Int) (hx : a.eval x = .int .i64 k) (hk : IsI k) (v : Value) (hu : a.eval u = v)
    (hK : ∀ w', MapAt w' b (if (M k).isSome then n else n + 1) (putM M k v) → Fr (fun k => k = b) w w' → w'.heap.size = w.heap.size → wpList Try.prog ops Q rest (a.put o.dst undef) w') : wpList Try.prog ops Q (o :: rest) a w := by
  refine wpList_plain hg fun K' hK' => ?_
  obtain ⟨w', hrun, h1, h2, h3⟩ := h.put ht hn hk v
  unfold Oper.wp
  rcases hop with hop | hop
  · simp [execOp, hop, hm, hx, hu, hrun, Result.andThen]
    exact hK' _ _ (hK w' h1 h2 h3)
  · simp [execOp, hop, hm, hx, hu, hrun, Result.andThen]
    exact hK' _ _ (hK w' h1 h2 h3)
end
end Go.Proofs.Ytoiencoojkahmaa
