/- Maps in memory, keyed by texts: what a map holds as a function of its keys; look-ups and stores. -/
import Derived.Test.YtplggcfoadjffaaGreatDoorOe
import Derived.Maps.Ext
import Derived.Maps.RangeWalk
import Derived.Maps.OwnSet
import Derived.Maps.OwnOps
import Derived.StringKeys
namespace Go.Proofs.YtplggcfoadjffaaGreatDoor
open Go.RowKit Go.Maps
set_option linter.unusedVariables false
set_option maxRecDepth 100000
set_option maxHeartbeats 4000000

theorem keyS : Keyed Tryz.prog 9 := string_keyed Tryz.underlying9
/-- An element is read as it is. -/
def Raw (v : Value) : Option (DataW Value × List MemPlace) := some (.held v, [])
theorem isS_key (k : List UInt8) : WideAt.IsKeyLit (.string k) := trivial

/-- Block b is a map that holds M's elements (at ints), at most n. -/
def SMap (w : World) (b n : Nat) (M : List UInt8 → Option Value) : Prop :=
  ∃ D : DataW Value, w.ownsMap Tryz.prog 9 Raw b n D ∧ ∀ k : List UInt8, (∀ v, M k = some v → ∀ z, D.atKey (.string k) z = .held v) ∧ Maps.has D (.string k) = (M k).isSome
theorem SMap.lt {w : World} {b n : Nat} {M : List UInt8 → Option Value} (h : SMap w b n M) : b < w.heap.size := by
  obtain ⟨D, h, -⟩ := h; exact h.lt
theorem SMap.at_block {w w' : World} {b n : Nat} {M : List UInt8 → Option Value} (h : SMap w b n M) (e : w'.heap[b]? = w.heap[b]?) : SMap w' b n M := by
  obtain ⟨D, ⟨es, clock, hb, F, hs, hD⟩, hM⟩ := h
  exact ⟨D, ⟨es, clock, e.trans hb, F, hs, hD⟩, hM⟩
theorem SMap.fr {S : Nat → Prop} {w w' : World} {b n : Nat} {M : List UInt8 → Option Value} (h : SMap w b n M) (hf : Fr S w w') (hs : ¬ S b) : SMap w' b n M := h.at_block (hf.block b h.lt hs)
theorem SMap.mono {w : World} {b n m : Nat} {M : List UInt8 → Option Value} (h : SMap w b n M) (hn : n ≤ m) : SMap w b m M := by
  obtain ⟨D, h, hM⟩ := h; exact ⟨D, h.mono hn, hM⟩
/-- Where something that is no map lies there is no map. -/
theorem SMap.ne {w : World} {b n g : Nat} {M : List UInt8 → Option Value} {cs : Array Value} {t : TypeId} {fr : Nat × Nat} (h : SMap w b n M) (hg : w.heap[g]? = some (.cells cs t fr)) : b ≠ g := by
  rintro rfl
  obtain ⟨D, ⟨es, clock, hb, -⟩, -⟩ := h
  rw [hb] at hg
  cases hg
theorem smap_made (w : World) : SMap (w.alloc (.map #[] 0)) w.heap.size 0 (fun _ => none) :=
  ⟨.map [], World.ownsMap_made _ _ _ _, fun k => ⟨fun v h => (by cases h), rfl⟩⟩
theorem grown_fr {w w' : World} {b : Nat} (h : w.grownBy w' (some b)) : Fr (fun k => k = b) w w' :=
  ⟨h.os, h.tape, h.output, h.size, fun k hk hs => h.block k hk (fun e => hs (Option.some.inj e))⟩
theorem grown_fr0 {w w' : World} (h : w.grownBy w' none) : Fr (fun _ => False) w w' :=
  ⟨h.os, h.tape, h.output, h.size, fun k hk hs => h.block k hk (by simp)⟩

theorem SMap.look {w : World} {b n : Nat} {M : List UInt8 → Option Value} (h : SMap w b n M) {t e : TypeId} (ht : Tryz.prog.underlying t = some (.map 9 e)) {z : Value} (hz : ∀ w, (zeroValue e).run Tryz.prog w = .ok z w) {s : ByteArray} (hk : s.size ≤ maxLen) :
    (Instr.lookup t (.map (some b)) (.string s) false).run Tryz.prog w = .ok ((M (tx s)).getD z) w ∧ (Instr.lookup t (.map (some b)) (.string s) true).run Tryz.prog w = .ok (.tuple #[(M (tx s)).getD z, .bool (M (tx s)).isSome]) w := by
  obtain ⟨D, ⟨es, clock, hb, F, hs, rfl⟩, hM⟩ := h
  obtain ⟨h1, h2⟩ := hM (tx s)
  have hkey := (show _ = some (Lit.string (tx s)) from Go.WideMaps.keyOf_string_mk Tryz.underlying9 hk)
  constructor
  · rcases Maps.fit_look false keyS ht (hz w) hb F hkey with ⟨hrun, _, hat⟩ | ⟨e0, y, _, _, hrun, hRv, hat, _⟩
    · rw [has_false_of_atKey hat] at h2
      cases hMk : M (tx s) with
      | none => simpa using hrun
      | some v => rw [hMk] at h2; cases h2
    · have h3 : Maps.has _ _ = true := has_true_of_atKey hat
      rw [h3] at h2
      cases hMk : M (tx s) with
      | none => rw [hMk] at h2; cases h2
      | some v =>
        have e1 := h1 v hMk (.held v)
        rw [hat] at e1
        unfold Raw at hRv
        simp at hRv
        rw [← hRv] at e1
        simp at e1
        subst e1
        simpa using hrun
  · rcases Maps.fit_look true keyS ht (hz w) hb F hkey with ⟨hrun, _, hat⟩ | ⟨e0, y, _, _, hrun, hRv, hat, _⟩
    · rw [has_false_of_atKey hat] at h2
      cases hMk : M (tx s) with
      | none => simpa using hrun
      | some v => rw [hMk] at h2; cases h2
    · have h3 : Maps.has _ _ = true := has_true_of_atKey hat
      rw [h3] at h2
      cases hMk : M (tx s) with
      | none => rw [hMk] at h2; cases h2
      | some v =>
        have e1 := h1 v hMk (.held v)
        rw [hat] at e1
        unfold Raw at hRv
        simp at hRv
        rw [← hRv] at e1
        simp at e1
        subst e1
        simpa using hrun

/-- M with v at k. -/
def putS (M : List UInt8 → Option Value) (k : List UInt8) (v : Value) : List UInt8 → Option Value := fun j => if j = k then some v else M j
theorem SMap.put {w : World} {b n : Nat} {M : List UInt8 → Option Value} (h : SMap w b n M) {t e : TypeId} (ht : Tryz.prog.underlying t = some (.map 9 e)) (hn : n < maxLen) {s : ByteArray} (hk : s.size ≤ maxLen) (v : Value) :
    ∃ w', (Instr.mapUpdate t (.map (some b)) (.string s) v).run Tryz.prog w = .ok () w' ∧ SMap w' b (if (M (tx s)).isSome then n else n + 1) (putS M (tx s) v) ∧ Fr (fun k => k = b) w w' ∧ w'.heap.size = w.heap.size := by
  obtain ⟨D, h, hM⟩ := h
  have hkey := (show _ = some (Lit.string (tx s)) from Go.WideMaps.keyOf_string_mk Tryz.underlying9 hk)
  have hty := h.tidy keyS
  have hsz := h.size_le
  obtain ⟨w', hrun, h', hg⟩ := h.store keyS ht hn hkey (show Raw v = some (.held v, []) from rfl)
  have hput := size_put (k := .string (tx s)) hty (.held v)
  rw [(hM (tx s)).2] at hput
  refine ⟨w', hrun, ⟨D.put (.string (tx s)) (.held v), ?_, fun j => ?_⟩, grown_fr hg.grown, ?_⟩
  · obtain ⟨es, clock, hb, F, hs, hD⟩ := h'
    refine ⟨es, clock, hb, F, ?_, hD⟩
    have e1 : Maps.size (D.put (.string (tx s)) (.held v)) = es.size := by rw [hD]; exact length_read es
    rw [← e1, hput]
    split <;> omega
  · by_cases hj : j = tx s
    · subst hj
      refine ⟨fun u hu z => ?_, ?_⟩
      · simp [putS] at hu
        subst hu
        exact atKey_put_same hty.isMap (isS_key _) _ _
      · rw [has_put_same hty.isMap (isS_key _)]
        simp [putS]
    · have hne : (Lit.string j) ≠ .string (tx s) := by simpa using hj
      have e2 : putS M (tx s) v j = M j := by simp [putS, hj]
      rw [e2, has_put_other hne]
      exact ⟨fun u hu z => by rw [atKey_put_other hne]; exact (hM j).1 u hu z, (hM j).2⟩
  · obtain ⟨es, clock, es', clock', hb, rfl⟩ := hg
    simp [Go.ChangeMaps.setBlock]
section
variable {w : World} {ops : Array Oper} {rest : List Oper} {o : Oper} {a : Act} {Q : Exit → Act → World → Prop}
theorem wpList_slook (hg : o.guard = none) (m x : Operand) (t : TypeId) (hop : o.op = Op.lookup t m x false) (e : TypeId) (ht : Tryz.prog.underlying t = some (.map 9 e)) (z : Value) (hz : ∀ w, (zeroValue e).run Tryz.prog w = .ok z w)
    (b n : Nat) (M : List UInt8 → Option Value) (hm : a.eval m = .map (some b)) (h : SMap w b n M) (s : ByteArray) (hx : a.eval x = .string s) (hk : s.size ≤ maxLen) (v : Value) (hv : (M (tx s)).getD z = v)
    (hK : wpList Tryz.prog ops Q rest (a.put o.dst v) w) : wpList Tryz.prog ops Q (o :: rest) a w := by
  refine wpList_plain hg fun K' hK' => ?_
  have hrun := (h.look ht hz hk).1
  rw [hv] at hrun
  unfold Oper.wp
  simp [execOp, hop, hm, hx, hrun, Result.andThen]
  exact hK' _ _ hK
theorem wpList_slook_ok (hg : o.guard = none) (m x : Operand) (t : TypeId) (hop : o.op = Op.lookup t m x true) (e : TypeId) (ht : Tryz.prog.underlying t = some (.map 9 e)) (z : Value) (hz : ∀ w, (zeroValue e).run Tryz.prog w = .ok z w)
    (b n : Nat) (M : List UInt8 → Option Value) (hm : a.eval m = .map (some b)) (h : SMap w b n M) (s : ByteArray) (hx : a.eval x = .string s) (hk : s.size ≤ maxLen) (v : Value) (hv : (M (tx s)).getD z = v) (t2 : Bool) (ht2 : (M (tx s)).isSome = t2)
    (hK : wpList Tryz.prog ops Q rest (a.put o.dst (.tuple #[v, .bool t2])) w) : wpList Tryz.prog ops Q (o :: rest) a w := by
  refine wpList_plain hg fun K' hK' => ?_
  have hrun := (h.look ht hz hk).2
  rw [hv, ht2] at hrun
  unfold Oper.wp
  simp [execOp, hop, hm, hx, hrun, Result.andThen]
  exact hK' _ _ hK
theorem wpList_sput (hg : o.guard = none) (m x u : Operand) (t : TypeId) (hop : o.op = Op.mapUpdate t m x u ∨ o.op = Op.insert t m x u) (e : TypeId) (ht : Tryz.prog.underlying t = some (.map 9 e))
    (b n : Nat) (M : List UInt8 → Option Value) (hm : a.eval m = .map (some b)) (h : SMap w b n M) (hn : n < maxLen) (s : ByteArray) (hx : a.eval x = .string s) (hk : s.size ≤ maxLen) (v : Value) (hu : a.eval u = v)
    (hK : ∀ w', SMap w' b (if (M (tx s)).isSome then n else n + 1) (putS M (tx s) v) → Fr (fun k => k = b) w w' → w'.heap.size = w.heap.size → wpList Tryz.prog ops Q rest (a.put o.dst undef) w') : wpList Tryz.prog ops Q (o :: rest) a w := by
  refine wpList_plain hg fun K' hK' => ?_
  obtain ⟨w', hrun, h1, h2, h3⟩ := h.put ht hn hk v
  unfold Oper.wp
  rcases hop with hop | hop
  · simp [execOp, hop, hm, hx, hu, hrun, Result.andThen]
    exact hK' _ _ (hK w' h1 h2 h3)
  · simp [execOp, hop, hm, hx, hu, hrun, Result.andThen]
    exact hK' _ _ (hK w' h1 h2 h3)
end
end Go.Proofs.YtplggcfoadjffaaGreatDoor
