/- Maps in memory, keyed by ints: what a map holds as a function of its keys; look-ups, stores, ranging. -/
import Derived.Test.YtoiencoojkahmaaRows
import Derived.Test.YtoiencoojkahmaaB1
import Derived.Test.YtoiencoojkahmaaIx
import Derived.Maps.Ext
import Derived.Maps.RangeWalk
import Derived.Maps.OwnSet
import Derived.Maps.OwnOps
namespace Go.Proofs.Ytoiencoojkahmaa
open Go.RowKit Go.Maps
set_option linter.unusedVariables false

theorem keyI : Keyed Try.prog 3 := int_keyed Try.underlying3
/-- An element is read as it is. -/
def Raw (v : Value) : Option (DataW Value × List MemPlace) := some (.held v, [])
theorem isI_key (k : Int) : WideAt.IsKeyLit (.int .i64 k) := trivial

/-- Block b is a map that holds M's elements (at ints), at most n. -/
def MapAt (w : World) (b n : Nat) (M : Int → Option Value) : Prop :=
  ∃ D : DataW Value, w.ownsMap Try.prog 3 Raw b n D ∧ ∀ k : Int, (∀ v, M k = some v → ∀ z, D.atKey (.int .i64 k) z = .held v) ∧ Maps.has D (.int .i64 k) = (M k).isSome
theorem MapAt.lt {w : World} {b n : Nat} {M : Int → Option Value} (h : MapAt w b n M) : b < w.heap.size := by
  obtain ⟨D, h, -⟩ := h; exact h.lt
theorem MapAt.at_block {w w' : World} {b n : Nat} {M : Int → Option Value} (h : MapAt w b n M) (e : w'.heap[b]? = w.heap[b]?) : MapAt w' b n M := by
  obtain ⟨D, ⟨es, clock, hb, F, hs, hD⟩, hM⟩ := h
  exact ⟨D, ⟨es, clock, e.trans hb, F, hs, hD⟩, hM⟩
theorem MapAt.fr {S : Nat → Prop} {w w' : World} {b n : Nat} {M : Int → Option Value} (h : MapAt w b n M) (hf : Fr S w w') (hs : ¬ S b) : MapAt w' b n M := h.at_block (hf.block b h.lt hs)
theorem MapAt.mono {w : World} {b n m : Nat} {M : Int → Option Value} (h : MapAt w b n M) (hn : n ≤ m) : MapAt w b m M := by
  obtain ⟨D, h, hM⟩ := h; exact ⟨D, h.mono hn, hM⟩
/-- Where something that is no map lies there is no map. -/
theorem MapAt.ne {w : World} {b n g : Nat} {M : Int → Option Value} {cs : Array Value} {t : TypeId} {fr : Nat × Nat} (h : MapAt w b n M) (hg : w.heap[g]? = some (.cells cs t fr)) : b ≠ g := by
  rintro rfl
  obtain ⟨D, ⟨es, clock, hb, -⟩, -⟩ := h
  rw [hb] at hg
  cases hg
theorem map_made (w : World) : MapAt (w.alloc (.map #[] 0)) w.heap.size 0 (fun _ => none) :=
  ⟨.map [], World.ownsMap_made _ _ _ _, fun k => ⟨fun v h => (by cases h), rfl⟩⟩
theorem grown_fr {w w' : World} {b : Nat} (h : w.grownBy w' (some b)) : Fr (fun k => k = b) w w' :=
  ⟨h.os, h.tape, h.output, h.size, fun k hk hs => h.block k hk (fun e => hs (Option.some.inj e))⟩
theorem grown_fr0 {w w' : World} (h : w.grownBy w' none) : Fr (fun _ => False) w w' :=
  ⟨h.os, h.tape, h.output, h.size, fun k hk hs => h.block k hk (by simp)⟩

theorem MapAt.look {w : World} {b n : Nat} {M : Int → Option Value} (h : MapAt w b n M) {t e : TypeId} (ht : Try.prog.underlying t = some (.map 3 e)) {z : Value} (hz : ∀ w, (zeroValue e).run Try.prog w = .ok z w) {k : Int} (hk : IsI k) :
    (Instr.lookup t (.map (some b)) (.int .i64 k) false).run Try.prog w = .ok ((M k).getD z) w ∧ (Instr.lookup t (.map (some b)) (.int .i64 k) true).run Try.prog w = .ok (.tuple #[(M k).getD z, .bool (M k).isSome]) w := by
  obtain ⟨D, ⟨es, clock, hb, F, hs, rfl⟩, hM⟩ := h
  obtain ⟨h1, h2⟩ := hM k
  have hkey := keyOf_int_mk Try.underlying3 hk.wf
  constructor
  · rcases Maps.fit_look false keyI ht (hz w) hb F hkey with ⟨hrun, _, hat⟩ | ⟨e0, y, _, _, hrun, hRv, hat, _⟩
    · rw [has_false_of_atKey hat] at h2
      cases hMk : M k with
      | none => simpa using hrun
      | some v => rw [hMk] at h2; cases h2
    · have h3 : Maps.has _ _ = true := has_true_of_atKey hat
      rw [h3] at h2
      cases hMk : M k with
      | none => rw [hMk] at h2; cases h2
      | some v =>
        have e1 := h1 v hMk (.held v)
        rw [hat] at e1
        unfold Raw at hRv
        simp at hRv
        rw [← hRv] at e1
        simp at e1
        subst e1
        simpa using hrun
  · rcases Maps.fit_look true keyI ht (hz w) hb F hkey with ⟨hrun, _, hat⟩ | ⟨e0, y, _, _, hrun, hRv, hat, _⟩
    · rw [has_false_of_atKey hat] at h2
      cases hMk : M k with
      | none => simpa using hrun
      | some v => rw [hMk] at h2; cases h2
    · have h3 : Maps.has _ _ = true := has_true_of_atKey hat
      rw [h3] at h2
      cases hMk : M k with
      | none => rw [hMk] at h2; cases h2
      | some v =>
        have e1 := h1 v hMk (.held v)
        rw [hat] at e1
        unfold Raw at hRv
        simp at hRv
        rw [← hRv] at e1
        simp at e1
        subst e1
        simpa using hrun

/-- M with v at k. -/
def putM (M : Int → Option Value) (k : Int) (v : Value) : Int → Option Value := fun j => if j = k then some v else M j
theorem MapAt.put {w : World} {b n : Nat} {M : Int → Option Value} (h : MapAt w b n M) {t e : TypeId} (ht : Try.prog.underlying t = some (.map 3 e)) (hn : n < maxLen) {k : Int} (hk : IsI k) (v : Value) :
    ∃ w', (Instr.mapUpdate t (.map (some b)) (.int .i64 k) v).run Try.prog w = .ok () w' ∧ MapAt w' b (if (M k).isSome then n else n + 1) (putM M k v) ∧ Fr (fun k => k = b) w w' ∧ w'.heap.size = w.heap.size := by
  obtain ⟨D, h, hM⟩ := h
  have hkey := keyOf_int_mk Try.underlying3 hk.wf
  have hty := h.tidy keyI
  have hsz := h.size_le
  obtain ⟨w', hrun, h', hg⟩ := h.store keyI ht hn hkey (show Raw v = some (.held v, []) from rfl)
  have hput := size_put (k := .int .i64 k) hty (.held v)
  rw [(hM k).2] at hput
  refine ⟨w', hrun, ⟨D.put (.int .i64 k) (.held v), ?_, fun j => ?_⟩, grown_fr hg.grown, ?_⟩
  · obtain ⟨es, clock, hb, F, hs, hD⟩ := h'
    refine ⟨es, clock, hb, F, ?_, hD⟩
    have e1 : Maps.size (D.put (.int .i64 k) (.held v)) = es.size := by rw [hD]; exact length_read es
    rw [← e1, hput]
    split <;> omega
  · by_cases hj : j = k
    · subst hj
      refine ⟨fun u hu z => ?_, ?_⟩
      · simp [putM] at hu
        subst hu
        exact atKey_put_same hty.isMap (isI_key _) _ _
      · rw [has_put_same hty.isMap (isI_key _)]
        simp [putM]
    · have hne : (Lit.int .i64 j) ≠ .int .i64 k := by simpa using hj
      have e2 : putM M k v j = M j := by simp [putM, hj]
      rw [e2, has_put_other hne]
      exact ⟨fun u hu z => by rw [atKey_put_other hne]; exact (hM j).1 u hu z, (hM j).2⟩
  · obtain ⟨es, clock, es', clock', hb, rfl⟩ := hg
    simp [Go.ChangeMaps.setBlock]
end Go.Proofs.Ytoiencoojkahmaa
