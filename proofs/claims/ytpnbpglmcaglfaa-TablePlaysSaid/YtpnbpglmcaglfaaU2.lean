/- The builtins copy and clear on rows of entries. -/
import Derived.Test.YtpnbpglmcaglfaaU1
namespace Go.Proofs.Ytpnbpglmcaglfaa
open Go.RowKit
set_option maxRecDepth 100000
set_option maxHeartbeats 4000000
set_option linter.unusedVariables false

theorem fr_setRow (w : World) (g : Nat) (cs : Array Value) : Fr (fun k => k = g) w (w.setRow g cs) := Fr.setRow (S := fun k => k = g) (Fr.refl _ w) g (fun _ => rfl) cs
/-- copy within a row, from a later place to its head: what goes over lies at the head, the rest as it lay. -/
theorem step_copy_wide {P : Program} {ops : Array Oper} {o : Oper} {a : Act} {w : World} {K : Act → World → Prop} {Q : Exit → Act → World → Prop} {E : Prop} (hgd : o.guard = none) (d s : Operand) (dT sT : TypeId)
    (ho : o.op = .call { callee := .builtin .copy, args := #[d, s], argTypes := #[dT, sT] }) (elem : TypeId) (size : Nat) (hu : P.underlying dT = some (.slice elem)) (hsz : (P.info? elem).map (·.size) = some size)
    (g dLen dCap sLen sCap n : Nat) (sp : Option Addr) (hd : a.eval d = .slice (some ⟨g, 0, none⟩) dLen dCap) (hs : a.eval s = .slice sp sLen sCap) (hn : Nat.min sLen dLen = n)
    (cur : Array Value) (t : TypeId) (hg : w.heap[g]? = some (.cells cur t (0, 0))) (cs : List Value) (hl : cs.length = n * size)
    (hpos : 0 < n → ∃ ad, sp = some ad ∧ ∀ j v, cs[j]? = some v → w.cell? (ad.add j) = some v)
    (hfit : cs.length ≤ cur.size) (h1 : ∀ v ∈ cs, v.oneCell' = true)
    (h : ∀ w', Hid (w'.heap[g]? = some (.cells (cs ++ cur.toList.drop cs.length).toArray t (0, 0))) → Hid (Fr (fun k => k = g) w w') → K (a.put o.dst (goInt n)) w') :
    if Region.wanted o (yielded ops a.tmps) = true then Oper.wp P o a w K Q else E := by
  have hw : Region.wanted o (yielded ops a.tmps) = true := by simp [Region.wanted, hgd]
  rw [if_pos hw]
  obtain ⟨i, hi, his⟩ : ∃ i, P.info? elem = some i ∧ i.size = size := by
    cases hq : P.info? elem with
    | none => simp [hq] at hsz
    | some i => exact ⟨i, rfl, by simpa [hq] using hsz⟩
  have hst := run_storeCells_at P g 0 t cs 0 cur w hg (by simpa using hfit) h1
  have hfirst : (Builtin.firstCells size n (.slice sp sLen sCap)).run P w = .ok cs.toArray w := by
    by_cases h0 : n = 0
    · subst h0
      obtain rfl : cs = [] := List.eq_nil_of_length_eq_zero (by omega)
      cases sp with
      | none => simp [Builtin.firstCells]
      | some ad => exact run_firstCells_some w size 0 ad sLen sCap [] (by simp) (fun j v hv => by simp at hv)
    · obtain ⟨ad, rfl, hsrc⟩ := hpos (by omega)
      exact run_firstCells_some w size n ad sLen sCap cs hl hsrc
  have hrun : (Builtin.copy_ #[dT, sT] o.type #[.slice (some ⟨g, 0, none⟩) dLen dCap, .slice sp sLen sCap]).run P w = .ok (goInt n) (w.setRow g (cs ++ cur.toList.drop cs.length).toArray) := by
    simp only [List.take_zero, List.nil_append, Nat.zero_add, Nat.add_zero] at hst
    simp [Builtin.copy_, run_underlying hu, Builtin.lenOf, sizeOf, typeInfo, hi, his, hn, hfirst, hst]
  unfold Oper.wp
  simp [execOp, ho, resolve, invoke, builtin, hd, hs, hrun, Result.andThen]
  exact h _ (setRow_heap w g cur _ t _ hg) (fr_setRow w g _)
/-- clear of a row's end: its beginning lies as it lay. -/
theorem run_clear {P : Program} (w : World) (T ty elem : TypeId) (z : Value) (size : Nat) (hu : P.underlying T = some (.slice elem)) (hz : (zeroValue elem).run P w = .ok z w) (hzs : z.cells.size = size) (hz1 : ∀ n, ∀ v ∈ (Builtin.zeroCells z.cells n).toList, v.oneCell' = true)
    (q : Option Addr) (len cap : Nat) (g off : Nat) (cur : Array Value) (t : TypeId) (hg : w.heap[g]? = some (.cells cur t (0, 0))) (hpos : 0 < len → q = some ⟨g, off, none⟩) (hfit : off + len * size ≤ cur.size) :
    ∃ w' cur', (Builtin.clear_ #[T] ty #[.slice q len cap]).run P w = .ok (.tuple #[]) w' ∧ Hid (w'.heap[g]? = some (.cells cur' t (0, 0))) ∧ Hid (cur'.size = cur.size) ∧ Hid (cur'.toList.take off = cur.toList.take off) ∧ Hid (Fr (fun k => k = g) w w') := by
  by_cases h0 : len = 0
  · subst h0
    refine ⟨w, cur, ?_, hg, rfl, rfl, Fr.refl _ _⟩
    cases q <;> simp [Builtin.clear_, run_underlying hu]
  · obtain rfl := hpos (by omega)
    obtain ⟨zs, hzs2⟩ : ∃ zs, (Builtin.zeroCells z.cells len).toList = zs := ⟨_, rfl⟩
    have hzl : zs.length = len * size := by rw [← hzs2]; simp [Builtin.zeroCells, hzs]
    have hst := run_storeCells_at P g off t zs 0 cur w hg (by omega) (by rw [← hzs2]; exact hz1 len)
    refine ⟨w.setRow g (cur.toList.take (off + 0) ++ zs ++ cur.toList.drop (off + 0 + zs.length)).toArray, (cur.toList.take (off + 0) ++ zs ++ cur.toList.drop (off + 0 + zs.length)).toArray, ?_, setRow_heap w g cur _ t _ hg, ?_, ?_, fr_setRow w g _⟩
    · cases len with
      | zero => exact absurd rfl h0
      | succ k => simp [Builtin.clear_, run_underlying hu, hz, hzs2, hst]
    · show _ = _
      simp; omega
    · show (cur.toList.take (off + 0) ++ zs ++ cur.toList.drop (off + 0 + zs.length)).take off = cur.toList.take off
      rw [Nat.add_zero, List.append_assoc, List.take_append_of_le_length (by simp; omega), List.take_take, Nat.min_self]
end Go.Proofs.Ytpnbpglmcaglfaa
