/- Maps keyed by ints: what is deleted, how many they hold. -/
import Derived.Test.YtoiencoojkahmaaMa
namespace Go.Proofs.Ytoiencoojkahmaa
open Go.RowKit Go.Maps
set_option linter.unusedVariables false

/-- M without k. -/
def delM (M : Int → Option Value) (k : Int) : Int → Option Value := fun j => if j = k then none else M j
theorem MapAt.del {w : World} {b n : Nat} {M : Int → Option Value} (h : MapAt w b n M) {t e : TypeId} (ht : Try.prog.underlying t = some (.map 3 e)) {k : Int} (hk : IsI k) (ty : TypeId) :
    ∃ w', (Builtin.delete_ #[t, 3] ty #[.map (some b), .int .i64 k]).run Try.prog w = .ok (.tuple #[]) w' ∧ MapAt w' b n (delM M k) ∧ Fr (fun j => j = b) w w' ∧ w'.heap.size = w.heap.size := by
  obtain ⟨D, h, hM⟩ := h
  have hkey := keyOf_int_mk Try.underlying3 hk.wf
  obtain ⟨w', hrun, h', hg⟩ := h.drop keyI ht hkey ty
  refine ⟨w', hrun, ⟨D.del (.int .i64 k), h', fun j => ?_⟩, grown_fr hg.grown, ?_⟩
  · by_cases hj : j = k
    · subst hj
      refine ⟨fun u hu z => ?_, ?_⟩
      · simp [delM] at hu
      · rw [has_del_same]
        simp [delM]
    · have hne : (Lit.int .i64 j) ≠ .int .i64 k := by simpa using hj
      have e2 : delM M k j = M j := by simp [delM, hj]
      rw [e2, has_del_other hne]
      exact ⟨fun u hu z => by rw [atKey_del_other hne]; exact (hM j).1 u hu z, (hM j).2⟩
  · obtain ⟨es, clock, es', clock', hb, rfl⟩ := hg
    simp [Go.ChangeMaps.setBlock]
/-- How many a map holds: as many as it has keys. -/
theorem MapAt.size {w : World} {b n : Nat} {M : Int → Option Value} (h : MapAt w b n M) (ks : List Int) (hn : ks.Nodup) (hk : ∀ k, (M k).isSome = true ↔ k ∈ ks) : ∃ D : DataW Value, w.ownsMap Try.prog 3 Raw b n D ∧ Maps.size D = ks.length := by
  obtain ⟨D, h, hM⟩ := h
  refine ⟨D, h, ?_⟩
  obtain ⟨E, rfl, hpw, hlit⟩ := h.entries keyI
  have hints : ∀ p ∈ E, ∃ x, p.1 = .int .i64 x := by
    obtain ⟨es, clock, hb, F, hs, hD⟩ := h
    have hE : E = (es.toList.map (Go.WideElems.rg Try.prog 3 Raw)).foldr DataW.insert [] := by cases hD; rfl
    intro p hp
    rw [hE] at hp
    obtain ⟨v, hv⟩ := fit_keys F p (mem_sorted.1 hp)
    obtain ⟨x, -, hx, -⟩ := Maps.keyOf_int_inv Try.underlying3 hv
    exact ⟨x, hx⟩
  have hnd : (E.map (·.1)).Nodup := by rw [List.Nodup, List.pairwise_map]; exact hpw
  have hnd2 : (ks.map (Lit.int .i64)).Nodup := by
    rw [List.Nodup, List.pairwise_map]
    exact hn.imp (fun hne e => hne (by simpa using e))
  have hperm : (E.map (·.1)).Perm (ks.map (Lit.int .i64)) := by
    rw [List.perm_ext_iff_of_nodup hnd hnd2]
    intro l
    constructor
    · intro hl
      obtain ⟨p, hp, rfl⟩ := List.mem_map.1 hl
      obtain ⟨x, hx⟩ := hints p hp
      have hhas : Maps.has (DataW.map E) (.int .i64 x) = true := List.any_eq_true.2 ⟨p, hp, by rw [hx]; exact WideAt.sameKey_self (isI_key x)⟩
      rw [(hM x).2] at hhas
      exact List.mem_map.2 ⟨x, (hk x).1 hhas, hx.symm⟩
    · intro hl
      obtain ⟨x, hx, rfl⟩ := List.mem_map.1 hl
      have hhas := (hk x).2 hx
      rw [← (hM x).2] at hhas
      obtain ⟨p, hp, hs⟩ := List.any_eq_true.1 hhas
      exact List.mem_map.2 ⟨p, hp, WideAt.sameKey_eq hs⟩
  have := hperm.length_eq
  simpa [Maps.size] using this
section
variable {w : World} {ops : Array Oper} {rest : List Oper} {o : Oper} {a : Act} {Q : Exit → Act → World → Prop}
theorem wpList_del (hg : o.guard = none) (m x : Operand) (t : TypeId) (hop : o.op = Op.call { callee := Callee.builtin Builtin.delete, args := #[m, x], argTypes := #[t, 3] }) (e : TypeId) (ht : Try.prog.underlying t = some (.map 3 e))
    (b n : Nat) (M : Int → Option Value) (hm : a.eval m = .map (some b)) (h : MapAt w b n M) (k : Int) (hx : a.eval x = .int .i64 k) (hk : IsI k)
    (hK : ∀ w', MapAt w' b n (delM M k) → Fr (fun j => j = b) w w' → w'.heap.size = w.heap.size → wpList Try.prog ops Q rest (a.put o.dst (.tuple #[])) w') : wpList Try.prog ops Q (o :: rest) a w := by
  refine wpList_plain hg fun K' hK' => ?_
  obtain ⟨w', hrun, h1, h2, h3⟩ := h.del ht hk o.type
  unfold Oper.wp
  simp [execOp, hop, resolve, invoke, builtin, hm, hx, hrun, Result.andThen]
  exact hK' _ _ (hK w' h1 h2 h3)
theorem wpList_mlen (hg : o.guard = none) (m : Operand) (t : TypeId) (hop : o.op = Op.call { callee := Callee.builtin Builtin.len, args := #[m], argTypes := #[t] }) (e : TypeId) (ht : Try.prog.underlying t = some (.map 3 e))
    (b n : Nat) (M : Int → Option Value) (hm : a.eval m = .map (some b)) (h : MapAt w b n M) (ks : List Int) (hn : ks.Nodup) (hk : ∀ k, (M k).isSome = true ↔ k ∈ ks)
    (hK : wpList Try.prog ops Q rest (a.put o.dst (.int .i64 (ks.length : Nat))) w) : wpList Try.prog ops Q (o :: rest) a w := by
  obtain ⟨D, h1, h2⟩ := h.size ks hn hk
  rw [← h2] at hK
  exact wpList_len_own w hg m t hop 3 e ht Raw b n D hm h1 hK
end
end Go.Proofs.Ytoiencoojkahmaa
