/- The program's pump: hang, unhang, Tail, Last. -/
import Derived.Test.YtibiiagdhdmpiaaUb
import Derived.Test.YtibiiagdhdmpiaaUc
import Derived.Deep.Cut
import Derived.Laws.EntriesVeiled
namespace Go.Proofs.Ytibiiagdhdmpiaa
open Go.RowKit
set_option linter.unusedVariables false
set_option maxRecDepth 100000
set_option maxHeartbeats 4000000

theorem hl_of_heap {w : World} {g : Nat} {l : List Hd} {t : TypeId} (h : w.heap[g]? = some (.cells (cellsH l).toArray t (0, 0))) (hf : l.length * 40 < 2 ^ 47) (hs : ∀ y ∈ l, y.1.size < 2 ^ 47 ∧ y.2.1.size < 2 ^ 47) : HL w (some ⟨g, 0, none⟩) l.length l := by
  refine ⟨Nat.le_refl _, by unfold maxLen; omega, hf, fun r y hr => ⟨g, 0, rfl, lt_of_heap h, ?_⟩⟩
  obtain ⟨c1, c2, c3⟩ := cellsH_at hr
  have key : ∀ j u, (cellsH l)[j]? = some u → w.cell? ⟨g, 0 + j, none⟩ = some u := fun j u hj => by
    rw [Nat.zero_add]
    exact cell_of_heap h (by rw [List.getElem?_toArray]; exact hj)
  exact ⟨key _ _ c1, key _ _ c2, key _ _ c3, hs y (List.mem_of_getElem? hr)⟩
theorem HL.texts {w : World} {q : Option Addr} {c : Nat} {l : List Hd} (h : HL w q c l) : ∀ y ∈ l, y.1.size < 2 ^ 47 ∧ y.2.1.size < 2 ^ 47 := fun y hy => by
  obtain ⟨r, hr, hxr⟩ := List.getElem_of_mem hy
  obtain ⟨_, _, _, _, _, _, _, s1, s2⟩ := h.cells r y (by rw [List.getElem?_eq_getElem hr, hxr])
  exact ⟨s1, s2⟩
theorem make_hdrs (n : Nat) (h : n * 40 < 2 ^ 47) : ∃ MC : Array Value, MC.size = n * 3 ∧ ∀ w : World, (Instr.makeSlice 32 (.int .i64 (n : Int)) (.int .i64 (n : Int))).run Try.prog w = .ok (.slice (some ⟨w.heap.size, 0, none⟩) n n) (w.alloc (.cells MC 71)) := by
  obtain ⟨i, hi, hz0, hz1, hz2⟩ := info_parts info_hd
  refine ⟨madeCells (Value.agg #[.string ⟨#[]⟩, .string ⟨#[]⟩, .bool false]).cells (n * 3), size_madeCells _ _, fun w => ?_⟩
  have hr := run_make (P := Try.prog) w 32 71 i _ Try.underlying32 hi hz0 .i64 .i64 n n (by omega) (by omega) (by rw [hz2]; omega) (by omega)
  rw [hz1] at hr
  simpa using hr
/-- The builtin copy of headers onto a row of as many. -/
theorem run_copy_hdrs {w : World} {g n : Nat} {q : Option Addr} {c : Nat} {l : List Hd} {MC : Array Value} (ty : TypeId) (hg : w.heap[g]? = some (.cells MC 71 (0, 0))) (hM : MC.size = l.length * 3) (h : HL w q c l) :
    ∃ w', (Builtin.copy_ #[32, 32] ty #[.slice (some ⟨g, 0, none⟩) l.length l.length, .slice q l.length c]).run Try.prog w = .ok (goInt l.length) w' ∧ w'.heap[g]? = some (.cells (cellsH l).toArray 71 (0, 0)) ∧ Fr (fun k => k = g) w w' := by
  obtain ⟨i, hi, hz0, hz1, hz2⟩ := info_parts info_hd
  have hcl : (cellsH l).length = l.length * 3 := cellsH_length l
  have hst := run_storeCells_at Try.prog g 0 71 (cellsH l) 0 MC w hg (by omega) (cellsH_one l)
  have hfirst : (Builtin.firstCells 3 l.length (.slice q l.length c)).run Try.prog w = .ok (cellsH l).toArray w := by
    by_cases h0 : l = []
    · subst h0
      cases q with
      | none => simp [Builtin.firstCells, cellsH]
      | some ad => exact run_firstCells_some w 3 0 ad 0 c [] (by simp) (fun j v hv => by simp at hv)
    · have hpos : 0 < l.length := List.length_pos_iff.2 h0
      obtain ⟨b, o, rfl, -⟩ := h.cells 0 l[0] (List.getElem?_eq_getElem hpos)
      refine run_firstCells_some w 3 l.length ⟨b, o, none⟩ l.length c (cellsH l) hcl (fun j v hj => ?_)
      rw [add_none]
      obtain ⟨r, y, hr, hx⟩ := cellsH_get hj
      obtain ⟨b', o', e, -, k0, k1, k2, -⟩ := h.cells r y hr
      cases e
      rcases hx with ⟨rfl, rfl⟩ | ⟨rfl, rfl⟩ | ⟨rfl, rfl⟩
      · exact k0
      · rw [← Nat.add_assoc]; exact k1
      · rw [← Nat.add_assoc]; exact k2
  have hdrop : MC.toList.drop (cellsH l).length = [] := List.drop_of_length_le (by simp; omega)
  simp only [List.take_zero, List.nil_append, Nat.zero_add, Nat.add_zero, hdrop, List.append_nil] at hst
  refine ⟨w.setRow g (cellsH l).toArray, ?_, setRow_heap w g MC _ 71 _ hg, fr_setRow w g _⟩
  simp [Builtin.copy_, run_underlying Try.underlying32, Builtin.lenOf, sizeOf, typeInfo, hi, hz1, hfirst, hst]
theorem wpList_copy_run {P : Program} {ops : Array Oper} {rest : List Oper} {o : Oper} {a : Act} {w w' : World} {Q : Exit → Act → World → Prop} (hgd : o.guard = none) (d s : Operand) (dT sT : TypeId)
    (ho : o.op = .call { callee := .builtin .copy, args := #[d, s], argTypes := #[dT, sT] }) (vd vs v' : Value) (hd : a.eval d = vd) (hs : a.eval s = vs)
    (hr : (Builtin.copy_ #[dT, sT] o.type #[vd, vs]).run P w = .ok v' w') (h : wpList P ops Q rest (a.put o.dst v') w') : wpList P ops Q (o :: rest) a w :=
  wpList_plain hgd fun _ hK => by
    unfold Oper.wp execOp
    simp only [ho, resolve, invoke, builtin, Sem.run_bind, Sem.run_pure, Result.andThen_ok, List.map_toArray, List.map_cons, List.map_nil, hd, hs, hr]
    exact hK _ _ h
theorem hang_in (b : Nat) (v0 v1 v3 : Value) (t : Bool) (q : Option Addr) (c : Nat) (l : List Hd) (w : World) (hp : w.heap[b]? = some (.cells #[v0, v1, .bool t, v3] 58 (0, 0))) (hv1 : v1 = .slice none 0 0) (h : HL w q c l) (hq : ∀ a, q = some a → 0 < l.length → a.block ≠ b) :
    Calls Try.prog 39 #[.pointer (some ⟨b, 0, none⟩), .slice q l.length c] w fun e w' => e = .returned (.tuple #[]) ∧ ∃ g, w.heap.size ≤ g ∧ g < w'.heap.size ∧ w'.heap[b]? = some (.cells #[v0, .slice (some ⟨g, 0, none⟩) l.length l.length, .bool true, v3] 58 (0, 0)) ∧ HL w' (some ⟨g, 0, none⟩) l.length l ∧ Fr (fun k => k = b) w w' := by
  subst hv1
  obtain ⟨MC, hM, hmk⟩ := make_hdrs l.length h.few
  obtain ⟨c0, c1, c2, c3⟩ := cell4 hp
  have z1 : w.frozen? ⟨b, 1, none⟩ = false := frozen_of_heap hp
  have hlt := lt_of_heap hp
  obtain ⟨n, hn⟩ : ∃ n, l.length = n := ⟨_, rfl⟩
  have hni : (n : Int) < 140737488355328 := by have := h.few; omega
  obtain ⟨w2, hw2⟩ : ∃ w2, (w.alloc (.cells MC 71)).setCell ⟨b, 1, none⟩ (.slice (some ⟨w.heap.size, 0, none⟩) n n) = w2 := ⟨_, rfl⟩
  have f2 : Fr (fun k => k = b) w w2 := by rw [← hw2]; exact Fr.setB ((Fr.refl _ _).alloc _) _ _
  have hg2 : w2.heap[w.heap.size]? = some (.cells MC 71 (0, 0)) := by rw [← hw2, setCell_other _ (by omega)]; exact heap_alloc_new w _
  have hp2 : w2.heap[b]? = some (.cells #[v0, .slice (some ⟨w.heap.size, 0, none⟩) n n, .bool t, v3] 58 (0, 0)) := by
    rw [← hw2]
    have h9 : (w.alloc (.cells MC 71)).heap[b]? = some (.cells #[v0, .slice none 0 0, .bool t, v3] 58 (0, 0)) := (Below.heap_alloc w _ b hlt).trans hp
    exact setCell_heap _ h9
  have h2 : HL w2 q c l := h.fr f2 hq
  obtain ⟨d0, d1, d2, d3⟩ := cell4 hp2
  obtain ⟨w3, hr3, hg3, f3⟩ := run_copy_hdrs (n := n) 3 hg2 hM h2
  have hp3 : w3.heap[b]? = some (.cells #[v0, .slice (some ⟨w.heap.size, 0, none⟩) n n, .bool t, v3] 58 (0, 0)) := (f3.block b (lt_of_heap hp2) (by omega)).trans hp2
  obtain ⟨e0, e1, e2, e3⟩ := cell4 hp3
  have y2 : w3.frozen? ⟨b, 2, none⟩ = false := frozen_of_heap hp3
  have HH : Hid (HL w q c l) := h
  have HP3 : Hid (w3.heap[b]? = some (.cells #[v0, .slice (some ⟨w.heap.size, 0, none⟩) n n, .bool t, v3] 58 (0, 0))) := hp3
  have HG3 : Hid (w3.heap[w.heap.size]? = some (.cells (cellsH l).toArray 71 (0, 0))) := hg3
  have HF3 : Hid (Fr (fun k => k = b) w w3) := ⟨f3.os.trans f2.os, f3.tape.trans f2.tape, f3.output.trans f2.output, Nat.le_trans f2.size f3.size, fun k hk hs => (f3.block k (Nat.lt_of_lt_of_le hk f2.size) (by omega)).trans (f2.block k hk hs)⟩
  rw [hn] at hr3 hmk ⊢
  have HN : Hid (l.length = n) := hn
  clear hp hp2 hp3 hg2 hg3 f2 f3 h h2 hM hn
  go_enter Try.func39, Try.ntmps39
  go_upto_region 1 with (fail)
  (try rw [hw2])
  clear hw2 hmk c0 c1 c2 c3 z1
  go_wp2
  go_end0
  have f4 : Fr (fun k => k = b) w3 (w3.setCell ⟨b, 2, none⟩ (.bool true)) := Fr.setB (Fr.refl _ _) _ _
  have hg4 : (w3.setCell ⟨b, 2, none⟩ (.bool true)).heap[w.heap.size]? = some (.cells (cellsH l).toArray 71 (0, 0)) := (setCell_other _ (by omega)).trans HG3.out
  have hl4 := hl_of_heap hg4 HH.out.few HH.out.texts
  rw [HN.out] at hl4
  exact ⟨rfl, w.heap.size, Nat.le_refl _, lt_of_heap hg4, setCell_heap _ HP3.out, hl4, HF3.out.trans f4⟩
theorem unhang_in (b : Nat) (v0 v3 : Value) (t : Bool) (q : Option Addr) (n c : Nat) (w : World) (hp : w.heap[b]? = some (.cells #[v0, .slice q n c, .bool t, v3] 58 (0, 0))) :
    Calls Try.prog 40 #[.pointer (some ⟨b, 0, none⟩)] w fun e w' => e = .returned (.tuple #[.slice q n c, .bool t]) ∧ w'.heap[b]? = some (.cells #[v0, .slice none 0 0, .bool false, v3] 58 (0, 0)) ∧ Fr (fun k => k = b) w w' ∧ w'.heap.size = w.heap.size := by
  obtain ⟨c0, c1, c2, c3⟩ := cell4 hp
  have z1 : w.frozen? ⟨b, 1, none⟩ = false := frozen_of_heap hp
  have z2 : w.frozen? ⟨b, 2, none⟩ = false := frozen_of_heap hp
  have HP : Hid (w.heap[b]? = some (.cells #[v0, .slice q n c, .bool t, v3] 58 (0, 0))) := hp
  clear hp
  go_enter Try.func40, Try.ntmps40
  go_wp2
  go_quiet (fail)
  go_wp2
  go_ret2
  have h9 : (w.drewN nq).heap[b]? = some (.cells #[v0, .slice q n c, .bool t, v3] 58 (0, 0)) := HP.out
  exact ⟨rfl, setCell_heap _ (setCell_heap _ h9), Fr.setB (Fr.setB ((Fr.refl _ _).drewN _) _ _) _ _, by simp [World.setCell]⟩
end Go.Proofs.Ytibiiagdhdmpiaa
