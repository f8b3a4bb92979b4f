/- A row of headers: its cells; a copy of a list of headers. -/
import Derived.Test.YtibiiagdhdmpiaaL13
import Derived.Test.YtibiiagdhdmpiaaAw
namespace Go.Proofs.Ytibiiagdhdmpiaa
open Go.RowKit
set_option maxRecDepth 100000
set_option maxHeartbeats 8000000
set_option linter.unusedVariables false

theorem info_hd : (Try.prog.info? 71).map (fun i => (i.zero, i.size, i.bytes)) = some (some (.agg #[.string ⟨#[]⟩, .string ⟨#[]⟩, .bool false]), 3, 40) := by kernel_rfl
theorem row_form {w : World} {B e s n : Nat} {v : Value} {xs : List Value} (h : w.ownsRow B e s v (n + 1) xs) : ∃ g cap, v = .slice (some ⟨g, 0, none⟩) (n + 1) cap := by
  rcases h.2 with ⟨rfl, h0⟩ | ⟨g, cap, cur, rfl, -⟩
  · omega
  · exact ⟨g, cap, rfl⟩
/-- Headers, as cells. -/
def cellsH : List (ByteArray × ByteArray × Bool) → List Value
  | [] => []
  | h :: l => .string h.1 :: .string h.2.1 :: .bool h.2.2 :: cellsH l
theorem cellsH_length (l : List (ByteArray × ByteArray × Bool)) : (cellsH l).length = l.length * 3 := by
  induction l with
  | nil => rfl
  | cons a l ih => simp only [cellsH, List.length_cons, ih]; omega
theorem cellsH_one (l : List (ByteArray × ByteArray × Bool)) : ∀ u ∈ cellsH l, u.oneCell' = true := by
  induction l with
  | nil => intro u hu; cases hu
  | cons a l ih =>
    intro u hu
    simp only [cellsH, List.mem_cons] at hu
    rcases hu with rfl | rfl | rfl | hu
    · rfl
    · rfl
    · rfl
    · exact ih u hu
theorem cellsH_get : ∀ {l : List (ByteArray × ByteArray × Bool)} {j : Nat} {u : Value}, (cellsH l)[j]? = some u → ∃ r y, l[r]? = some y ∧ ((j = r * 3 ∧ u = .string y.1) ∨ (j = r * 3 + 1 ∧ u = .string y.2.1) ∨ (j = r * 3 + 2 ∧ u = .bool y.2.2))
  | [], j, u, h => by simp [cellsH] at h
  | a :: l, 0, u, h => ⟨0, a, rfl, .inl ⟨rfl, by simp [cellsH] at h; exact h.symm⟩⟩
  | a :: l, 1, u, h => ⟨0, a, rfl, .inr (.inl ⟨rfl, by simp [cellsH] at h; exact h.symm⟩)⟩
  | a :: l, 2, u, h => ⟨0, a, rfl, .inr (.inr ⟨rfl, by simp [cellsH] at h; exact h.symm⟩)⟩
  | a :: l, j + 3, u, h => by
    have h' : (cellsH l)[j]? = some u := by simpa [cellsH] using h
    obtain ⟨r, y, h1, h2⟩ := cellsH_get h'
    refine ⟨r + 1, y, by simpa using h1, ?_⟩
    rcases h2 with h2 | h2 | h2
    · exact .inl ⟨by omega, h2.2⟩
    · exact .inr (.inl ⟨by omega, h2.2⟩)
    · exact .inr (.inr ⟨by omega, h2.2⟩)
theorem cellsH_at : ∀ {l : List (ByteArray × ByteArray × Bool)} {r : Nat} {y : ByteArray × ByteArray × Bool}, l[r]? = some y → (cellsH l)[r * 3]? = some (.string y.1) ∧ (cellsH l)[r * 3 + 1]? = some (.string y.2.1) ∧ (cellsH l)[r * 3 + 2]? = some (.bool y.2.2)
  | [], r, y, h => by simp at h
  | a :: l, 0, y, h => by
    simp at h
    subst h
    exact ⟨rfl, rfl, rfl⟩
  | a :: l, r + 1, y, h => by
    have h' : l[r]? = some y := by simpa using h
    obtain ⟨h1, h2, h3⟩ := cellsH_at h'
    have e : (r + 1) * 3 = r * 3 + 3 := by omega
    rw [e]
    exact ⟨by simpa [cellsH] using h1, by simpa [cellsH] using h2, by simpa [cellsH] using h3⟩
/-- A row of one's own as a list of headers. -/
theorem hl_row {w : World} {g cap : Nat} {l : List (ByteArray × ByteArray × Bool)} (ho : w.ownsRow 0 71 3 (.slice (some ⟨g, 0, none⟩) l.length cap) l.length (cellsH l)) (hf : l.length * 40 < 2 ^ 47) (hs : ∀ y ∈ l, y.1.size < 2 ^ 47 ∧ y.2.1.size < 2 ^ 47) : HL w (some ⟨g, 0, none⟩) cap l := by
  rcases ho.2 with ⟨e, _⟩ | ⟨g', cap', cur, e, h1, h2, h3, h4, h5, h6⟩
  · cases e
  · cases e
    refine ⟨h3, h4, hf, fun r y hr => ⟨g, 0, rfl, lt_of_heap h2, ?_⟩⟩
    obtain ⟨c1, c2, c3⟩ := cellsH_at hr
    have hrl := (List.getElem?_eq_some_iff.1 hr).1
    have key : ∀ j u, (cellsH l)[j]? = some u → w.cell? ⟨g, 0 + j, none⟩ = some u := fun j u hj => by
      have hjl := (List.getElem?_eq_some_iff.1 hj).1
      rw [cellsH_length] at hjl
      rw [Nat.zero_add]
      refine cell_of_heap h2 ?_
      rw [← h6, List.getElem?_take, if_pos hjl] at hj
      rw [← Array.getElem?_toList]
      exact hj
    exact ⟨key _ _ c1, key _ _ c2, key _ _ c3, hs y (List.mem_of_getElem? hr)⟩
theorem copy_run {w : World} {q : Option Addr} {c : Nat} {l : List (ByteArray × ByteArray × Bool)} (h : HL w q c l) :
    ∃ (q' : Option Addr) (c' : Nat) (w' : World), (Builtin.append_ #[32, 32] 32 #[.slice (some ⟨w.heap.size, 0, none⟩) 0 0, .slice q l.length c]).run Try.prog (w.alloc (.cells #[] 71)) = .ok (.slice q' l.length c') w' ∧ HL w' q' c' l ∧ Below w.heap.size w w' ∧ (∀ a, q' = some a → w.heap.size ≤ a.block) := by
  obtain ⟨i, hi, hz0, hz1, hz2⟩ := info_parts info_hd
  have hb0 : Below w.heap.size w (w.alloc (.cells #[] 71)) := (Below.refl _ w).alloc (Nat.le_refl _) _
  have hlit := World.ownsRow_lit (base := 0) (e := 71) (size := 3) w #[] 0 (Nat.zero_le _) (by decide) rfl
  have h0 := h.later hb0
  have hfew := h.few
  by_cases hl0 : l = []
  · subst hl0
    have hs : Src Try.prog i.size 32 (.slice q 0 c) 0 [] (w.alloc (.cells #[] 71)) := by
      cases q with
      | none => exact Src.ofNil _ Try.underlying32 c
      | some a => exact Src.ofSlice _ Try.underlying32 a 0 c [] (by simp) (fun j u hj => by simp at hj) (fun u hu => by cases hu)
    exact ⟨_, _, _, run_append_nothing _ 32 32 32 71 i Try.underlying32 hi _ 0 0 (Nat.le_refl _) _ hs, ⟨by simp, by simp [maxLen], by simp, fun r h hr => by simp at hr⟩, hb0, fun a ha => by cases ha; exact Nat.le_refl _⟩
  · have hpos : 0 < l.length := List.length_pos_iff.2 hl0
    obtain ⟨b, o, rfl, -⟩ := h0.cells 0 l[0] (List.getElem?_eq_getElem hpos)
    have hnews : ∀ (j : Nat) (x : Value), (cellsH l)[j]? = some x → (w.alloc (.cells #[] 71)).cell? ((⟨b, o, none⟩ : Addr).add j) = some x := fun j x hj => by
      rw [add_none]
      obtain ⟨r, y, hr, hx⟩ := cellsH_get hj
      obtain ⟨b', o', e, -, k0, k1, k2, -⟩ := h0.cells r y hr
      cases e
      rcases hx with ⟨rfl, rfl⟩ | ⟨rfl, rfl⟩ | ⟨rfl, rfl⟩
      · exact k0
      · rw [← Nat.add_assoc]; exact k1
      · rw [← Nat.add_assoc]; exact k2
    have hby : ((0 + l.length) + (0 + l.length) / 4 + 192) * 40 ≤ 281474976710656 := by omega
    obtain ⟨v', w', hr, ho, hg, hiff⟩ := run_append_own_wide (P := Try.prog) _ 0 32 32 71 i (.agg #[.string ⟨#[]⟩, .string ⟨#[]⟩, .bool false]) 3 40 Try.underlying32 hi hz0 hz1 hz2 rfl (by decide) _ 0 _ hlit ⟨b, o, none⟩ l.length c (cellsH l) (by rw [cellsH_length]) hnews (cellsH_one l) (by simp only [maxLen]; omega) hby (Nat.zero_le _)
    have hlit' := hlit
    rw [← hz1] at hlit'
    have hwh := append_where (P := Try.prog) _ 32 32 71 i (.agg #[.string ⟨#[]⟩, .string ⟨#[]⟩, .bool false]) Try.underlying32 hi hz0 _ 0 _ hlit' ⟨b, o, none⟩ l.length c (cellsH l) (by rw [cellsH_length, hz1]) hnews (cellsH_one l) hpos (by omega) (by rw [hz2]; exact hby) v' w' hr
    rw [Nat.zero_add] at ho
    obtain ⟨n1, hn1⟩ : ∃ n1, l.length = n1 + 1 := ⟨l.length - 1, by omega⟩
    have ho' := ho
    rw [hn1] at ho'
    obtain ⟨g7, cap7, rfl⟩ := row_form ho'
    rw [← hn1] at hr ho hwh hiff
    have hg7 : w.heap.size ≤ g7 := by
      rcases hwh with e | e
      · cases e; exact Nat.le_refl _
      · cases e; simp
    refine ⟨_, cap7, w', hr, ?_, hb0.grown hg (by simp) (fun k e => by cases e; exact Nat.le_refl _), fun a ha => by cases ha; exact hg7⟩
    exact hl_row (by simpa using ho) hfew (fun y hy => by
      obtain ⟨r, hr', hxr⟩ := List.getElem_of_mem hy
      obtain ⟨_, _, _, _, _, _, _, s1, s2⟩ := h.cells r y (by rw [List.getElem?_eq_getElem hr', hxr])
      exact ⟨s1, s2⟩)
theorem wpList_append_run {P : Program} {ops : Array Oper} {rest : List Oper} {o : Oper} {a : Act} {w w' : World} {Q : Exit → Act → World → Prop} (hgd : o.guard = none) (s x : Operand) (t : TypeId)
    (ho : o.op = .call { callee := .builtin .append, args := #[s, x], argTypes := #[t, t] }) (vs vx v' : Value) (hs : a.eval s = vs) (hx : a.eval x = vx)
    (hr : (Builtin.append_ #[t, t] o.type #[vs, vx]).run P w = .ok v' w') (h : wpList P ops Q rest (a.put o.dst v') w') : wpList P ops Q (o :: rest) a w :=
  wpList_plain hgd fun _ hK => by
    unfold Oper.wp execOp
    simp only [ho, resolve, invoke, builtin, Sem.run_bind, Sem.run_pure, Result.andThen_ok, List.map_toArray, List.map_cons, List.map_nil, hs, hx, hr]
    exact hK _ _ h

end Go.Proofs.Ytibiiagdhdmpiaa
