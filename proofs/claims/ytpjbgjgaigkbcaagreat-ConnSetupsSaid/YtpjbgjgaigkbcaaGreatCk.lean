/- Copies of lists of settings. -/
import Derived.Test.YtpjbgjgaigkbcaaGreatFs
import Derived.Test.YtpjbgjgaigkbcaaGreatAw
import Derived.Test.YtpjbgjgaigkbcaaGreatAv
import Derived.Deep.AppendSrc
namespace Go.Proofs.YtpjbgjgaigkbcaaGreat
open Go.RowKit
set_option linter.unusedVariables false
set_option maxRecDepth 100000
set_option maxHeartbeats 4000000

/-- Settings, as cells. -/
def rowS : List (Int × Nat) → List Value
  | [] => []
  | s :: l => .int .i64 s.1 :: .int .u32 (s.2 : Nat) :: rowS l
theorem rowS_length (l : List (Int × Nat)) : (rowS l).length = l.length * 2 := by
  induction l with
  | nil => rfl
  | cons a l ih => simp only [rowS, List.length_cons, ih]; omega
theorem rowS_one (l : List (Int × Nat)) : ∀ u ∈ rowS l, u.oneCell' = true := by
  induction l with
  | nil => intro u hu; cases hu
  | cons a l ih =>
    intro u hu
    simp only [rowS, List.mem_cons] at hu
    rcases hu with rfl | rfl | hu
    · rfl
    · rfl
    · exact ih u hu
theorem rowS_get : ∀ {l : List (Int × Nat)} {j : Nat} {u : Value}, (rowS l)[j]? = some u → ∃ r y, l[r]? = some y ∧ ((j = r * 2 ∧ u = .int .i64 y.1) ∨ (j = r * 2 + 1 ∧ u = .int .u32 (y.2 : Nat)))
  | [], j, u, h => by simp [rowS] at h
  | a :: l, 0, u, h => ⟨0, a, rfl, .inl ⟨rfl, by simp [rowS] at h; exact h.symm⟩⟩
  | a :: l, 1, u, h => ⟨0, a, rfl, .inr ⟨rfl, by simp [rowS] at h; exact h.symm⟩⟩
  | a :: l, j + 2, u, h => by
    have h' : (rowS l)[j]? = some u := by simpa [rowS] using h
    obtain ⟨r, y, h1, h2⟩ := rowS_get h'
    refine ⟨r + 1, y, by simpa using h1, ?_⟩
    rcases h2 with h2 | h2
    · exact .inl ⟨by omega, h2.2⟩
    · exact .inr ⟨by omega, h2.2⟩
theorem rowS_at : ∀ {l : List (Int × Nat)} {r : Nat} {y : Int × Nat}, l[r]? = some y → (rowS l)[r * 2]? = some (.int .i64 y.1) ∧ (rowS l)[r * 2 + 1]? = some (.int .u32 (y.2 : Nat))
  | [], r, y, h => by simp at h
  | a :: l, 0, y, h => by
    simp at h
    subst h
    exact ⟨rfl, rfl⟩
  | a :: l, r + 1, y, h => by
    have h' : l[r]? = some y := by simpa using h
    obtain ⟨h1, h2⟩ := rowS_at h'
    have e : (r + 1) * 2 = r * 2 + 2 := by omega
    rw [e]
    exact ⟨by simpa [rowS] using h1, by simpa [rowS] using h2⟩
/-- A copy of settings: in a block that holds nothing else. -/
structure Copy (w : World) (p : Option Addr) (c : Nat) (Y : List (Int × Nat)) : Prop where
  sets : SetsAt w p c Y
  tag : ∀ ad, p = some ad → 0 < Y.length → ∃ cur, w.heap[ad.block]? = some (.cells cur 114 (0, 0))
theorem Copy.fr {S : Nat → Prop} {w w' : World} {p : Option Addr} {c : Nat} {Y : List (Int × Nat)} (h : Copy w p c Y) (hf : Fr S w w') (hs : ∀ k cur, w.heap[k]? = some (.cells cur 114 (0, 0)) → ¬ S k) : Copy w' p c Y := by
  refine ⟨h.sets.fr hf (fun ad e hl => ?_), fun ad e hl => ?_⟩
  · obtain ⟨cur, hc⟩ := h.tag ad e hl
    exact hs _ _ hc
  · obtain ⟨cur, hc⟩ := h.tag ad e hl
    exact ⟨cur, (hf.block _ (lt_of_heap hc) (hs _ _ hc)).trans hc⟩
theorem Copy.later {w w' : World} {p : Option Addr} {c : Nat} {Y : List (Int × Nat)} (h : Copy w p c Y) (hf : Fr (fun _ => False) w w') : Copy w' p c Y := h.fr hf (fun _ _ _ => id)
theorem copy_row {w : World} {g cap : Nat} {l : List (Int × Nat)} (ho : w.ownsRow 0 114 2 (.slice (some ⟨g, 0, none⟩) l.length cap) l.length (rowS l)) (hf : l.length * 16 < 2 ^ 47) (hs : ∀ y ∈ l, (Lit.int .i64 y.1).wf = true ∧ y.2 < 4294967296) : Copy w (some ⟨g, 0, none⟩) cap l := by
  rcases ho.2 with ⟨e, _⟩ | ⟨g', cap', cur, e, h1, h2, h3, h4, h5, h6⟩
  · cases e
  · cases e
    refine ⟨⟨h3, h4, hf, fun r y hr => ⟨g, 0, rfl, lt_of_heap h2, ?_⟩⟩, fun ad e _ => by cases e; exact ⟨cur, h2⟩⟩
    obtain ⟨c1, c2⟩ := rowS_at hr
    have key : ∀ j u, (rowS l)[j]? = some u → w.cell? ⟨g, 0 + j, none⟩ = some u := fun j u hj => by
      have hjl := (List.getElem?_eq_some_iff.1 hj).1
      rw [rowS_length] at hjl
      rw [Nat.zero_add]
      refine cell_of_heap h2 ?_
      rw [← h6, List.getElem?_take, if_pos hjl] at hj
      rw [← Array.getElem?_toList]
      exact hj
    have h7 := hs y (List.mem_of_getElem? hr)
    exact ⟨key _ _ c1, key _ _ c2, h7.1, h7.2⟩
theorem owns_some {W : World} {base : Nat} {e : TypeId} {size : Nat} {v : Value} {k : Nat} {xs : List Value} (h : W.ownsRow base e size v (k + 1) xs) : ∃ g cap, v = .slice (some ⟨g, 0, none⟩) (k + 1) cap := by
  rcases h.2 with ⟨_, h0⟩ | ⟨g, cap, _, rfl, _⟩
  · omega
  · exact ⟨g, cap, rfl⟩
theorem info_set : ∃ i, Tryz.prog.info? 114 = some i ∧ i.zero = some (.agg #[.int .i64 0, .int .u32 0]) ∧ i.size = 2 ∧ i.bytes = 16 := ⟨(Tryz.prog.info? 114).get (by kernel_rfl), by kernel_rfl, by kernel_rfl, by kernel_rfl, by kernel_rfl⟩
theorem copyS_run {w : World} {q : Option Addr} {c : Nat} {Y : List (Int × Nat)} (h : SetsAt w q c Y) (v0 : Value) (h0 : w.ownsRow 0 114 2 v0 0 []) :
    ∃ (q' : Option Addr) (c' : Nat) (w' : World), (Builtin.append_ #[60, 60] 60 #[v0, .slice q Y.length c]).run Tryz.prog w = .ok (.slice q' Y.length c') w' ∧ Copy w' q' c' Y ∧ Fr (fun k => v0.ownBlock = some k) w w' := by
  obtain ⟨i, hi, hz0, hz1, hz2⟩ := info_set
  have hfew := h.few
  by_cases hl0 : Y = []
  · subst hl0
    have hs : Src Tryz.prog i.size 60 (.slice q 0 c) 0 [] w := by
      cases q with
      | none => exact Src.ofNil _ Tryz.underlying60 c
      | some a => exact Src.ofSlice _ Tryz.underlying60 a 0 c [] (by simp) (fun j u hj => by simp at hj) (fun u hu => by cases hu)
    rcases h0.2 with ⟨rfl, -⟩ | ⟨g, cap, cur, rfl, -, hg, hnc, hcm, -⟩
    · exact ⟨_, _, _, run_append_nothing _ 60 60 60 114 i Tryz.underlying60 hi _ 0 0 (Nat.le_refl _) _ hs, ⟨SetsAt.nil _, fun ad e => by cases e⟩, Fr.refl _ _⟩
    · exact ⟨_, _, _, run_append_nothing _ 60 60 60 114 i Tryz.underlying60 hi _ 0 cap hnc _ hs, ⟨⟨by simp, hcm, by simp, fun r h hr => by simp at hr⟩, fun ad e hl => by simp at hl⟩, Fr.refl _ _⟩
  · have hpos : 0 < Y.length := List.length_pos_iff.2 hl0
    obtain ⟨b, o, rfl, -⟩ := h.cells 0 Y[0] (List.getElem?_eq_getElem hpos)
    have hnews : ∀ (j : Nat) (x : Value), (rowS Y)[j]? = some x → w.cell? ((⟨b, o, none⟩ : Addr).add j) = some x := fun j x hj => by
      rw [add_none]
      obtain ⟨r, y, hr, hx⟩ := rowS_get hj
      obtain ⟨b', o', e, -, k0, k1, -⟩ := h.cells r y hr
      cases e
      rcases hx with ⟨rfl, rfl⟩ | ⟨rfl, rfl⟩
      · exact k0
      · rw [← Nat.add_assoc]; exact k1
    have hby : ((0 + Y.length) + (0 + Y.length) / 4 + 192) * 16 ≤ 281474976710656 := by omega
    obtain ⟨v', w', hr, ho, hg, hiff⟩ := run_append_own_wide (P := Tryz.prog) w 0 60 60 114 i (.agg #[.int .i64 0, .int .u32 0]) 2 16 Tryz.underlying60 hi hz0 hz1 hz2 rfl (by decide) v0 0 [] h0 ⟨b, o, none⟩ Y.length c (rowS Y) (by rw [rowS_length]) hnews (rowS_one Y) (by simp only [maxLen]; omega) hby (Nat.zero_le _)
    rw [Nat.zero_add] at ho
    obtain ⟨n1, hn1⟩ : ∃ n1, Y.length = n1 + 1 := ⟨Y.length - 1, by omega⟩
    have ho' := ho
    rw [hn1] at ho'
    obtain ⟨g7, cap7, rfl⟩ := owns_some ho'
    rw [← hn1] at hr ho
    refine ⟨_, cap7, w', hr, ?_, Fr.of_grown hg⟩
    exact copy_row (by simpa using ho) hfew (fun y hy => by
      obtain ⟨r, hr', hxr⟩ := List.getElem_of_mem hy
      obtain ⟨_, _, _, _, _, _, s1, s2⟩ := h.cells r y (by rw [List.getElem?_eq_getElem hr', hxr])
      exact ⟨s1, s2⟩)
end Go.Proofs.YtpjbgjgaigkbcaaGreat
