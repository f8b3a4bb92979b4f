/- Contracts of package chunk's Ring: lay. -/
import Derived.Test.YtibiiagdhdmpiaaCb
namespace Go.Proofs.Ytibiiagdhdmpiaa
open Go.RowKit
set_option linter.unusedVariables false

theorem lay_nil (b : Nat) (g c : Nat) (w : World)
    (c1 : w.cell? ⟨b, 1, none⟩ = some (.slice none 0 0)) (c2 : w.cell? ⟨b, 2, none⟩ = some (.int .i64 0)) :
    Calls Try.prog 47 #[.pointer (some ⟨b, 0, none⟩), .slice (some ⟨g, 0, none⟩) 0 c] w fun e w' => e = .returned (.tuple #[]) ∧ ∃ n, w' = w.drewN n := by
  go_enter Try.func47, Try.ntmps47
  go_wp2
  go_region_law (refine step_copy_nothing rfl (.tmp 5) (.tmp 14) 31 31 rfl 5 Try.underlying31 (by kernel_rfl) _ _ _ _ _ _ rfl rfl (by simp) ?_)
  all_goals
    go_wp2
    go_region_law (refine step_copy_nothing rfl (.tmp 18) (.tmp 22) 31 31 rfl 5 Try.underlying31 (by kernel_rfl) _ _ _ _ _ _ rfl rfl (by simp) ?_)
    go_end0
    exact ⟨rfl, 2, rfl⟩

/-- 'lay' where all lies behind 'first': one part. -/
theorem lay_one (b g first : Nat) (cur : List UInt8) (d m c : Nat) (D : List UInt8) (w : World)
    (c1 : w.cell? ⟨b, 1, none⟩ = some (.slice (some ⟨g, 0, none⟩) cur.length cur.length)) (c2 : w.cell? ⟨b, 2, none⟩ = some (.int .i64 first))
    (hg : w.heap[g]? = some (.cells (bv cur).toArray 5 (0, 0))) (hd : w.heap[d]? = some (.cells (bv D).toArray 5 (0, 0))) (hb : b ≠ d) (hgd : g ≠ d)
    (h1 : first < cur.length) (h2 : cur.length ≤ 1048576) (h3 : m ≤ cur.length - first) (h4 : m ≤ D.length) (h5 : m ≤ c) :
    Calls Try.prog 47 #[.pointer (some ⟨b, 0, none⟩), .slice (some ⟨d, 0, none⟩) m c] w fun e w' => e = .returned (.tuple #[]) ∧ w'.heap[d]? = some (.cells (bv ((cur.drop first).take m ++ D.drop m)).toArray 5 (0, 0)) ∧ Fr (fun k => k = d) w w' := by
  have hp1 := cut_from_lt Try.prog 31 5 Try.underlying31 (by kernel_rfl) g 0 cur.length cur.length first .i64 (by omega) h1
  rw [Nat.zero_add] at hp1
  obtain ⟨p2, hp2, _⟩ := cut_from Try.prog 31 5 Try.underlying31 (by kernel_rfl) ⟨d, 0, none⟩ m c m .i64 (by omega)
  have hl : ((cur.drop first).take m).length = m := by simp; omega
  have hsrc : SrcAt w (some ⟨g, first, none⟩) ((cur.drop first).take m) := (SrcAt.row hg first).take m
  have hsp : splice D 0 ((cur.drop first).take m) = (cur.drop first).take m ++ D.drop m := by
    rw [splice, hl]; simp
  obtain ⟨X, hX⟩ : ∃ X, X = (cur.drop first).take m := ⟨_, rfl⟩
  rw [← hX] at hsrc hl hsp ⊢
  have HL : Hid (X.length = m) := hl
  have HS : Hid (splice D 0 X = X ++ D.drop m) := hsp
  have HM : Hid (X.length = Nat.min (cur.length - first) m) := hl.trans (Nat.min_eq_right h3).symm
  have hf0 : 0 + X.length ≤ D.length := by omega
  clear hX hl hsp
  go_enter Try.func47, Try.ntmps47
  go_wp2
  go_region_law (refine step_copy_row rfl (.tmp 5) (.tmp 14) 31 31 rfl 5 Try.underlying31 (by kernel_rfl) _ _ _ _ _ _ rfl rfl d 0 D 5 hd X HM.out (fun _ => rfl) (hsrc.heap rfl) hf0 ?_; intro w2 hg2 hf2)
  all_goals
    have c1' : w2.cell? ⟨b, 1, none⟩ = some (.slice (some ⟨g, 0, none⟩) cur.length cur.length) := by rw [hf2.out.cell (p := ⟨b, 1, none⟩) (World.block_lt_of_cell? _ _ c1) hb]; exact c1
    rw [HL.out]
    go_wp2
    go_region_law (refine step_copy_nothing rfl (.tmp 18) (.tmp 22) 31 31 rfl 5 Try.underlying31 (by kernel_rfl) _ _ _ _ _ _ rfl rfl (by simp) ?_)
    go_end0
    refine ⟨rfl, ?_, ?_⟩
    · rw [← HS.out]; exact hg2.out
    · exact (Fr.trans (b := w.drew) (Fr.refl _ _).drew hf2.out).drew

/-- 'lay' where it turns: two parts. -/
theorem lay_two (b g first : Nat) (cur : List UInt8) (d m c : Nat) (D : List UInt8) (w : World)
    (c1 : w.cell? ⟨b, 1, none⟩ = some (.slice (some ⟨g, 0, none⟩) cur.length cur.length)) (c2 : w.cell? ⟨b, 2, none⟩ = some (.int .i64 first))
    (hg : w.heap[g]? = some (.cells (bv cur).toArray 5 (0, 0))) (hd : w.heap[d]? = some (.cells (bv D).toArray 5 (0, 0))) (hb : b ≠ d) (hgd : g ≠ d)
    (h1 : first < cur.length) (h2 : cur.length ≤ 1048576) (h3 : cur.length - first < m) (h3' : m ≤ cur.length) (h4 : m ≤ D.length) (h5 : m ≤ c) :
    Calls Try.prog 47 #[.pointer (some ⟨b, 0, none⟩), .slice (some ⟨d, 0, none⟩) m c] w fun e w' => e = .returned (.tuple #[]) ∧ w'.heap[d]? = some (.cells (bv ((cur.drop first ++ cur.take (m - (cur.length - first))) ++ D.drop m)).toArray 5 (0, 0)) ∧ Fr (fun k => k = d) w w' := by
  obtain ⟨k, hk⟩ : ∃ k, k = cur.length - first := ⟨_, rfl⟩
  rw [← hk] at h3 ⊢
  have hp1 := cut_from_lt Try.prog 31 5 Try.underlying31 (by kernel_rfl) g 0 cur.length cur.length first .i64 (by omega) h1
  rw [Nat.zero_add, ← hk] at hp1
  have hp2 := cut_from_lt Try.prog 31 5 Try.underlying31 (by kernel_rfl) d 0 m c k .i64 (by omega) (by omega)
  rw [Nat.zero_add] at hp2
  have hl : (cur.drop first).length = k := by simp; omega
  have hl2 : (cur.take (m - k)).length = m - k := by simp; omega
  have hsrc : SrcAt w (some ⟨g, first, none⟩) (cur.drop first) := SrcAt.row hg first
  have hsp : splice (splice D 0 (cur.drop first)) k (cur.take (m - k)) = (cur.drop first ++ cur.take (m - k)) ++ D.drop m := by
    have e := splice_two D (cur.drop first) (cur.take (m - k))
    rw [hl, hl2, show k + (m - k) = m by omega] at e
    exact e
  obtain ⟨X, hX⟩ : ∃ X, X = cur.drop first := ⟨_, rfl⟩
  obtain ⟨Y, hY⟩ : ∃ Y, Y = cur.take (m - k) := ⟨_, rfl⟩
  have hYs : ∀ wx : World, wx.heap[g]? = some (.cells (bv cur).toArray 5 (0, 0)) → SrcAt wx (some ⟨g, 0, none⟩) Y := by
    intro wx hwx
    rw [hY]
    exact (SrcAt.row hwx 0).take (m - k)
  have HYs : Hid (∀ wx : World, wx.heap[g]? = some (.cells (bv cur).toArray 5 (0, 0)) → SrcAt wx (some ⟨g, 0, none⟩) Y) := hYs
  rw [← hX] at hsrc hl hsp
  rw [← hY] at hl2 hsp
  rw [← hX, ← hY]
  have HL : Hid (X.length = k) := hl
  have HL2 : Hid (Y.length = m - k) := hl2
  have HS : Hid (splice (splice D 0 X) k Y = (X ++ Y) ++ D.drop m) := hsp
  have HM : Hid (X.length = Nat.min k m) := hl.trans (Nat.min_eq_left (by omega)).symm
  have HM2 : Hid (Y.length = Nat.min cur.length (m - k)) := hl2.trans (Nat.min_eq_right (by omega)).symm
  have hf0 : 0 + X.length ≤ D.length := by omega
  have hf1 : k + Y.length ≤ (splice D 0 X).length := by rw [length_splice _ _ _ hf0]; omega
  have hlt := lt_of_heap hg
  have HG : Hid (w.heap[g]? = some (.cells (bv cur).toArray 5 (0, 0))) := hg
  clear hX hY hl hl2 hsp hYs hk hg
  go_enter Try.func47, Try.ntmps47
  go_wp2
  go_region_law (refine step_copy_row rfl (.tmp 5) (.tmp 14) 31 31 rfl 5 Try.underlying31 (by kernel_rfl) _ _ _ _ _ _ rfl rfl d 0 D 5 hd X HM.out (fun _ => rfl) (hsrc.heap rfl) hf0 ?_; intro w2 hg2 hf2)
  all_goals
    have c1' : w2.cell? ⟨b, 1, none⟩ = some (.slice (some ⟨g, 0, none⟩) cur.length cur.length) := by rw [hf2.out.cell (p := ⟨b, 1, none⟩) (World.block_lt_of_cell? _ _ c1) hb]; exact c1
    have hY2 : SrcAt w2 (some ⟨g, 0, none⟩) Y := HYs.out w2 (by rw [hf2.out.block g hlt hgd]; exact HG.out)
    rw [HL.out]
    go_wp2
    go_region_law (refine step_copy_row rfl (.tmp 18) (.tmp 22) 31 31 rfl 5 Try.underlying31 (by kernel_rfl) _ _ _ _ _ _ rfl rfl d k (splice D 0 X) 5 hg2.out Y HM2.out (fun _ => rfl) (hY2.heap rfl) hf1 ?_; intro w3 hg3 hf3)
    go_end0
    refine ⟨rfl, ?_, ?_⟩
    · rw [← HS.out]; exact hg3.out
    · exact Fr.trans (Fr.trans (b := w.drew) (Fr.refl _ _).drew hf2.out).drew hf3.out

end Go.Proofs.Ytibiiagdhdmpiaa
