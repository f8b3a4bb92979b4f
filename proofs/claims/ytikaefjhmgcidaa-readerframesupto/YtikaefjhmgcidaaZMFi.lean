/- Contract of the program's Write. -/
import Derived.Test.YtikaefjhmgcidaaZMFg
namespace Go.Proofs.Ytikaefjhmgcidaa
open Go.RowKit
set_option linter.unusedVariables false
set_option maxRecDepth 100000
set_option maxHeartbeats 4000000

theorem src_two (w : World) (c d : UInt8) : SrcAt (w.alloc (.cells #[.int .u8 c.toNat, .int .u8 d.toNat] 5)) (some ⟨w.heap.size, 0, none⟩) [c, d] := by
  intro j x hj
  match j with
  | 0 => simp at hj; subst hj; exact ⟨_, rfl, by rw [add_none]; exact cell_of_heap (last_at _ rfl) rfl⟩
  | 1 => simp at hj; subst hj; exact ⟨_, rfl, by rw [add_none]; exact cell_of_heap (last_at _ rfl) rfl⟩
  | j + 2 => simp at hj
theorem putOut24 (n : Nat) (h : n ≤ 16777215) : putOut 3 16777216 (n : Int) = (0, be 3 n) := (if_neg (by omega)).trans (by simp)

end Go.Proofs.Ytikaefjhmgcidaa
/- Contract of the program's Write: the function itself. -/
namespace Go.Proofs.Ytikaefjhmgcidaa
open Go.RowKit
set_option linter.unusedVariables false
set_option maxRecDepth 100000
set_option maxHeartbeats 4000000

theorem pieceO_len {f : Fra} (hX : f.X.length < 2 ^ 47) (hY : f.Y.length * 16 < 2 ^ 47) (j : Nat) : (pieceO j f).2.length < 2 ^ 47 := by
  have h4 := setsB_len f.Y
  unfold pieceO
  repeat' split
  all_goals simp [be_length]
  all_goals omega
theorem pieceL_len {f : Fra} (hX : f.X.length < 2 ^ 47) (hY : f.Y.length * 16 < 2 ^ 47) (js : List Nat) : (pieceL f js).flatten.length ≤ js.length * 2 ^ 47 := by
  induction js with
  | nil => simp [pieceL]
  | cons j js ih =>
    have h := pieceO_len hX hY j
    simp only [pieceL, List.map_cons, List.flatten_cons, List.length_append, List.length_cons] at *
    omega
theorem allP_len {f : Fra} (hX : f.X.length < 2 ^ 47) (hY : f.Y.length * 16 < 2 ^ 47) (hp : padOk f = true) : (allP f).2.flatten.length < 2 ^ 50 ∧ (allP f).2.length ≤ 5 := by
  unfold allP
  split
  · have h3 := partsOf_few f
    by_cases hok : ∀ j ∈ partsOf f, (pieceO j f).1 = 0
    · rw [pieces_ok hok]
      have h1 := pieceL_len hX hY (partsOf f)
      have hb : (padsB f).flatten.length ≤ 1 ∧ (padsB f).length ≤ 1 := by unfold padsB; split <;> simp
      have he : (padsE f).flatten.length ≤ 255 ∧ (padsE f).length ≤ 1 := by
        unfold padsE
        split
        · rename_i hh
          simp [padOk, hh] at hp
          simp
          omega
        · simp
      have h5 : (pieceL f (partsOf f)).length = (partsOf f).length := by simp [pieceL]
      simp only [List.flatten_append, List.length_append]
      omega
    · rename_i h
      exact absurd h (fun h => by
        obtain ⟨j, hj, hb⟩ : ∃ j, j ∈ partsOf f ∧ (pieceO j f).1 ≠ 0 := by
          apply Classical.byContradiction
          intro hn
          exact hok (fun j hj => Classical.byContradiction (fun hb => hn ⟨j, hj, hb⟩))
        exact pieces_bad hj hb h)
  · simp

/-- What Write answers. -/
def WroteAs (w : World) (o : Int × List UInt8) (e : Ending) (w' : World) : Prop := ∃ a n c, e = .returned (.tuple #[.slice a n c, .int .i64 o.1]) ∧ o.2.length = n ∧ Gath w w' (.slice a n c) o.2

theorem flat_next {Xs : List (List UInt8)} {i : Nat} {X : List UInt8} (h : Xs[i]? = some X) : (Xs.take (i + 1)).flatten = (Xs.take i).flatten ++ X := by
  rw [List.take_add_one, h]
  simp
theorem flat_le (Xs : List (List UInt8)) (i : Nat) : (Xs.take i).flatten.length ≤ Xs.flatten.length := by
  have h := congrArg List.length (congrArg List.flatten (List.take_append_drop i Xs))
  rw [List.flatten_append, List.length_append] at h
  omega
/-- A piece in memory. -/
theorem Pcs.at_ {w0 w : World} {a : Option Addr} {n c : Nat} {Xs : List (List UInt8)} (h : Pcs w0 w (.slice a n c) Xs) (i : Nat) (X : List UInt8) (hi : Xs[i]? = some X) : ∃ g o q d, a = some ⟨g, o, none⟩ ∧ w.cell? ⟨g, o + i, none⟩ = some (.slice q X.length d) ∧ SrcAt w q X := by
  obtain ⟨vs, h1, h2, h3, h4, h5⟩ := h
  obtain ⟨q, d, a1, a2, a3⟩ := h5 i X hi
  obtain ⟨g, off, cap, e, hc, _⟩ := h1.cells i _ a1
  simp only [Value.slice.injEq] at e
  exact ⟨g, off, q, d, e.1, hc, a2⟩
theorem Pcs.fr {w0 w : World} {v : Value} {Xs : List (List UInt8)} (h : Pcs w0 w v Xs) : Fr (fun _ => False) w0 w := by obtain ⟨vs, _, _, h, _⟩ := h; exact h

end Go.Proofs.Ytikaefjhmgcidaa
