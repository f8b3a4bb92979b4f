/- Settings in memory. -/
import Derived.Test.YtpjbgjgaigkbcaaGreatRows
import Derived.Test.YtpjbgjgaigkbcaaGreatB1
namespace Go.Proofs.YtpjbgjgaigkbcaaGreat
open Go.RowKit
set_option linter.unusedVariables false

/-- Settings in memory. -/
structure SetsAt (w : World) (q : Option Addr) (c : Nat) (Y : List (Int × Nat)) : Prop where
  cap : Y.length ≤ c
  big : c ≤ maxLen
  few : Y.length * 16 < 2 ^ 47
  cells : ∀ r s, Y[r]? = some s → ∃ b o, q = some ⟨b, o, none⟩ ∧ b < w.heap.size ∧ w.cell? ⟨b, o + r * 2, none⟩ = some (.int .i64 s.1) ∧ w.cell? ⟨b, o + r * 2 + 1, none⟩ = some (.int .u32 (s.2 : Nat)) ∧ (Lit.int .i64 s.1).wf = true ∧ s.2 < 4294967296

theorem SetsAt.later {w w' : World} {q : Option Addr} {c : Nat} {Y : List (Int × Nat)} (h : SetsAt w q c Y) (f : Fr (fun _ => False) w w') : SetsAt w' q c Y := by
  refine ⟨h.cap, h.big, h.few, fun r x hr => ?_⟩
  obtain ⟨b, o, hq, hb, h0, h1, h2⟩ := h.cells r x hr
  have hc : ∀ j, w'.cell? ⟨b, j, none⟩ = w.cell? ⟨b, j, none⟩ := fun j => f.cell (p := ⟨b, j, none⟩) hb id
  exact ⟨b, o, hq, Nat.lt_of_lt_of_le hb f.size, (hc _).trans h0, (hc _).trans h1, h2⟩
theorem SetsAt.nil (w : World) : SetsAt w none 0 [] := ⟨by simp, by simp [maxLen], by simp, fun r h hr => by simp at hr⟩

theorem SetsAt.fr {S : Nat → Prop} {w w' : World} {q : Option Addr} {c : Nat} {Y : List (Int × Nat)} (h : SetsAt w q c Y) (f : Fr S w w') (hs : ∀ ad, q = some ad → 0 < Y.length → ¬ S ad.block) : SetsAt w' q c Y := by
  refine ⟨h.cap, h.big, h.few, fun r x hr => ?_⟩
  obtain ⟨b, o, hq, hb, h0, h1, h2⟩ := h.cells r x hr
  have h3 : ¬ S b := hs _ hq (by have := (List.getElem?_eq_some_iff.1 hr).1; omega)
  have hc : ∀ j, w'.cell? ⟨b, j, none⟩ = w.cell? ⟨b, j, none⟩ := fun j => f.cell (p := ⟨b, j, none⟩) hb h3
  exact ⟨b, o, hq, Nat.lt_of_lt_of_le hb f.size, (hc _).trans h0, (hc _).trans h1, h2⟩
end Go.Proofs.YtpjbgjgaigkbcaaGreat
