/- What readScript answers; the sign of a remark. -/
import Derived.Test.YtfehmlopndklcaaDoorSco
import Derived.Test.YtfehmlopndklcaaDoorScbb
import Derived.Test.YtfehmlopndklcaaDoorScs
import Derived.Test.YtfehmlopndklcaaDoorScp
namespace Go.Proofs.YtfehmlopndklcaaDoor
open Go.RowKit
set_option maxRecDepth 100000
set_option maxHeartbeats 4000000
set_option linter.unusedVariables false

theorem hash_has (l : List UInt8) : Lib.hasPrefix l [35] = decide (l.head? = some 35) := by
  cases l with
  | nil => rfl
  | cons c r =>
    simp only [Lib.hasPrefix, List.isPrefixOf, List.head?_cons, Option.some.injEq, Bool.and_true]
    by_cases h : c = 35
    · subst h; rfl
    · rw [decide_eq_false h]
      simpa using fun e => h e.symm
theorem hasP_in (s : ByteArray) (w : World) : Calls Tryd.prog 28 #[.string s, .string ⟨#[35]⟩] w fun e w' => e = .returned (.bool (decide ((tx s).head? = some 35))) ∧ w = w' :=
  (Any.strings_HasPrefix oHasP s ⟨#[35]⟩ w).mono fun e w' h => ⟨by rw [h.1, ← hash_has]; rfl, h.2.symm⟩
/-- What readScript answers. -/
def RSAs (s : ByteArray) (w : World) (e : Ending) (w' : World) : Prop := Fr (fun _ => False) w w' ∧
  ((65536 < s.size ∧ ∃ v, ErrIs v 0 2 ∧ e = .returned (.tuple #[.slice none 0 0, v])) ∨ (s.size ≤ 65536 ∧
    ((∃ (k : Nat) (n : Int) (v : Value), scriptO (tx s) = .inr (k, n) ∧ ErrIs v k n ∧ e = .returned (.tuple #[.slice none 0 0, v])) ∨
      ∃ (E : List (Dr × Value)) (q : Option Addr) (c : Nat), scriptO (tx s) = .inl (E.map (·.1)) ∧ e = .returned (.tuple #[.slice q E.length c, .nilIface]) ∧ EvAt w' (.slice q E.length c) E)))
end Go.Proofs.YtfehmlopndklcaaDoor
