/- A word is added to an event. -/
import Derived.Test.YtfehmlopndklcaaDoorScg
import Derived.Test.YtfehmlopndklcaaDoorScs
import Derived.Stop.Asserts
import Derived.BigQuiet
namespace Go.Proofs.YtfehmlopndklcaaDoor
open Go.RowKit
set_option maxRecDepth 100000
set_option maxHeartbeats 4000000
set_option linter.unusedVariables false

def namesS : List ByteArray := [⟨#[111, 112, 101, 110]⟩, ⟨#[98, 121, 116, 101, 115]⟩, ⟨#[99, 108, 111, 115, 101]⟩, ⟨#[98, 117, 100, 103, 101, 116]⟩, ⟨#[116, 105, 99, 107]⟩, ⟨#[112, 114, 111, 98, 101]⟩, ⟨#[98, 97, 99, 107]⟩, ⟨#[115, 116, 111, 112]⟩]
theorem names_tx : namesS.map tx = namesL := by rfl
theorem idx_names (x : ByteArray) : ∀ (L : List ByteArray) (i : Nat), Lib.idxFromS L x i = match (L.map tx).findIdx? (· == tx x) with | some k => ((i + k : Nat) : Int) | none => -1
  | [], i => rfl
  | z :: r, i => by
    have ih := idx_names x r (i + 1)
    by_cases h : z = x
    · subst h
      simp [Lib.idxFromS, List.findIdx?_cons]
    · have h2 : ¬ tx z = tx x := fun e => h (tx_ext e)
      have h3 : (tx z == tx x) = false := by simpa using h2
      simp only [Lib.idxFromS, List.map_cons, List.findIdx?_cons, h3, h, if_false, Bool.false_eq_true]
      rw [ih]
      cases List.findIdx? (· == tx x) (r.map tx) with
      | none => rfl
      | some k =>
        show ((i + 1 + k : Nat) : Int) = ((i + (k + 1) : Nat) : Int)
        omega
theorem idx_kind (x : ByteArray) : Lib.idxOfS namesS x = kindI (tx x) := by
  unfold Lib.idxOfS kindI
  rw [idx_names, names_tx]
  split <;> rename_i h <;> simp [h]
theorem kinds_in (w : World) : Calls Tryd.prog 29 #[] w fun e w' => e = .returned (.slice (some ⟨w.heap.size, 0, none⟩) 8 8) ∧ w.alloc (.cells (namesS.map Value.string).toArray 9) = w' := by
  go_enter Tryd.func29, Tryd.ntmps29
  go_wp2
  go_ret
  exact ⟨rfl, rfl⟩
theorem index_in (b : Nat) (x : ByteArray) (w : World) (h : w.heap[b]? = some (.cells (namesS.map Value.string).toArray 9 (0, 0))) : Calls Tryd.prog 38 #[.slice (some ⟨b, 0, none⟩) 8 8, .string x] w fun e w' => e = .returned (.int .i64 (kindI (tx x))) ∧ w = w' := by
  have K := Any.slices_Index_string oIdxS b 0 8 8 namesS x w (by decide) (by decide) (fun j hj => by
    refine cell_of_heap h ?_
    rw [Nat.zero_add]
    simp only [List.getElem?_toArray, List.getElem?_map]
    rw [List.getElem?_eq_getElem hj]
    simp [List.getD, List.getElem?_eq_getElem hj])
  rw [List.take_of_length_le (by decide), idx_kind] at K
  exact K.mono fun e w' h => ⟨h.1, h.2.symm⟩
/-- The event of which some words were read, in memory. -/
structure DAt (W : World) (db : Nat) (x : Dr) (v : Value) : Prop where
  at_ : W.heap[db]? = some (.cells #[.int .i64 x.what, .int .i64 x.a, .int .i64 x.b, .int .i64 x.d, v, .int .i64 (x.nx : Int)] 63 (0, 0))
  dat : BAt W v x.dat
  nx : x.nx ≤ 5
def AddAs (W : World) (db : Nat) (x : Dr) (wd : Wd) (v : Value) (e : Ending) (w' : World) : Prop := Fr (fun k => k = db) W w' ∧
  ((addW x wd = none ∧ e = .returned (.iface 25 (.int .i64 4)) ∧ DAt w' db x v) ∨ ∃ y u, addW x wd = some y ∧ e = .returned .nilIface ∧ DAt w' db y u)
theorem number_in (db : Nat) (n : Nat) (W : World) (h1 : 1 ≤ n) (h4 : n < 4) (hc : W.cell? ⟨db, 5, none⟩ = some (.int .i64 (n : Int))) : Calls Tryd.prog 39 #[.pointer (some ⟨db, 0, none⟩)] W fun e w' => e = .returned (.pointer (some ⟨db, n, none⟩)) ∧ Fr (fun _ => False) W w' := by
  have i0 : ∀ w : World, (Instr.index 111 (.agg #[.pointer (some ⟨db, 1, none⟩), .pointer (some ⟨db, 2, none⟩), .pointer (some ⟨db, 3, none⟩)]) (.int .i64 (IntKind.i64.wrap 0))).run Tryd.prog w = .ok (.pointer (some ⟨db, 1, none⟩)) w := fun w => by kernel_rfl
  have i1 : ∀ w : World, (Instr.index 111 (.agg #[.pointer (some ⟨db, 1, none⟩), .pointer (some ⟨db, 2, none⟩), .pointer (some ⟨db, 3, none⟩)]) (.int .i64 (IntKind.i64.wrap 1))).run Tryd.prog w = .ok (.pointer (some ⟨db, 2, none⟩)) w := fun w => by kernel_rfl
  have i2 : ∀ w : World, (Instr.index 111 (.agg #[.pointer (some ⟨db, 1, none⟩), .pointer (some ⟨db, 2, none⟩), .pointer (some ⟨db, 3, none⟩)]) (.int .i64 (IntKind.i64.wrap 2))).run Tryd.prog w = .ok (.pointer (some ⟨db, 3, none⟩)) w := fun w => by kernel_rfl
  rcases (by omega : n = 1 ∨ n = 2 ∨ n = 3) with rfl | rfl | rfl
  all_goals
    go_enter Tryd.func39, Tryd.ntmps39
    go_wp2_with (fail)
    go_quiet (fail)
    go_wp2_with (fail)
    go_ret
    exact ⟨rfl, (Fr.refl _ _).drewN _⟩
end Go.Proofs.YtfehmlopndklcaaDoor
