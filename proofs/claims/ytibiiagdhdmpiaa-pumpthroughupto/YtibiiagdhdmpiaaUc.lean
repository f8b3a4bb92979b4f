/- The builtin clear on the end of a row. -/
import Derived.Test.YtibiiagdhdmpiaaB1
import Derived.Laws.CopyOwn
namespace Go.Proofs.Ytibiiagdhdmpiaa
open Go.RowKit
set_option maxRecDepth 100000
set_option maxHeartbeats 4000000
set_option linter.unusedVariables false

theorem fr_setRow (w : World) (g : Nat) (cs : Array Value) : Fr (fun k => k = g) w (w.setRow g cs) := Fr.setRow (S := fun k => k = g) (Fr.refl _ w) g (fun _ => rfl) cs
/-- clear of a row's end: its beginning lies as it lay. -/
theorem run_clear {P : Program} (w : World) (T ty elem : TypeId) (z : Value) (size : Nat) (hu : P.underlying T = some (.slice elem)) (hz : (zeroValue elem).run P w = .ok z w) (hzs : z.cells.size = size) (hz1 : ∀ n, ∀ v ∈ (Builtin.zeroCells z.cells n).toList, v.oneCell' = true)
    (q : Option Addr) (len cap : Nat) (g off : Nat) (cur : Array Value) (t : TypeId) (hg : w.heap[g]? = some (.cells cur t (0, 0))) (hpos : 0 < len → q = some ⟨g, off, none⟩) (hfit : off + len * size ≤ cur.size) :
    ∃ w' cur', (Builtin.clear_ #[T] ty #[.slice q len cap]).run P w = .ok (.tuple #[]) w' ∧ Hid (w'.heap[g]? = some (.cells cur' t (0, 0))) ∧ Hid (cur'.size = cur.size) ∧ Hid (cur'.toList.take off = cur.toList.take off) ∧ Hid (Fr (fun k => k = g) w w') := by
  by_cases h0 : len = 0
  · subst h0
    refine ⟨w, cur, ?_, hg, rfl, rfl, Fr.refl _ _⟩
    cases q <;> simp [Builtin.clear_, run_underlying hu]
  · obtain rfl := hpos (by omega)
    obtain ⟨zs, hzs2⟩ : ∃ zs, (Builtin.zeroCells z.cells len).toList = zs := ⟨_, rfl⟩
    have hzl : zs.length = len * size := by rw [← hzs2]; simp [Builtin.zeroCells, hzs]
    have hst := run_storeCells_at P g off t zs 0 cur w hg (by omega) (by rw [← hzs2]; exact hz1 len)
    refine ⟨w.setRow g (cur.toList.take (off + 0) ++ zs ++ cur.toList.drop (off + 0 + zs.length)).toArray, (cur.toList.take (off + 0) ++ zs ++ cur.toList.drop (off + 0 + zs.length)).toArray, ?_, setRow_heap w g cur _ t _ hg, ?_, ?_, fr_setRow w g _⟩
    · cases len with
      | zero => exact absurd rfl h0
      | succ k => simp [Builtin.clear_, run_underlying hu, hz, hzs2, hst]
    · show _ = _
      simp; omega
    · show (cur.toList.take (off + 0) ++ zs ++ cur.toList.drop (off + 0 + zs.length)).take off = cur.toList.take off
      rw [Nat.add_zero, List.append_assoc, List.take_append_of_le_length (by simp; omega), List.take_take, Nat.min_self]
end Go.Proofs.Ytibiiagdhdmpiaa
