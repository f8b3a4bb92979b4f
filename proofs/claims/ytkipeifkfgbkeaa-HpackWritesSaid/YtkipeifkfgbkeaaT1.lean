/- A table in memory; contracts of none, mayBe, Size, New, Most, Bytes, Len. -/
import Derived.Test.YtkipeifkfgbkeaaProg
import Derived.Test.YtkipeifkfgbkeaaB1
import Derived.Laws.ResultCell
namespace Go.Proofs.Ytkipeifkfgbkeaa
open Go.RowKit
set_option maxRecDepth 100000
set_option maxHeartbeats 4000000
set_option linter.unusedVariables false

/-- A table in memory: its four fields. -/
def TabAt (w : World) (t : Nat) (made : Bool) (most bytes : Nat) (v : Value) : Prop :=
  w.heap[t]? = some (.cells #[.bool made, .int .i64 most, .int .i64 bytes, v] 66 (0, 0))
theorem TabAt.c0 {w : World} {t : Nat} {d : Bool} {m b : Nat} {v : Value} (h : TabAt w t d m b v) : w.cell? ⟨t, 0, none⟩ = some (.bool d) := cell_of_heap h rfl
theorem TabAt.c1 {w : World} {t : Nat} {d : Bool} {m b : Nat} {v : Value} (h : TabAt w t d m b v) : w.cell? ⟨t, 1, none⟩ = some (.int .i64 m) := cell_of_heap h rfl
theorem TabAt.c2 {w : World} {t : Nat} {d : Bool} {m b : Nat} {v : Value} (h : TabAt w t d m b v) : w.cell? ⟨t, 2, none⟩ = some (.int .i64 b) := cell_of_heap h rfl
theorem TabAt.c3 {w : World} {t : Nat} {d : Bool} {m b : Nat} {v : Value} (h : TabAt w t d m b v) : w.cell? ⟨t, 3, none⟩ = some v := cell_of_heap h rfl
theorem TabAt.lt {w : World} {t : Nat} {d : Bool} {m b : Nat} {v : Value} (h : TabAt w t d m b v) : t < w.heap.size := lt_of_heap h

theorem none_in (t : Nat) (d : Bool) (m b : Nat) (v : Value) (w : World) (h : TabAt w t d m b v) :
    Calls Try.prog 38 #[.pointer (some ⟨t, 0, none⟩)] w fun e w' => e = .returned (.bool (!d)) ∧ w' = w := by
  have hc := h.c0
  go_enter Try.func38, Try.ntmps38
  go_wp2_with (fail)
  go_ret
  exact ⟨rfl, rfl⟩
theorem none_nil (w : World) :
    Calls Try.prog 38 #[.pointer none] w fun e w' => e = .returned (.bool true) ∧ w' = w := by
  go_enter Try.func38, Try.ntmps38
  go_wp2_with (fail)
  go_ret
  exact ⟨rfl, rfl⟩
theorem mayBe_in (n : Int) (w : World) :
    Calls Try.prog 25 #[.int .i64 n] w fun e w' => e = .returned (.bool (decide (0 ≤ n ∧ n ≤ 65536))) ∧ w' = w := by
  by_cases h1 : 0 ≤ n
  · have hd : decide (0 ≤ n) = true := decide_eq_true h1
    go_enter Try.func25, Try.ntmps25
    go_wp2_with (fail)
    go_ret
    exact ⟨by simp [h1], rfl⟩
  · have hd : decide (0 ≤ n) = false := decide_eq_false h1
    go_enter Try.func25, Try.ntmps25
    go_wp2_with (fail)
    go_ret
    exact ⟨by simp, rfl⟩
theorem Size_in (n v : ByteArray) (s : Bool) (w : World) (hn : n.size < 2 ^ 60) (hv : v.size < 2 ^ 60) :
    Calls Try.prog 32 #[.agg #[.string n, .string v, .bool s]] w fun e w' => e = .returned (.int .i64 ((n.size + v.size + 32 : Nat) : Int)) ∧ w' = w.alloc (.cells #[.string n, .string v, .bool s] 59) := by
  go_enter Try.func32, Try.ntmps32
  go_wp2_with (fail)
  go_ret
  exact ⟨by simp, rfl⟩
theorem New_in (n : Nat) (w : World) (hn : n ≤ 65536) :
    Calls Try.prog 13 #[.int .i64 (n : Int)] w fun e w' => e = .returned (.tuple #[.pointer (some ⟨w.heap.size, 0, none⟩), .int .i64 0]) ∧ w' = w.alloc (.cells #[.bool true, .int .i64 (n : Int), .int .i64 0, .slice none 0 0] 66) := by
  have K := mayBe_in (n : Int) w
  have hd : decide ((0 : Int) ≤ n ∧ (n : Int) ≤ 65536) = true := decide_eq_true (by omega)
  rw [hd] at K
  go_enter Try.func13, Try.ntmps13
  go_wp2_with (go_at_call 25; refine K.mono ?_; clear K; rintro e w' ⟨rfl, rfl⟩)
  go_ret2
  exact ⟨rfl, rfl⟩
theorem New_not (n : Int) (w : World) (hn : ¬ (0 ≤ n ∧ n ≤ 65536)) :
    Calls Try.prog 13 #[.int .i64 n] w fun e w' => e = .returned (.tuple #[.pointer none, .int .i64 1]) ∧ w' = w := by
  have K := mayBe_in n w
  rw [decide_eq_false hn] at K
  go_enter Try.func13, Try.ntmps13
  go_wp2_with (go_at_call 25; refine K.mono ?_; clear K; rintro e w' ⟨rfl, rfl⟩)
  go_ret2
  exact ⟨rfl, rfl⟩
theorem tMost_in (t m b : Nat) (v : Value) (w : World) (h : TabAt w t true m b v) :
    Calls Try.prog 28 #[.pointer (some ⟨t, 0, none⟩)] w fun e w' => e = .returned (.int .i64 (m : Int)) ∧ w' = w := by
  have hc := h.c1
  have K := none_in t true m b v w h
  go_enter Try.func28, Try.ntmps28
  go_wp2_with (go_at_call 38; refine K.mono ?_; clear K; rintro e w' ⟨rfl, rfl⟩)
  go_ret
  exact ⟨rfl, rfl⟩
theorem tBytes_in (t m b : Nat) (v : Value) (w : World) (h : TabAt w t true m b v) :
    Calls Try.prog 23 #[.pointer (some ⟨t, 0, none⟩)] w fun e w' => e = .returned (.int .i64 (b : Int)) ∧ w' = w := by
  have hc := h.c2
  have K := none_in t true m b v w h
  go_enter Try.func23, Try.ntmps23
  go_wp2_with (go_at_call 38; refine K.mono ?_; clear K; rintro e w' ⟨rfl, rfl⟩)
  go_ret
  exact ⟨rfl, rfl⟩
end Go.Proofs.Ytkipeifkfgbkeaa
