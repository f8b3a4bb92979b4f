/- Whether a frame may be written, by the document: kinds without padding. -/
import Derived.Test.YthcjgjmbicnklaaRa
import Derived.Test.YthcjgjmbicnklaaFg
namespace Go.Proofs.Ythcjgjmbicnklaa
open Go.RowKit
set_option linter.unusedVariables false
set_option maxRecDepth 100000
set_option maxHeartbeats 4000000

theorem may_3 (fl st pad : Int) (X : List UInt8) (code : Nat) (last inc dep : Int) (only : Bool) (wt : Int) (Y : List (Int × Nat)) (p q : Option Addr) (cp cq : Nat) (w : World) (h0 : 0 ≤ fl) (h1 : fl ≤ 255) (hs : idOk st = true) (hr : rightB 3 st = true) :
    Calls Try.prog 22 #[.agg #[.int .i64 3, .int .i64 fl, .int .i64 st, .slice p X.length cp, .int .i64 pad, .int .u32 code, .int .i64 last, .int .i64 inc, .int .i64 dep, .bool only, .int .i64 wt, .slice q Y.length cq]] w fun e w' => e = .returned (.bool (true)) ∧ Fr (fun _ => False) w w' := by
  have hg : Fr (fun _ => False) w (w.alloc (.cells #[.int .i64 3, .int .i64 fl, .int .i64 st, .slice p X.length cp, .int .i64 pad, .int .u32 code, .int .i64 last, .int .i64 inc, .int .i64 dep, .bool only, .int .i64 wt, .slice q Y.length cq] 26)) := (Fr.refl _ _).alloc _
  have K2 := fun w => right_in 3 st w
  have K3 := fun w => rpadded_in 3 w
  have K4 : ∀ w, Calls Try.prog 42 #[.int .i64 fl, .int .i64 8] w fun e w' => e = .returned (.bool (has fl 8)) ∧ w = w' := fun w => has_in fl 8 w (by omega) h0 h1
  have K5 := fun w => prio_in 3 fl w h0 h1
  rw [hr] at K2
  clear hr
  rw [show canP 3 = false by decide] at K3
  rw [show prioB 3 fl = false by simp [prioB]] at K5
  go_enter Try.func22, Try.ntmps22
  go_wp2_with first
    | (go_at_call 30; refine (K2 _).mono ?_; rintro e w' ⟨rfl, rfl⟩)
    | (go_at_call 41; refine (K3 _).mono ?_; rintro e w' ⟨rfl, rfl⟩)
    | (go_at_call 42; refine (K4 _).mono ?_; rintro e w' ⟨rfl, rfl⟩)
    | (go_at_call 43; refine (K5 _).mono ?_; rintro e w' ⟨rfl, rfl⟩)
    | (go_at_call 40; refine (rid_in _ _).mono ?_; rintro e w' ⟨rfl, rfl⟩; try rw [hs]; try rw [hi])
  all_goals go_ret
  exact ⟨rfl, hg⟩

theorem may_9 (fl st pad : Int) (X : List UInt8) (code : Nat) (last inc dep : Int) (only : Bool) (wt : Int) (Y : List (Int × Nat)) (p q : Option Addr) (cp cq : Nat) (w : World) (h0 : 0 ≤ fl) (h1 : fl ≤ 255) (hs : idOk st = true) (hr : rightB 9 st = true) :
    Calls Try.prog 22 #[.agg #[.int .i64 9, .int .i64 fl, .int .i64 st, .slice p X.length cp, .int .i64 pad, .int .u32 code, .int .i64 last, .int .i64 inc, .int .i64 dep, .bool only, .int .i64 wt, .slice q Y.length cq]] w fun e w' => e = .returned (.bool (true)) ∧ Fr (fun _ => False) w w' := by
  have hg : Fr (fun _ => False) w (w.alloc (.cells #[.int .i64 9, .int .i64 fl, .int .i64 st, .slice p X.length cp, .int .i64 pad, .int .u32 code, .int .i64 last, .int .i64 inc, .int .i64 dep, .bool only, .int .i64 wt, .slice q Y.length cq] 26)) := (Fr.refl _ _).alloc _
  have K2 := fun w => right_in 9 st w
  have K3 := fun w => rpadded_in 9 w
  have K4 : ∀ w, Calls Try.prog 42 #[.int .i64 fl, .int .i64 8] w fun e w' => e = .returned (.bool (has fl 8)) ∧ w = w' := fun w => has_in fl 8 w (by omega) h0 h1
  have K5 := fun w => prio_in 9 fl w h0 h1
  rw [hr] at K2
  clear hr
  rw [show canP 9 = false by decide] at K3
  rw [show prioB 9 fl = false by simp [prioB]] at K5
  go_enter Try.func22, Try.ntmps22
  go_wp2_with first
    | (go_at_call 30; refine (K2 _).mono ?_; rintro e w' ⟨rfl, rfl⟩)
    | (go_at_call 41; refine (K3 _).mono ?_; rintro e w' ⟨rfl, rfl⟩)
    | (go_at_call 42; refine (K4 _).mono ?_; rintro e w' ⟨rfl, rfl⟩)
    | (go_at_call 43; refine (K5 _).mono ?_; rintro e w' ⟨rfl, rfl⟩)
    | (go_at_call 40; refine (rid_in _ _).mono ?_; rintro e w' ⟨rfl, rfl⟩; try rw [hs]; try rw [hi])
  all_goals go_ret
  exact ⟨rfl, hg⟩

theorem may_6 (fl st pad : Int) (X : List UInt8) (code : Nat) (last inc dep : Int) (only : Bool) (wt : Int) (Y : List (Int × Nat)) (p q : Option Addr) (cp cq : Nat) (w : World) (h0 : 0 ≤ fl) (h1 : fl ≤ 255) (hs : idOk st = true) (hr : rightB 6 st = true) :
    Calls Try.prog 22 #[.agg #[.int .i64 6, .int .i64 fl, .int .i64 st, .slice p X.length cp, .int .i64 pad, .int .u32 code, .int .i64 last, .int .i64 inc, .int .i64 dep, .bool only, .int .i64 wt, .slice q Y.length cq]] w fun e w' => e = .returned (.bool ((X.length : Int) == 8)) ∧ Fr (fun _ => False) w w' := by
  have hg : Fr (fun _ => False) w (w.alloc (.cells #[.int .i64 6, .int .i64 fl, .int .i64 st, .slice p X.length cp, .int .i64 pad, .int .u32 code, .int .i64 last, .int .i64 inc, .int .i64 dep, .bool only, .int .i64 wt, .slice q Y.length cq] 26)) := (Fr.refl _ _).alloc _
  have K2 := fun w => right_in 6 st w
  have K3 := fun w => rpadded_in 6 w
  have K4 : ∀ w, Calls Try.prog 42 #[.int .i64 fl, .int .i64 8] w fun e w' => e = .returned (.bool (has fl 8)) ∧ w = w' := fun w => has_in fl 8 w (by omega) h0 h1
  have K5 := fun w => prio_in 6 fl w h0 h1
  rw [hr] at K2
  clear hr
  rw [show canP 6 = false by decide] at K3
  rw [show prioB 6 fl = false by simp [prioB]] at K5
  go_enter Try.func22, Try.ntmps22
  go_wp2_with first
    | (go_at_call 30; refine (K2 _).mono ?_; rintro e w' ⟨rfl, rfl⟩)
    | (go_at_call 41; refine (K3 _).mono ?_; rintro e w' ⟨rfl, rfl⟩)
    | (go_at_call 42; refine (K4 _).mono ?_; rintro e w' ⟨rfl, rfl⟩)
    | (go_at_call 43; refine (K5 _).mono ?_; rintro e w' ⟨rfl, rfl⟩)
    | (go_at_call 40; refine (rid_in _ _).mono ?_; rintro e w' ⟨rfl, rfl⟩; try rw [hs]; try rw [hi])
  all_goals go_ret
  exact ⟨rfl, hg⟩

theorem may_8a (fl st pad : Int) (X : List UInt8) (code : Nat) (last inc dep : Int) (only : Bool) (wt : Int) (Y : List (Int × Nat)) (p q : Option Addr) (cp cq : Nat) (w : World) (h0 : 0 ≤ fl) (h1 : fl ≤ 255) (hs : idOk st = true) (hr : rightB 8 st = true) (hn : inc < 1) :
    Calls Try.prog 22 #[.agg #[.int .i64 8, .int .i64 fl, .int .i64 st, .slice p X.length cp, .int .i64 pad, .int .u32 code, .int .i64 last, .int .i64 inc, .int .i64 dep, .bool only, .int .i64 wt, .slice q Y.length cq]] w fun e w' => e = .returned (.bool (false)) ∧ Fr (fun _ => False) w w' := by
  have hg : Fr (fun _ => False) w (w.alloc (.cells #[.int .i64 8, .int .i64 fl, .int .i64 st, .slice p X.length cp, .int .i64 pad, .int .u32 code, .int .i64 last, .int .i64 inc, .int .i64 dep, .bool only, .int .i64 wt, .slice q Y.length cq] 26)) := (Fr.refl _ _).alloc _
  have K2 := fun w => right_in 8 st w
  have K3 := fun w => rpadded_in 8 w
  have K4 : ∀ w, Calls Try.prog 42 #[.int .i64 fl, .int .i64 8] w fun e w' => e = .returned (.bool (has fl 8)) ∧ w = w' := fun w => has_in fl 8 w (by omega) h0 h1
  have K5 := fun w => prio_in 8 fl w h0 h1
  rw [hr] at K2
  clear hr
  rw [show canP 8 = false by decide] at K3
  rw [show prioB 8 fl = false by simp [prioB]] at K5
  go_enter Try.func22, Try.ntmps22
  go_wp2_with first
    | (go_at_call 30; refine (K2 _).mono ?_; rintro e w' ⟨rfl, rfl⟩)
    | (go_at_call 41; refine (K3 _).mono ?_; rintro e w' ⟨rfl, rfl⟩)
    | (go_at_call 42; refine (K4 _).mono ?_; rintro e w' ⟨rfl, rfl⟩)
    | (go_at_call 43; refine (K5 _).mono ?_; rintro e w' ⟨rfl, rfl⟩)
    | (go_at_call 40; refine (rid_in _ _).mono ?_; rintro e w' ⟨rfl, rfl⟩; try rw [hs]; try rw [hi])
  all_goals go_ret
  exact ⟨rfl, hg⟩

theorem may_8b (fl st pad : Int) (X : List UInt8) (code : Nat) (last inc dep : Int) (only : Bool) (wt : Int) (Y : List (Int × Nat)) (p q : Option Addr) (cp cq : Nat) (w : World) (h0 : 0 ≤ fl) (h1 : fl ≤ 255) (hs : idOk st = true) (hr : rightB 8 st = true) (hn : 1 ≤ inc) :
    Calls Try.prog 22 #[.agg #[.int .i64 8, .int .i64 fl, .int .i64 st, .slice p X.length cp, .int .i64 pad, .int .u32 code, .int .i64 last, .int .i64 inc, .int .i64 dep, .bool only, .int .i64 wt, .slice q Y.length cq]] w fun e w' => e = .returned (.bool (decide (inc ≤ 2147483647))) ∧ Fr (fun _ => False) w w' := by
  have hg : Fr (fun _ => False) w (w.alloc (.cells #[.int .i64 8, .int .i64 fl, .int .i64 st, .slice p X.length cp, .int .i64 pad, .int .u32 code, .int .i64 last, .int .i64 inc, .int .i64 dep, .bool only, .int .i64 wt, .slice q Y.length cq] 26)) := (Fr.refl _ _).alloc _
  have K2 := fun w => right_in 8 st w
  have K3 := fun w => rpadded_in 8 w
  have K4 : ∀ w, Calls Try.prog 42 #[.int .i64 fl, .int .i64 8] w fun e w' => e = .returned (.bool (has fl 8)) ∧ w = w' := fun w => has_in fl 8 w (by omega) h0 h1
  have K5 := fun w => prio_in 8 fl w h0 h1
  rw [hr] at K2
  clear hr
  rw [show canP 8 = false by decide] at K3
  rw [show prioB 8 fl = false by simp [prioB]] at K5
  go_enter Try.func22, Try.ntmps22
  go_wp2_with first
    | (go_at_call 30; refine (K2 _).mono ?_; rintro e w' ⟨rfl, rfl⟩)
    | (go_at_call 41; refine (K3 _).mono ?_; rintro e w' ⟨rfl, rfl⟩)
    | (go_at_call 42; refine (K4 _).mono ?_; rintro e w' ⟨rfl, rfl⟩)
    | (go_at_call 43; refine (K5 _).mono ?_; rintro e w' ⟨rfl, rfl⟩)
    | (go_at_call 40; refine (rid_in _ _).mono ?_; rintro e w' ⟨rfl, rfl⟩; try rw [hs]; try rw [hi])
  all_goals go_ret
  exact ⟨rfl, hg⟩

theorem may_7 (fl st pad : Int) (X : List UInt8) (code : Nat) (last inc dep : Int) (only : Bool) (wt : Int) (Y : List (Int × Nat)) (p q : Option Addr) (cp cq : Nat) (w : World) (h0 : 0 ≤ fl) (h1 : fl ≤ 255) (hs : idOk st = true) (hr : rightB 7 st = true) :
    Calls Try.prog 22 #[.agg #[.int .i64 7, .int .i64 fl, .int .i64 st, .slice p X.length cp, .int .i64 pad, .int .u32 code, .int .i64 last, .int .i64 inc, .int .i64 dep, .bool only, .int .i64 wt, .slice q Y.length cq]] w fun e w' => e = .returned (.bool (idOk last)) ∧ Fr (fun _ => False) w w' := by
  have hg : Fr (fun _ => False) w (w.alloc (.cells #[.int .i64 7, .int .i64 fl, .int .i64 st, .slice p X.length cp, .int .i64 pad, .int .u32 code, .int .i64 last, .int .i64 inc, .int .i64 dep, .bool only, .int .i64 wt, .slice q Y.length cq] 26)) := (Fr.refl _ _).alloc _
  have K2 := fun w => right_in 7 st w
  have K3 := fun w => rpadded_in 7 w
  have K4 : ∀ w, Calls Try.prog 42 #[.int .i64 fl, .int .i64 8] w fun e w' => e = .returned (.bool (has fl 8)) ∧ w = w' := fun w => has_in fl 8 w (by omega) h0 h1
  have K5 := fun w => prio_in 7 fl w h0 h1
  rw [hr] at K2
  clear hr
  rw [show canP 7 = false by decide] at K3
  rw [show prioB 7 fl = false by simp [prioB]] at K5
  go_enter Try.func22, Try.ntmps22
  go_wp2_with first
    | (go_at_call 30; refine (K2 _).mono ?_; rintro e w' ⟨rfl, rfl⟩)
    | (go_at_call 41; refine (K3 _).mono ?_; rintro e w' ⟨rfl, rfl⟩)
    | (go_at_call 42; refine (K4 _).mono ?_; rintro e w' ⟨rfl, rfl⟩)
    | (go_at_call 43; refine (K5 _).mono ?_; rintro e w' ⟨rfl, rfl⟩)
    | (go_at_call 40; refine (rid_in _ _).mono ?_; rintro e w' ⟨rfl, rfl⟩; try rw [hs]; try rw [hi])
  all_goals go_ret
  exact ⟨rfl, hg⟩

theorem may_2 (fl st pad : Int) (X : List UInt8) (code : Nat) (last inc dep : Int) (only : Bool) (wt : Int) (Y : List (Int × Nat)) (p q : Option Addr) (cp cq : Nat) (w : World) (h0 : 0 ≤ fl) (h1 : fl ≤ 255) (hs : idOk st = true) (hr : rightB 2 st = true) (hi : idOk dep = true) (hj : 1 ≤ wt) (hk : wt ≤ 256) :
    Calls Try.prog 22 #[.agg #[.int .i64 2, .int .i64 fl, .int .i64 st, .slice p X.length cp, .int .i64 pad, .int .u32 code, .int .i64 last, .int .i64 inc, .int .i64 dep, .bool only, .int .i64 wt, .slice q Y.length cq]] w fun e w' => e = .returned (.bool (true)) ∧ Fr (fun _ => False) w w' := by
  have hg : Fr (fun _ => False) w (w.alloc (.cells #[.int .i64 2, .int .i64 fl, .int .i64 st, .slice p X.length cp, .int .i64 pad, .int .u32 code, .int .i64 last, .int .i64 inc, .int .i64 dep, .bool only, .int .i64 wt, .slice q Y.length cq] 26)) := (Fr.refl _ _).alloc _
  have K2 := fun w => right_in 2 st w
  have K3 := fun w => rpadded_in 2 w
  have K4 : ∀ w, Calls Try.prog 42 #[.int .i64 fl, .int .i64 8] w fun e w' => e = .returned (.bool (has fl 8)) ∧ w = w' := fun w => has_in fl 8 w (by omega) h0 h1
  have K5 := fun w => prio_in 2 fl w h0 h1
  rw [hr] at K2
  clear hr
  rw [show canP 2 = false by decide] at K3
  rw [show prioB 2 fl = true by simp [prioB]] at K5
  go_enter Try.func22, Try.ntmps22
  go_wp2_with first
    | (go_at_call 30; refine (K2 _).mono ?_; rintro e w' ⟨rfl, rfl⟩)
    | (go_at_call 41; refine (K3 _).mono ?_; rintro e w' ⟨rfl, rfl⟩)
    | (go_at_call 42; refine (K4 _).mono ?_; rintro e w' ⟨rfl, rfl⟩)
    | (go_at_call 43; refine (K5 _).mono ?_; rintro e w' ⟨rfl, rfl⟩)
    | (go_at_call 40; refine (rid_in _ _).mono ?_; rintro e w' ⟨rfl, rfl⟩; try rw [hs]; try rw [hi])
  all_goals go_ret
  exact ⟨rfl, hg⟩

end Go.Proofs.Ythcjgjmbicnklaa
