/- Whether a frame may be written, by the document: kinds with padding. -/
import Derived.Test.YthcjgjmbicnklaaRa
import Derived.Test.YthcjgjmbicnklaaFg
namespace Go.Proofs.Ythcjgjmbicnklaa
open Go.RowKit
set_option linter.unusedVariables false
set_option maxRecDepth 100000
set_option maxHeartbeats 4000000

theorem may_0z (fl st pad : Int) (X : List UInt8) (code : Nat) (last inc dep : Int) (only : Bool) (wt : Int) (Y : List (Int × Nat)) (p q : Option Addr) (cp cq : Nat) (w : World) (h0 : 0 ≤ fl) (h1 : fl ≤ 255) (hs : idOk st = true) (hr : rightB 0 st = true) :
    Calls Try.prog 22 #[.agg #[.int .i64 0, .int .i64 fl, .int .i64 st, .slice p X.length cp, .int .i64 0, .int .u32 code, .int .i64 last, .int .i64 inc, .int .i64 dep, .bool only, .int .i64 wt, .slice q Y.length cq]] w fun e w' => e = .returned (.bool (true)) ∧ Fr (fun _ => False) w w' := by
  have hg : Fr (fun _ => False) w (w.alloc (.cells #[.int .i64 0, .int .i64 fl, .int .i64 st, .slice p X.length cp, .int .i64 0, .int .u32 code, .int .i64 last, .int .i64 inc, .int .i64 dep, .bool only, .int .i64 wt, .slice q Y.length cq] 26)) := (Fr.refl _ _).alloc _
  have K2 := fun w => right_in 0 st w
  have K3 := fun w => rpadded_in 0 w
  have K4 : ∀ w, Calls Try.prog 42 #[.int .i64 fl, .int .i64 8] w fun e w' => e = .returned (.bool (has fl 8)) ∧ w = w' := fun w => has_in fl 8 w (by omega) h0 h1
  have K5 := fun w => prio_in 0 fl w h0 h1
  rw [hr] at K2
  clear hr
  rw [show canP 0 = true by decide] at K3
  rw [show prioB 0 fl = false by simp [prioB]] at K5
  go_enter Try.func22, Try.ntmps22
  go_wp2_with first
    | (go_at_call 30; refine (K2 _).mono ?_; rintro e w' ⟨rfl, rfl⟩)
    | (go_at_call 41; refine (K3 _).mono ?_; rintro e w' ⟨rfl, rfl⟩)
    | (go_at_call 42; refine (K4 _).mono ?_; rintro e w' ⟨rfl, rfl⟩)
    | (go_at_call 43; refine (K5 _).mono ?_; rintro e w' ⟨rfl, rfl⟩)
    | (go_at_call 40; refine (rid_in _ _).mono ?_; rintro e w' ⟨rfl, rfl⟩; try rw [hs]; try rw [hi])
  all_goals go_ret
  exact ⟨rfl, hg⟩

theorem may_1z (fl st pad : Int) (X : List UInt8) (code : Nat) (last inc dep : Int) (only : Bool) (wt : Int) (Y : List (Int × Nat)) (p q : Option Addr) (cp cq : Nat) (w : World) (h0 : 0 ≤ fl) (h1 : fl ≤ 255) (hs : idOk st = true) (hr : rightB 1 st = true) (hq : has fl 32 = false) :
    Calls Try.prog 22 #[.agg #[.int .i64 1, .int .i64 fl, .int .i64 st, .slice p X.length cp, .int .i64 0, .int .u32 code, .int .i64 last, .int .i64 inc, .int .i64 dep, .bool only, .int .i64 wt, .slice q Y.length cq]] w fun e w' => e = .returned (.bool (true)) ∧ Fr (fun _ => False) w w' := by
  have hg : Fr (fun _ => False) w (w.alloc (.cells #[.int .i64 1, .int .i64 fl, .int .i64 st, .slice p X.length cp, .int .i64 0, .int .u32 code, .int .i64 last, .int .i64 inc, .int .i64 dep, .bool only, .int .i64 wt, .slice q Y.length cq] 26)) := (Fr.refl _ _).alloc _
  have K2 := fun w => right_in 1 st w
  have K3 := fun w => rpadded_in 1 w
  have K4 : ∀ w, Calls Try.prog 42 #[.int .i64 fl, .int .i64 8] w fun e w' => e = .returned (.bool (has fl 8)) ∧ w = w' := fun w => has_in fl 8 w (by omega) h0 h1
  have K5 := fun w => prio_in 1 fl w h0 h1
  rw [hr] at K2
  clear hr
  rw [show canP 1 = true by decide] at K3
  rw [show prioB 1 fl = false by rw [← hq]; simp [prioB]] at K5
  clear hq
  go_enter Try.func22, Try.ntmps22
  go_wp2_with first
    | (go_at_call 30; refine (K2 _).mono ?_; rintro e w' ⟨rfl, rfl⟩)
    | (go_at_call 41; refine (K3 _).mono ?_; rintro e w' ⟨rfl, rfl⟩)
    | (go_at_call 42; refine (K4 _).mono ?_; rintro e w' ⟨rfl, rfl⟩)
    | (go_at_call 43; refine (K5 _).mono ?_; rintro e w' ⟨rfl, rfl⟩)
    | (go_at_call 40; refine (rid_in _ _).mono ?_; rintro e w' ⟨rfl, rfl⟩; try rw [hs]; try rw [hi])
  all_goals go_ret
  exact ⟨rfl, hg⟩

theorem may_1pz (fl st pad : Int) (X : List UInt8) (code : Nat) (last inc dep : Int) (only : Bool) (wt : Int) (Y : List (Int × Nat)) (p q : Option Addr) (cp cq : Nat) (w : World) (h0 : 0 ≤ fl) (h1 : fl ≤ 255) (hs : idOk st = true) (hr : rightB 1 st = true) (hq : has fl 32 = true) (hi : idOk dep = true) (hj : 1 ≤ wt) (hk : wt ≤ 256) :
    Calls Try.prog 22 #[.agg #[.int .i64 1, .int .i64 fl, .int .i64 st, .slice p X.length cp, .int .i64 0, .int .u32 code, .int .i64 last, .int .i64 inc, .int .i64 dep, .bool only, .int .i64 wt, .slice q Y.length cq]] w fun e w' => e = .returned (.bool (true)) ∧ Fr (fun _ => False) w w' := by
  have hg : Fr (fun _ => False) w (w.alloc (.cells #[.int .i64 1, .int .i64 fl, .int .i64 st, .slice p X.length cp, .int .i64 0, .int .u32 code, .int .i64 last, .int .i64 inc, .int .i64 dep, .bool only, .int .i64 wt, .slice q Y.length cq] 26)) := (Fr.refl _ _).alloc _
  have K2 := fun w => right_in 1 st w
  have K3 := fun w => rpadded_in 1 w
  have K4 : ∀ w, Calls Try.prog 42 #[.int .i64 fl, .int .i64 8] w fun e w' => e = .returned (.bool (has fl 8)) ∧ w = w' := fun w => has_in fl 8 w (by omega) h0 h1
  have K5 := fun w => prio_in 1 fl w h0 h1
  rw [hr] at K2
  clear hr
  rw [show canP 1 = true by decide] at K3
  rw [show prioB 1 fl = true by rw [← hq]; simp [prioB]] at K5
  clear hq
  go_enter Try.func22, Try.ntmps22
  go_wp2_with first
    | (go_at_call 30; refine (K2 _).mono ?_; rintro e w' ⟨rfl, rfl⟩)
    | (go_at_call 41; refine (K3 _).mono ?_; rintro e w' ⟨rfl, rfl⟩)
    | (go_at_call 42; refine (K4 _).mono ?_; rintro e w' ⟨rfl, rfl⟩)
    | (go_at_call 43; refine (K5 _).mono ?_; rintro e w' ⟨rfl, rfl⟩)
    | (go_at_call 40; refine (rid_in _ _).mono ?_; rintro e w' ⟨rfl, rfl⟩; try rw [hs]; try rw [hi])
  all_goals go_ret
  exact ⟨rfl, hg⟩

theorem may_5z (fl st pad : Int) (X : List UInt8) (code : Nat) (last inc dep : Int) (only : Bool) (wt : Int) (Y : List (Int × Nat)) (p q : Option Addr) (cp cq : Nat) (w : World) (h0 : 0 ≤ fl) (h1 : fl ≤ 255) (hs : idOk st = true) (hr : rightB 5 st = true) :
    Calls Try.prog 22 #[.agg #[.int .i64 5, .int .i64 fl, .int .i64 st, .slice p X.length cp, .int .i64 0, .int .u32 code, .int .i64 last, .int .i64 inc, .int .i64 dep, .bool only, .int .i64 wt, .slice q Y.length cq]] w fun e w' => e = .returned (.bool (idOk last)) ∧ Fr (fun _ => False) w w' := by
  have hg : Fr (fun _ => False) w (w.alloc (.cells #[.int .i64 5, .int .i64 fl, .int .i64 st, .slice p X.length cp, .int .i64 0, .int .u32 code, .int .i64 last, .int .i64 inc, .int .i64 dep, .bool only, .int .i64 wt, .slice q Y.length cq] 26)) := (Fr.refl _ _).alloc _
  have K2 := fun w => right_in 5 st w
  have K3 := fun w => rpadded_in 5 w
  have K4 : ∀ w, Calls Try.prog 42 #[.int .i64 fl, .int .i64 8] w fun e w' => e = .returned (.bool (has fl 8)) ∧ w = w' := fun w => has_in fl 8 w (by omega) h0 h1
  have K5 := fun w => prio_in 5 fl w h0 h1
  rw [hr] at K2
  clear hr
  rw [show canP 5 = true by decide] at K3
  rw [show prioB 5 fl = false by simp [prioB]] at K5
  go_enter Try.func22, Try.ntmps22
  go_wp2_with first
    | (go_at_call 30; refine (K2 _).mono ?_; rintro e w' ⟨rfl, rfl⟩)
    | (go_at_call 41; refine (K3 _).mono ?_; rintro e w' ⟨rfl, rfl⟩)
    | (go_at_call 42; refine (K4 _).mono ?_; rintro e w' ⟨rfl, rfl⟩)
    | (go_at_call 43; refine (K5 _).mono ?_; rintro e w' ⟨rfl, rfl⟩)
    | (go_at_call 40; refine (rid_in _ _).mono ?_; rintro e w' ⟨rfl, rfl⟩; try rw [hs]; try rw [hi])
  all_goals go_ret
  exact ⟨rfl, hg⟩

theorem may_0s (fl st pad : Int) (X : List UInt8) (code : Nat) (last inc dep : Int) (only : Bool) (wt : Int) (Y : List (Int × Nat)) (p q : Option Addr) (cp cq : Nat) (w : World) (h0 : 0 ≤ fl) (h1 : fl ≤ 255) (hs : idOk st = true) (hr : rightB 0 st = true) (hp : 0 < pad) (hp2 : pad ≤ 255) (h8 : has fl 8 = true) :
    Calls Try.prog 22 #[.agg #[.int .i64 0, .int .i64 fl, .int .i64 st, .slice p X.length cp, .int .i64 pad, .int .u32 code, .int .i64 last, .int .i64 inc, .int .i64 dep, .bool only, .int .i64 wt, .slice q Y.length cq]] w fun e w' => e = .returned (.bool (true)) ∧ Fr (fun _ => False) w w' := by
  have hg : Fr (fun _ => False) w (w.alloc (.cells #[.int .i64 0, .int .i64 fl, .int .i64 st, .slice p X.length cp, .int .i64 pad, .int .u32 code, .int .i64 last, .int .i64 inc, .int .i64 dep, .bool only, .int .i64 wt, .slice q Y.length cq] 26)) := (Fr.refl _ _).alloc _
  have K2 := fun w => right_in 0 st w
  have K3 := fun w => rpadded_in 0 w
  have K4 : ∀ w, Calls Try.prog 42 #[.int .i64 fl, .int .i64 8] w fun e w' => e = .returned (.bool (has fl 8)) ∧ w = w' := fun w => has_in fl 8 w (by omega) h0 h1
  have K5 := fun w => prio_in 0 fl w h0 h1
  rw [hr] at K2
  clear hr
  rw [show canP 0 = true by decide] at K3
  rw [show prioB 0 fl = false by simp [prioB]] at K5
  rw [h8] at K4
  clear h8
  go_enter Try.func22, Try.ntmps22
  go_wp2_with first
    | (go_at_call 30; refine (K2 _).mono ?_; rintro e w' ⟨rfl, rfl⟩)
    | (go_at_call 41; refine (K3 _).mono ?_; rintro e w' ⟨rfl, rfl⟩)
    | (go_at_call 42; refine (K4 _).mono ?_; rintro e w' ⟨rfl, rfl⟩)
    | (go_at_call 43; refine (K5 _).mono ?_; rintro e w' ⟨rfl, rfl⟩)
    | (go_at_call 40; refine (rid_in _ _).mono ?_; rintro e w' ⟨rfl, rfl⟩; try rw [hs]; try rw [hi])
  all_goals go_ret
  exact ⟨rfl, hg⟩

theorem may_1s (fl st pad : Int) (X : List UInt8) (code : Nat) (last inc dep : Int) (only : Bool) (wt : Int) (Y : List (Int × Nat)) (p q : Option Addr) (cp cq : Nat) (w : World) (h0 : 0 ≤ fl) (h1 : fl ≤ 255) (hs : idOk st = true) (hr : rightB 1 st = true) (hp : 0 < pad) (hp2 : pad ≤ 255) (h8 : has fl 8 = true) (hq : has fl 32 = false) :
    Calls Try.prog 22 #[.agg #[.int .i64 1, .int .i64 fl, .int .i64 st, .slice p X.length cp, .int .i64 pad, .int .u32 code, .int .i64 last, .int .i64 inc, .int .i64 dep, .bool only, .int .i64 wt, .slice q Y.length cq]] w fun e w' => e = .returned (.bool (true)) ∧ Fr (fun _ => False) w w' := by
  have hg : Fr (fun _ => False) w (w.alloc (.cells #[.int .i64 1, .int .i64 fl, .int .i64 st, .slice p X.length cp, .int .i64 pad, .int .u32 code, .int .i64 last, .int .i64 inc, .int .i64 dep, .bool only, .int .i64 wt, .slice q Y.length cq] 26)) := (Fr.refl _ _).alloc _
  have K2 := fun w => right_in 1 st w
  have K3 := fun w => rpadded_in 1 w
  have K4 : ∀ w, Calls Try.prog 42 #[.int .i64 fl, .int .i64 8] w fun e w' => e = .returned (.bool (has fl 8)) ∧ w = w' := fun w => has_in fl 8 w (by omega) h0 h1
  have K5 := fun w => prio_in 1 fl w h0 h1
  rw [hr] at K2
  clear hr
  rw [show canP 1 = true by decide] at K3
  rw [show prioB 1 fl = false by rw [← hq]; simp [prioB]] at K5
  clear hq
  rw [h8] at K4
  clear h8
  go_enter Try.func22, Try.ntmps22
  go_wp2_with first
    | (go_at_call 30; refine (K2 _).mono ?_; rintro e w' ⟨rfl, rfl⟩)
    | (go_at_call 41; refine (K3 _).mono ?_; rintro e w' ⟨rfl, rfl⟩)
    | (go_at_call 42; refine (K4 _).mono ?_; rintro e w' ⟨rfl, rfl⟩)
    | (go_at_call 43; refine (K5 _).mono ?_; rintro e w' ⟨rfl, rfl⟩)
    | (go_at_call 40; refine (rid_in _ _).mono ?_; rintro e w' ⟨rfl, rfl⟩; try rw [hs]; try rw [hi])
  all_goals go_ret
  exact ⟨rfl, hg⟩

theorem may_1ps (fl st pad : Int) (X : List UInt8) (code : Nat) (last inc dep : Int) (only : Bool) (wt : Int) (Y : List (Int × Nat)) (p q : Option Addr) (cp cq : Nat) (w : World) (h0 : 0 ≤ fl) (h1 : fl ≤ 255) (hs : idOk st = true) (hr : rightB 1 st = true) (hp : 0 < pad) (hp2 : pad ≤ 255) (h8 : has fl 8 = true) (hq : has fl 32 = true) (hi : idOk dep = true) (hj : 1 ≤ wt) (hk : wt ≤ 256) :
    Calls Try.prog 22 #[.agg #[.int .i64 1, .int .i64 fl, .int .i64 st, .slice p X.length cp, .int .i64 pad, .int .u32 code, .int .i64 last, .int .i64 inc, .int .i64 dep, .bool only, .int .i64 wt, .slice q Y.length cq]] w fun e w' => e = .returned (.bool (true)) ∧ Fr (fun _ => False) w w' := by
  have hg : Fr (fun _ => False) w (w.alloc (.cells #[.int .i64 1, .int .i64 fl, .int .i64 st, .slice p X.length cp, .int .i64 pad, .int .u32 code, .int .i64 last, .int .i64 inc, .int .i64 dep, .bool only, .int .i64 wt, .slice q Y.length cq] 26)) := (Fr.refl _ _).alloc _
  have K2 := fun w => right_in 1 st w
  have K3 := fun w => rpadded_in 1 w
  have K4 : ∀ w, Calls Try.prog 42 #[.int .i64 fl, .int .i64 8] w fun e w' => e = .returned (.bool (has fl 8)) ∧ w = w' := fun w => has_in fl 8 w (by omega) h0 h1
  have K5 := fun w => prio_in 1 fl w h0 h1
  rw [hr] at K2
  clear hr
  rw [show canP 1 = true by decide] at K3
  rw [show prioB 1 fl = true by rw [← hq]; simp [prioB]] at K5
  clear hq
  rw [h8] at K4
  clear h8
  go_enter Try.func22, Try.ntmps22
  go_wp2_with first
    | (go_at_call 30; refine (K2 _).mono ?_; rintro e w' ⟨rfl, rfl⟩)
    | (go_at_call 41; refine (K3 _).mono ?_; rintro e w' ⟨rfl, rfl⟩)
    | (go_at_call 42; refine (K4 _).mono ?_; rintro e w' ⟨rfl, rfl⟩)
    | (go_at_call 43; refine (K5 _).mono ?_; rintro e w' ⟨rfl, rfl⟩)
    | (go_at_call 40; refine (rid_in _ _).mono ?_; rintro e w' ⟨rfl, rfl⟩; try rw [hs]; try rw [hi])
  all_goals go_ret
  exact ⟨rfl, hg⟩

theorem may_5s (fl st pad : Int) (X : List UInt8) (code : Nat) (last inc dep : Int) (only : Bool) (wt : Int) (Y : List (Int × Nat)) (p q : Option Addr) (cp cq : Nat) (w : World) (h0 : 0 ≤ fl) (h1 : fl ≤ 255) (hs : idOk st = true) (hr : rightB 5 st = true) (hp : 0 < pad) (hp2 : pad ≤ 255) (h8 : has fl 8 = true) :
    Calls Try.prog 22 #[.agg #[.int .i64 5, .int .i64 fl, .int .i64 st, .slice p X.length cp, .int .i64 pad, .int .u32 code, .int .i64 last, .int .i64 inc, .int .i64 dep, .bool only, .int .i64 wt, .slice q Y.length cq]] w fun e w' => e = .returned (.bool (idOk last)) ∧ Fr (fun _ => False) w w' := by
  have hg : Fr (fun _ => False) w (w.alloc (.cells #[.int .i64 5, .int .i64 fl, .int .i64 st, .slice p X.length cp, .int .i64 pad, .int .u32 code, .int .i64 last, .int .i64 inc, .int .i64 dep, .bool only, .int .i64 wt, .slice q Y.length cq] 26)) := (Fr.refl _ _).alloc _
  have K2 := fun w => right_in 5 st w
  have K3 := fun w => rpadded_in 5 w
  have K4 : ∀ w, Calls Try.prog 42 #[.int .i64 fl, .int .i64 8] w fun e w' => e = .returned (.bool (has fl 8)) ∧ w = w' := fun w => has_in fl 8 w (by omega) h0 h1
  have K5 := fun w => prio_in 5 fl w h0 h1
  rw [hr] at K2
  clear hr
  rw [show canP 5 = true by decide] at K3
  rw [show prioB 5 fl = false by simp [prioB]] at K5
  rw [h8] at K4
  clear h8
  go_enter Try.func22, Try.ntmps22
  go_wp2_with first
    | (go_at_call 30; refine (K2 _).mono ?_; rintro e w' ⟨rfl, rfl⟩)
    | (go_at_call 41; refine (K3 _).mono ?_; rintro e w' ⟨rfl, rfl⟩)
    | (go_at_call 42; refine (K4 _).mono ?_; rintro e w' ⟨rfl, rfl⟩)
    | (go_at_call 43; refine (K5 _).mono ?_; rintro e w' ⟨rfl, rfl⟩)
    | (go_at_call 40; refine (rid_in _ _).mono ?_; rintro e w' ⟨rfl, rfl⟩; try rw [hs]; try rw [hi])
  all_goals go_ret
  exact ⟨rfl, hg⟩

end Go.Proofs.Ythcjgjmbicnklaa
