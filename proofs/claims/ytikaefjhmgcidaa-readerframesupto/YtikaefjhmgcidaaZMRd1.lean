/- Whether a frame may be written, by the document: kinds without padding. -/
import Derived.Test.YtikaefjhmgcidaaZMRa
import Derived.Test.YtikaefjhmgcidaaZMFg
namespace Go.Proofs.Ytikaefjhmgcidaa
open Go.RowKit
set_option linter.unusedVariables false
set_option maxRecDepth 100000
set_option maxHeartbeats 4000000

theorem may_3 (fl st pad : Int) (X : List UInt8) (code : Nat) (last inc dep : Int) (only : Bool) (wt : Int) (Y : List (Int × Nat)) (p q : Option Addr) (cp cq : Nat) (w : World) (h0 : 0 ≤ fl) (h1 : fl ≤ 255) (hs : idOk st = true) (hr : rightB 3 st = true) :
    Calls Try.prog 26 #[.agg #[.int .i64 3, .int .i64 fl, .int .i64 st, .slice p X.length cp, .int .i64 pad, .int .u32 code, .int .i64 last, .int .i64 inc, .int .i64 dep, .bool only, .int .i64 wt, .slice q Y.length cq]] w fun e w' => e = .returned (.bool (true)) ∧ Fr (fun _ => False) w w' := by
  have hg : Fr (fun _ => False) w (w.alloc (.cells #[.int .i64 3, .int .i64 fl, .int .i64 st, .slice p X.length cp, .int .i64 pad, .int .u32 code, .int .i64 last, .int .i64 inc, .int .i64 dep, .bool only, .int .i64 wt, .slice q Y.length cq] 36)) := (Fr.refl _ _).alloc _
  have K2 := fun w => right_in 3 st w
  have K3 := fun w => rpadded_in 3 w
  have K4 : ∀ w, Calls Try.prog 40 #[.int .i64 fl, .int .i64 8] w fun e w' => e = .returned (.bool (has fl 8)) ∧ w = w' := fun w => has_in fl 8 w (by omega) h0 h1
  have K5 := fun w => prio_in 3 fl w h0 h1
  rw [hr] at K2
  clear hr
  rw [show canP 3 = false by decide] at K3
  rw [show prioB 3 fl = false by simp [prioB]] at K5
  go_enter Try.func26, Try.ntmps26
  go_wp2_with first
    | (go_at_call 34; refine (K2 _).mono ?_; rintro e w' ⟨rfl, rfl⟩)
    | (go_at_call 39; refine (K3 _).mono ?_; rintro e w' ⟨rfl, rfl⟩)
    | (go_at_call 40; refine (K4 _).mono ?_; rintro e w' ⟨rfl, rfl⟩)
    | (go_at_call 41; refine (K5 _).mono ?_; rintro e w' ⟨rfl, rfl⟩)
    | (go_at_call 38; refine (rid_in _ _).mono ?_; rintro e w' ⟨rfl, rfl⟩; try rw [hs]; try rw [hi])
  all_goals go_ret
  exact ⟨rfl, hg⟩

theorem may_9 (fl st pad : Int) (X : List UInt8) (code : Nat) (last inc dep : Int) (only : Bool) (wt : Int) (Y : List (Int × Nat)) (p q : Option Addr) (cp cq : Nat) (w : World) (h0 : 0 ≤ fl) (h1 : fl ≤ 255) (hs : idOk st = true) (hr : rightB 9 st = true) :
    Calls Try.prog 26 #[.agg #[.int .i64 9, .int .i64 fl, .int .i64 st, .slice p X.length cp, .int .i64 pad, .int .u32 code, .int .i64 last, .int .i64 inc, .int .i64 dep, .bool only, .int .i64 wt, .slice q Y.length cq]] w fun e w' => e = .returned (.bool (true)) ∧ Fr (fun _ => False) w w' := by
  have hg : Fr (fun _ => False) w (w.alloc (.cells #[.int .i64 9, .int .i64 fl, .int .i64 st, .slice p X.length cp, .int .i64 pad, .int .u32 code, .int .i64 last, .int .i64 inc, .int .i64 dep, .bool only, .int .i64 wt, .slice q Y.length cq] 36)) := (Fr.refl _ _).alloc _
  have K2 := fun w => right_in 9 st w
  have K3 := fun w => rpadded_in 9 w
  have K4 : ∀ w, Calls Try.prog 40 #[.int .i64 fl, .int .i64 8] w fun e w' => e = .returned (.bool (has fl 8)) ∧ w = w' := fun w => has_in fl 8 w (by omega) h0 h1
  have K5 := fun w => prio_in 9 fl w h0 h1
  rw [hr] at K2
  clear hr
  rw [show canP 9 = false by decide] at K3
  rw [show prioB 9 fl = false by simp [prioB]] at K5
  go_enter Try.func26, Try.ntmps26
  go_wp2_with first
    | (go_at_call 34; refine (K2 _).mono ?_; rintro e w' ⟨rfl, rfl⟩)
    | (go_at_call 39; refine (K3 _).mono ?_; rintro e w' ⟨rfl, rfl⟩)
    | (go_at_call 40; refine (K4 _).mono ?_; rintro e w' ⟨rfl, rfl⟩)
    | (go_at_call 41; refine (K5 _).mono ?_; rintro e w' ⟨rfl, rfl⟩)
    | (go_at_call 38; refine (rid_in _ _).mono ?_; rintro e w' ⟨rfl, rfl⟩; try rw [hs]; try rw [hi])
  all_goals go_ret
  exact ⟨rfl, hg⟩

theorem may_6 (fl st pad : Int) (X : List UInt8) (code : Nat) (last inc dep : Int) (only : Bool) (wt : Int) (Y : List (Int × Nat)) (p q : Option Addr) (cp cq : Nat) (w : World) (h0 : 0 ≤ fl) (h1 : fl ≤ 255) (hs : idOk st = true) (hr : rightB 6 st = true) :
    Calls Try.prog 26 #[.agg #[.int .i64 6, .int .i64 fl, .int .i64 st, .slice p X.length cp, .int .i64 pad, .int .u32 code, .int .i64 last, .int .i64 inc, .int .i64 dep, .bool only, .int .i64 wt, .slice q Y.length cq]] w fun e w' => e = .returned (.bool ((X.length : Int) == 8)) ∧ Fr (fun _ => False) w w' := by
  have hg : Fr (fun _ => False) w (w.alloc (.cells #[.int .i64 6, .int .i64 fl, .int .i64 st, .slice p X.length cp, .int .i64 pad, .int .u32 code, .int .i64 last, .int .i64 inc, .int .i64 dep, .bool only, .int .i64 wt, .slice q Y.length cq] 36)) := (Fr.refl _ _).alloc _
  have K2 := fun w => right_in 6 st w
  have K3 := fun w => rpadded_in 6 w
  have K4 : ∀ w, Calls Try.prog 40 #[.int .i64 fl, .int .i64 8] w fun e w' => e = .returned (.bool (has fl 8)) ∧ w = w' := fun w => has_in fl 8 w (by omega) h0 h1
  have K5 := fun w => prio_in 6 fl w h0 h1
  rw [hr] at K2
  clear hr
  rw [show canP 6 = false by decide] at K3
  rw [show prioB 6 fl = false by simp [prioB]] at K5
  go_enter Try.func26, Try.ntmps26
  go_wp2_with first
    | (go_at_call 34; refine (K2 _).mono ?_; rintro e w' ⟨rfl, rfl⟩)
    | (go_at_call 39; refine (K3 _).mono ?_; rintro e w' ⟨rfl, rfl⟩)
    | (go_at_call 40; refine (K4 _).mono ?_; rintro e w' ⟨rfl, rfl⟩)
    | (go_at_call 41; refine (K5 _).mono ?_; rintro e w' ⟨rfl, rfl⟩)
    | (go_at_call 38; refine (rid_in _ _).mono ?_; rintro e w' ⟨rfl, rfl⟩; try rw [hs]; try rw [hi])
  all_goals go_ret
  exact ⟨rfl, hg⟩

theorem may_8a (fl st pad : Int) (X : List UInt8) (code : Nat) (last inc dep : Int) (only : Bool) (wt : Int) (Y : List (Int × Nat)) (p q : Option Addr) (cp cq : Nat) (w : World) (h0 : 0 ≤ fl) (h1 : fl ≤ 255) (hs : idOk st = true) (hr : rightB 8 st = true) (hn : inc < 1) :
    Calls Try.prog 26 #[.agg #[.int .i64 8, .int .i64 fl, .int .i64 st, .slice p X.length cp, .int .i64 pad, .int .u32 code, .int .i64 last, .int .i64 inc, .int .i64 dep, .bool only, .int .i64 wt, .slice q Y.length cq]] w fun e w' => e = .returned (.bool (false)) ∧ Fr (fun _ => False) w w' := by
  have hg : Fr (fun _ => False) w (w.alloc (.cells #[.int .i64 8, .int .i64 fl, .int .i64 st, .slice p X.length cp, .int .i64 pad, .int .u32 code, .int .i64 last, .int .i64 inc, .int .i64 dep, .bool only, .int .i64 wt, .slice q Y.length cq] 36)) := (Fr.refl _ _).alloc _
  have K2 := fun w => right_in 8 st w
  have K3 := fun w => rpadded_in 8 w
  have K4 : ∀ w, Calls Try.prog 40 #[.int .i64 fl, .int .i64 8] w fun e w' => e = .returned (.bool (has fl 8)) ∧ w = w' := fun w => has_in fl 8 w (by omega) h0 h1
  have K5 := fun w => prio_in 8 fl w h0 h1
  rw [hr] at K2
  clear hr
  rw [show canP 8 = false by decide] at K3
  rw [show prioB 8 fl = false by simp [prioB]] at K5
  go_enter Try.func26, Try.ntmps26
  go_wp2_with first
    | (go_at_call 34; refine (K2 _).mono ?_; rintro e w' ⟨rfl, rfl⟩)
    | (go_at_call 39; refine (K3 _).mono ?_; rintro e w' ⟨rfl, rfl⟩)
    | (go_at_call 40; refine (K4 _).mono ?_; rintro e w' ⟨rfl, rfl⟩)
    | (go_at_call 41; refine (K5 _).mono ?_; rintro e w' ⟨rfl, rfl⟩)
    | (go_at_call 38; refine (rid_in _ _).mono ?_; rintro e w' ⟨rfl, rfl⟩; try rw [hs]; try rw [hi])
  all_goals go_ret
  exact ⟨rfl, hg⟩

theorem may_8b (fl st pad : Int) (X : List UInt8) (code : Nat) (last inc dep : Int) (only : Bool) (wt : Int) (Y : List (Int × Nat)) (p q : Option Addr) (cp cq : Nat) (w : World) (h0 : 0 ≤ fl) (h1 : fl ≤ 255) (hs : idOk st = true) (hr : rightB 8 st = true) (hn : 1 ≤ inc) :
    Calls Try.prog 26 #[.agg #[.int .i64 8, .int .i64 fl, .int .i64 st, .slice p X.length cp, .int .i64 pad, .int .u32 code, .int .i64 last, .int .i64 inc, .int .i64 dep, .bool only, .int .i64 wt, .slice q Y.length cq]] w fun e w' => e = .returned (.bool (decide (inc ≤ 2147483647))) ∧ Fr (fun _ => False) w w' := by
  have hg : Fr (fun _ => False) w (w.alloc (.cells #[.int .i64 8, .int .i64 fl, .int .i64 st, .slice p X.length cp, .int .i64 pad, .int .u32 code, .int .i64 last, .int .i64 inc, .int .i64 dep, .bool only, .int .i64 wt, .slice q Y.length cq] 36)) := (Fr.refl _ _).alloc _
  have K2 := fun w => right_in 8 st w
  have K3 := fun w => rpadded_in 8 w
  have K4 : ∀ w, Calls Try.prog 40 #[.int .i64 fl, .int .i64 8] w fun e w' => e = .returned (.bool (has fl 8)) ∧ w = w' := fun w => has_in fl 8 w (by omega) h0 h1
  have K5 := fun w => prio_in 8 fl w h0 h1
  rw [hr] at K2
  clear hr
  rw [show canP 8 = false by decide] at K3
  rw [show prioB 8 fl = false by simp [prioB]] at K5
  go_enter Try.func26, Try.ntmps26
  go_wp2_with first
    | (go_at_call 34; refine (K2 _).mono ?_; rintro e w' ⟨rfl, rfl⟩)
    | (go_at_call 39; refine (K3 _).mono ?_; rintro e w' ⟨rfl, rfl⟩)
    | (go_at_call 40; refine (K4 _).mono ?_; rintro e w' ⟨rfl, rfl⟩)
    | (go_at_call 41; refine (K5 _).mono ?_; rintro e w' ⟨rfl, rfl⟩)
    | (go_at_call 38; refine (rid_in _ _).mono ?_; rintro e w' ⟨rfl, rfl⟩; try rw [hs]; try rw [hi])
  all_goals go_ret
  exact ⟨rfl, hg⟩

theorem may_7 (fl st pad : Int) (X : List UInt8) (code : Nat) (last inc dep : Int) (only : Bool) (wt : Int) (Y : List (Int × Nat)) (p q : Option Addr) (cp cq : Nat) (w : World) (h0 : 0 ≤ fl) (h1 : fl ≤ 255) (hs : idOk st = true) (hr : rightB 7 st = true) :
    Calls Try.prog 26 #[.agg #[.int .i64 7, .int .i64 fl, .int .i64 st, .slice p X.length cp, .int .i64 pad, .int .u32 code, .int .i64 last, .int .i64 inc, .int .i64 dep, .bool only, .int .i64 wt, .slice q Y.length cq]] w fun e w' => e = .returned (.bool (idOk last)) ∧ Fr (fun _ => False) w w' := by
  have hg : Fr (fun _ => False) w (w.alloc (.cells #[.int .i64 7, .int .i64 fl, .int .i64 st, .slice p X.length cp, .int .i64 pad, .int .u32 code, .int .i64 last, .int .i64 inc, .int .i64 dep, .bool only, .int .i64 wt, .slice q Y.length cq] 36)) := (Fr.refl _ _).alloc _
  have K2 := fun w => right_in 7 st w
  have K3 := fun w => rpadded_in 7 w
  have K4 : ∀ w, Calls Try.prog 40 #[.int .i64 fl, .int .i64 8] w fun e w' => e = .returned (.bool (has fl 8)) ∧ w = w' := fun w => has_in fl 8 w (by omega) h0 h1
  have K5 := fun w => prio_in 7 fl w h0 h1
  rw [hr] at K2
  clear hr
  rw [show canP 7 = false by decide] at K3
  rw [show prioB 7 fl = false by simp [prioB]] at K5
  go_enter Try.func26, Try.ntmps26
  go_wp2_with first
    | (go_at_call 34; refine (K2 _).mono ?_; rintro e w' ⟨rfl, rfl⟩)
    | (go_at_call 39; refine (K3 _).mono ?_; rintro e w' ⟨rfl, rfl⟩)
    | (go_at_call 40; refine (K4 _).mono ?_; rintro e w' ⟨rfl, rfl⟩)
    | (go_at_call 41; refine (K5 _).mono ?_; rintro e w' ⟨rfl, rfl⟩)
    | (go_at_call 38; refine (rid_in _ _).mono ?_; rintro e w' ⟨rfl, rfl⟩; try rw [hs]; try rw [hi])
  all_goals go_ret
  exact ⟨rfl, hg⟩

theorem may_2 (fl st pad : Int) (X : List UInt8) (code : Nat) (last inc dep : Int) (only : Bool) (wt : Int) (Y : List (Int × Nat)) (p q : Option Addr) (cp cq : Nat) (w : World) (h0 : 0 ≤ fl) (h1 : fl ≤ 255) (hs : idOk st = true) (hr : rightB 2 st = true) (hi : idOk dep = true) (hj : 1 ≤ wt) (hk : wt ≤ 256) :
    Calls Try.prog 26 #[.agg #[.int .i64 2, .int .i64 fl, .int .i64 st, .slice p X.length cp, .int .i64 pad, .int .u32 code, .int .i64 last, .int .i64 inc, .int .i64 dep, .bool only, .int .i64 wt, .slice q Y.length cq]] w fun e w' => e = .returned (.bool (true)) ∧ Fr (fun _ => False) w w' := by
  have hg : Fr (fun _ => False) w (w.alloc (.cells #[.int .i64 2, .int .i64 fl, .int .i64 st, .slice p X.length cp, .int .i64 pad, .int .u32 code, .int .i64 last, .int .i64 inc, .int .i64 dep, .bool only, .int .i64 wt, .slice q Y.length cq] 36)) := (Fr.refl _ _).alloc _
  have K2 := fun w => right_in 2 st w
  have K3 := fun w => rpadded_in 2 w
  have K4 : ∀ w, Calls Try.prog 40 #[.int .i64 fl, .int .i64 8] w fun e w' => e = .returned (.bool (has fl 8)) ∧ w = w' := fun w => has_in fl 8 w (by omega) h0 h1
  have K5 := fun w => prio_in 2 fl w h0 h1
  rw [hr] at K2
  clear hr
  rw [show canP 2 = false by decide] at K3
  rw [show prioB 2 fl = true by simp [prioB]] at K5
  go_enter Try.func26, Try.ntmps26
  go_wp2_with first
    | (go_at_call 34; refine (K2 _).mono ?_; rintro e w' ⟨rfl, rfl⟩)
    | (go_at_call 39; refine (K3 _).mono ?_; rintro e w' ⟨rfl, rfl⟩)
    | (go_at_call 40; refine (K4 _).mono ?_; rintro e w' ⟨rfl, rfl⟩)
    | (go_at_call 41; refine (K5 _).mono ?_; rintro e w' ⟨rfl, rfl⟩)
    | (go_at_call 38; refine (rid_in _ _).mono ?_; rintro e w' ⟨rfl, rfl⟩; try rw [hs]; try rw [hi])
  all_goals go_ret
  exact ⟨rfl, hg⟩

end Go.Proofs.Ytikaefjhmgcidaa
/- Whether a frame may be written, by the document: kinds with padding. -/
namespace Go.Proofs.Ytikaefjhmgcidaa
open Go.RowKit
set_option linter.unusedVariables false
set_option maxRecDepth 100000
set_option maxHeartbeats 4000000

theorem may_0z (fl st pad : Int) (X : List UInt8) (code : Nat) (last inc dep : Int) (only : Bool) (wt : Int) (Y : List (Int × Nat)) (p q : Option Addr) (cp cq : Nat) (w : World) (h0 : 0 ≤ fl) (h1 : fl ≤ 255) (hs : idOk st = true) (hr : rightB 0 st = true) :
    Calls Try.prog 26 #[.agg #[.int .i64 0, .int .i64 fl, .int .i64 st, .slice p X.length cp, .int .i64 0, .int .u32 code, .int .i64 last, .int .i64 inc, .int .i64 dep, .bool only, .int .i64 wt, .slice q Y.length cq]] w fun e w' => e = .returned (.bool (true)) ∧ Fr (fun _ => False) w w' := by
  have hg : Fr (fun _ => False) w (w.alloc (.cells #[.int .i64 0, .int .i64 fl, .int .i64 st, .slice p X.length cp, .int .i64 0, .int .u32 code, .int .i64 last, .int .i64 inc, .int .i64 dep, .bool only, .int .i64 wt, .slice q Y.length cq] 36)) := (Fr.refl _ _).alloc _
  have K2 := fun w => right_in 0 st w
  have K3 := fun w => rpadded_in 0 w
  have K4 : ∀ w, Calls Try.prog 40 #[.int .i64 fl, .int .i64 8] w fun e w' => e = .returned (.bool (has fl 8)) ∧ w = w' := fun w => has_in fl 8 w (by omega) h0 h1
  have K5 := fun w => prio_in 0 fl w h0 h1
  rw [hr] at K2
  clear hr
  rw [show canP 0 = true by decide] at K3
  rw [show prioB 0 fl = false by simp [prioB]] at K5
  go_enter Try.func26, Try.ntmps26
  go_wp2_with first
    | (go_at_call 34; refine (K2 _).mono ?_; rintro e w' ⟨rfl, rfl⟩)
    | (go_at_call 39; refine (K3 _).mono ?_; rintro e w' ⟨rfl, rfl⟩)
    | (go_at_call 40; refine (K4 _).mono ?_; rintro e w' ⟨rfl, rfl⟩)
    | (go_at_call 41; refine (K5 _).mono ?_; rintro e w' ⟨rfl, rfl⟩)
    | (go_at_call 38; refine (rid_in _ _).mono ?_; rintro e w' ⟨rfl, rfl⟩; try rw [hs]; try rw [hi])
  all_goals go_ret
  exact ⟨rfl, hg⟩

theorem may_1z (fl st pad : Int) (X : List UInt8) (code : Nat) (last inc dep : Int) (only : Bool) (wt : Int) (Y : List (Int × Nat)) (p q : Option Addr) (cp cq : Nat) (w : World) (h0 : 0 ≤ fl) (h1 : fl ≤ 255) (hs : idOk st = true) (hr : rightB 1 st = true) (hq : has fl 32 = false) :
    Calls Try.prog 26 #[.agg #[.int .i64 1, .int .i64 fl, .int .i64 st, .slice p X.length cp, .int .i64 0, .int .u32 code, .int .i64 last, .int .i64 inc, .int .i64 dep, .bool only, .int .i64 wt, .slice q Y.length cq]] w fun e w' => e = .returned (.bool (true)) ∧ Fr (fun _ => False) w w' := by
  have hg : Fr (fun _ => False) w (w.alloc (.cells #[.int .i64 1, .int .i64 fl, .int .i64 st, .slice p X.length cp, .int .i64 0, .int .u32 code, .int .i64 last, .int .i64 inc, .int .i64 dep, .bool only, .int .i64 wt, .slice q Y.length cq] 36)) := (Fr.refl _ _).alloc _
  have K2 := fun w => right_in 1 st w
  have K3 := fun w => rpadded_in 1 w
  have K4 : ∀ w, Calls Try.prog 40 #[.int .i64 fl, .int .i64 8] w fun e w' => e = .returned (.bool (has fl 8)) ∧ w = w' := fun w => has_in fl 8 w (by omega) h0 h1
  have K5 := fun w => prio_in 1 fl w h0 h1
  rw [hr] at K2
  clear hr
  rw [show canP 1 = true by decide] at K3
  rw [show prioB 1 fl = false by rw [← hq]; simp [prioB]] at K5
  clear hq
  go_enter Try.func26, Try.ntmps26
  go_wp2_with first
    | (go_at_call 34; refine (K2 _).mono ?_; rintro e w' ⟨rfl, rfl⟩)
    | (go_at_call 39; refine (K3 _).mono ?_; rintro e w' ⟨rfl, rfl⟩)
    | (go_at_call 40; refine (K4 _).mono ?_; rintro e w' ⟨rfl, rfl⟩)
    | (go_at_call 41; refine (K5 _).mono ?_; rintro e w' ⟨rfl, rfl⟩)
    | (go_at_call 38; refine (rid_in _ _).mono ?_; rintro e w' ⟨rfl, rfl⟩; try rw [hs]; try rw [hi])
  all_goals go_ret
  exact ⟨rfl, hg⟩

theorem may_1pz (fl st pad : Int) (X : List UInt8) (code : Nat) (last inc dep : Int) (only : Bool) (wt : Int) (Y : List (Int × Nat)) (p q : Option Addr) (cp cq : Nat) (w : World) (h0 : 0 ≤ fl) (h1 : fl ≤ 255) (hs : idOk st = true) (hr : rightB 1 st = true) (hq : has fl 32 = true) (hi : idOk dep = true) (hj : 1 ≤ wt) (hk : wt ≤ 256) :
    Calls Try.prog 26 #[.agg #[.int .i64 1, .int .i64 fl, .int .i64 st, .slice p X.length cp, .int .i64 0, .int .u32 code, .int .i64 last, .int .i64 inc, .int .i64 dep, .bool only, .int .i64 wt, .slice q Y.length cq]] w fun e w' => e = .returned (.bool (true)) ∧ Fr (fun _ => False) w w' := by
  have hg : Fr (fun _ => False) w (w.alloc (.cells #[.int .i64 1, .int .i64 fl, .int .i64 st, .slice p X.length cp, .int .i64 0, .int .u32 code, .int .i64 last, .int .i64 inc, .int .i64 dep, .bool only, .int .i64 wt, .slice q Y.length cq] 36)) := (Fr.refl _ _).alloc _
  have K2 := fun w => right_in 1 st w
  have K3 := fun w => rpadded_in 1 w
  have K4 : ∀ w, Calls Try.prog 40 #[.int .i64 fl, .int .i64 8] w fun e w' => e = .returned (.bool (has fl 8)) ∧ w = w' := fun w => has_in fl 8 w (by omega) h0 h1
  have K5 := fun w => prio_in 1 fl w h0 h1
  rw [hr] at K2
  clear hr
  rw [show canP 1 = true by decide] at K3
  rw [show prioB 1 fl = true by rw [← hq]; simp [prioB]] at K5
  clear hq
  go_enter Try.func26, Try.ntmps26
  go_wp2_with first
    | (go_at_call 34; refine (K2 _).mono ?_; rintro e w' ⟨rfl, rfl⟩)
    | (go_at_call 39; refine (K3 _).mono ?_; rintro e w' ⟨rfl, rfl⟩)
    | (go_at_call 40; refine (K4 _).mono ?_; rintro e w' ⟨rfl, rfl⟩)
    | (go_at_call 41; refine (K5 _).mono ?_; rintro e w' ⟨rfl, rfl⟩)
    | (go_at_call 38; refine (rid_in _ _).mono ?_; rintro e w' ⟨rfl, rfl⟩; try rw [hs]; try rw [hi])
  all_goals go_ret
  exact ⟨rfl, hg⟩

theorem may_5z (fl st pad : Int) (X : List UInt8) (code : Nat) (last inc dep : Int) (only : Bool) (wt : Int) (Y : List (Int × Nat)) (p q : Option Addr) (cp cq : Nat) (w : World) (h0 : 0 ≤ fl) (h1 : fl ≤ 255) (hs : idOk st = true) (hr : rightB 5 st = true) :
    Calls Try.prog 26 #[.agg #[.int .i64 5, .int .i64 fl, .int .i64 st, .slice p X.length cp, .int .i64 0, .int .u32 code, .int .i64 last, .int .i64 inc, .int .i64 dep, .bool only, .int .i64 wt, .slice q Y.length cq]] w fun e w' => e = .returned (.bool (idOk last)) ∧ Fr (fun _ => False) w w' := by
  have hg : Fr (fun _ => False) w (w.alloc (.cells #[.int .i64 5, .int .i64 fl, .int .i64 st, .slice p X.length cp, .int .i64 0, .int .u32 code, .int .i64 last, .int .i64 inc, .int .i64 dep, .bool only, .int .i64 wt, .slice q Y.length cq] 36)) := (Fr.refl _ _).alloc _
  have K2 := fun w => right_in 5 st w
  have K3 := fun w => rpadded_in 5 w
  have K4 : ∀ w, Calls Try.prog 40 #[.int .i64 fl, .int .i64 8] w fun e w' => e = .returned (.bool (has fl 8)) ∧ w = w' := fun w => has_in fl 8 w (by omega) h0 h1
  have K5 := fun w => prio_in 5 fl w h0 h1
  rw [hr] at K2
  clear hr
  rw [show canP 5 = true by decide] at K3
  rw [show prioB 5 fl = false by simp [prioB]] at K5
  go_enter Try.func26, Try.ntmps26
  go_wp2_with first
    | (go_at_call 34; refine (K2 _).mono ?_; rintro e w' ⟨rfl, rfl⟩)
    | (go_at_call 39; refine (K3 _).mono ?_; rintro e w' ⟨rfl, rfl⟩)
    | (go_at_call 40; refine (K4 _).mono ?_; rintro e w' ⟨rfl, rfl⟩)
    | (go_at_call 41; refine (K5 _).mono ?_; rintro e w' ⟨rfl, rfl⟩)
    | (go_at_call 38; refine (rid_in _ _).mono ?_; rintro e w' ⟨rfl, rfl⟩; try rw [hs]; try rw [hi])
  all_goals go_ret
  exact ⟨rfl, hg⟩

theorem may_0s (fl st pad : Int) (X : List UInt8) (code : Nat) (last inc dep : Int) (only : Bool) (wt : Int) (Y : List (Int × Nat)) (p q : Option Addr) (cp cq : Nat) (w : World) (h0 : 0 ≤ fl) (h1 : fl ≤ 255) (hs : idOk st = true) (hr : rightB 0 st = true) (hp : 0 < pad) (hp2 : pad ≤ 255) (h8 : has fl 8 = true) :
    Calls Try.prog 26 #[.agg #[.int .i64 0, .int .i64 fl, .int .i64 st, .slice p X.length cp, .int .i64 pad, .int .u32 code, .int .i64 last, .int .i64 inc, .int .i64 dep, .bool only, .int .i64 wt, .slice q Y.length cq]] w fun e w' => e = .returned (.bool (true)) ∧ Fr (fun _ => False) w w' := by
  have hg : Fr (fun _ => False) w (w.alloc (.cells #[.int .i64 0, .int .i64 fl, .int .i64 st, .slice p X.length cp, .int .i64 pad, .int .u32 code, .int .i64 last, .int .i64 inc, .int .i64 dep, .bool only, .int .i64 wt, .slice q Y.length cq] 36)) := (Fr.refl _ _).alloc _
  have K2 := fun w => right_in 0 st w
  have K3 := fun w => rpadded_in 0 w
  have K4 : ∀ w, Calls Try.prog 40 #[.int .i64 fl, .int .i64 8] w fun e w' => e = .returned (.bool (has fl 8)) ∧ w = w' := fun w => has_in fl 8 w (by omega) h0 h1
  have K5 := fun w => prio_in 0 fl w h0 h1
  rw [hr] at K2
  clear hr
  rw [show canP 0 = true by decide] at K3
  rw [show prioB 0 fl = false by simp [prioB]] at K5
  rw [h8] at K4
  clear h8
  go_enter Try.func26, Try.ntmps26
  go_wp2_with first
    | (go_at_call 34; refine (K2 _).mono ?_; rintro e w' ⟨rfl, rfl⟩)
    | (go_at_call 39; refine (K3 _).mono ?_; rintro e w' ⟨rfl, rfl⟩)
    | (go_at_call 40; refine (K4 _).mono ?_; rintro e w' ⟨rfl, rfl⟩)
    | (go_at_call 41; refine (K5 _).mono ?_; rintro e w' ⟨rfl, rfl⟩)
    | (go_at_call 38; refine (rid_in _ _).mono ?_; rintro e w' ⟨rfl, rfl⟩; try rw [hs]; try rw [hi])
  all_goals go_ret
  exact ⟨rfl, hg⟩

theorem may_1s (fl st pad : Int) (X : List UInt8) (code : Nat) (last inc dep : Int) (only : Bool) (wt : Int) (Y : List (Int × Nat)) (p q : Option Addr) (cp cq : Nat) (w : World) (h0 : 0 ≤ fl) (h1 : fl ≤ 255) (hs : idOk st = true) (hr : rightB 1 st = true) (hp : 0 < pad) (hp2 : pad ≤ 255) (h8 : has fl 8 = true) (hq : has fl 32 = false) :
    Calls Try.prog 26 #[.agg #[.int .i64 1, .int .i64 fl, .int .i64 st, .slice p X.length cp, .int .i64 pad, .int .u32 code, .int .i64 last, .int .i64 inc, .int .i64 dep, .bool only, .int .i64 wt, .slice q Y.length cq]] w fun e w' => e = .returned (.bool (true)) ∧ Fr (fun _ => False) w w' := by
  have hg : Fr (fun _ => False) w (w.alloc (.cells #[.int .i64 1, .int .i64 fl, .int .i64 st, .slice p X.length cp, .int .i64 pad, .int .u32 code, .int .i64 last, .int .i64 inc, .int .i64 dep, .bool only, .int .i64 wt, .slice q Y.length cq] 36)) := (Fr.refl _ _).alloc _
  have K2 := fun w => right_in 1 st w
  have K3 := fun w => rpadded_in 1 w
  have K4 : ∀ w, Calls Try.prog 40 #[.int .i64 fl, .int .i64 8] w fun e w' => e = .returned (.bool (has fl 8)) ∧ w = w' := fun w => has_in fl 8 w (by omega) h0 h1
  have K5 := fun w => prio_in 1 fl w h0 h1
  rw [hr] at K2
  clear hr
  rw [show canP 1 = true by decide] at K3
  rw [show prioB 1 fl = false by rw [← hq]; simp [prioB]] at K5
  clear hq
  rw [h8] at K4
  clear h8
  go_enter Try.func26, Try.ntmps26
  go_wp2_with first
    | (go_at_call 34; refine (K2 _).mono ?_; rintro e w' ⟨rfl, rfl⟩)
    | (go_at_call 39; refine (K3 _).mono ?_; rintro e w' ⟨rfl, rfl⟩)
    | (go_at_call 40; refine (K4 _).mono ?_; rintro e w' ⟨rfl, rfl⟩)
    | (go_at_call 41; refine (K5 _).mono ?_; rintro e w' ⟨rfl, rfl⟩)
    | (go_at_call 38; refine (rid_in _ _).mono ?_; rintro e w' ⟨rfl, rfl⟩; try rw [hs]; try rw [hi])
  all_goals go_ret
  exact ⟨rfl, hg⟩

theorem may_1ps (fl st pad : Int) (X : List UInt8) (code : Nat) (last inc dep : Int) (only : Bool) (wt : Int) (Y : List (Int × Nat)) (p q : Option Addr) (cp cq : Nat) (w : World) (h0 : 0 ≤ fl) (h1 : fl ≤ 255) (hs : idOk st = true) (hr : rightB 1 st = true) (hp : 0 < pad) (hp2 : pad ≤ 255) (h8 : has fl 8 = true) (hq : has fl 32 = true) (hi : idOk dep = true) (hj : 1 ≤ wt) (hk : wt ≤ 256) :
    Calls Try.prog 26 #[.agg #[.int .i64 1, .int .i64 fl, .int .i64 st, .slice p X.length cp, .int .i64 pad, .int .u32 code, .int .i64 last, .int .i64 inc, .int .i64 dep, .bool only, .int .i64 wt, .slice q Y.length cq]] w fun e w' => e = .returned (.bool (true)) ∧ Fr (fun _ => False) w w' := by
  have hg : Fr (fun _ => False) w (w.alloc (.cells #[.int .i64 1, .int .i64 fl, .int .i64 st, .slice p X.length cp, .int .i64 pad, .int .u32 code, .int .i64 last, .int .i64 inc, .int .i64 dep, .bool only, .int .i64 wt, .slice q Y.length cq] 36)) := (Fr.refl _ _).alloc _
  have K2 := fun w => right_in 1 st w
  have K3 := fun w => rpadded_in 1 w
  have K4 : ∀ w, Calls Try.prog 40 #[.int .i64 fl, .int .i64 8] w fun e w' => e = .returned (.bool (has fl 8)) ∧ w = w' := fun w => has_in fl 8 w (by omega) h0 h1
  have K5 := fun w => prio_in 1 fl w h0 h1
  rw [hr] at K2
  clear hr
  rw [show canP 1 = true by decide] at K3
  rw [show prioB 1 fl = true by rw [← hq]; simp [prioB]] at K5
  clear hq
  rw [h8] at K4
  clear h8
  go_enter Try.func26, Try.ntmps26
  go_wp2_with first
    | (go_at_call 34; refine (K2 _).mono ?_; rintro e w' ⟨rfl, rfl⟩)
    | (go_at_call 39; refine (K3 _).mono ?_; rintro e w' ⟨rfl, rfl⟩)
    | (go_at_call 40; refine (K4 _).mono ?_; rintro e w' ⟨rfl, rfl⟩)
    | (go_at_call 41; refine (K5 _).mono ?_; rintro e w' ⟨rfl, rfl⟩)
    | (go_at_call 38; refine (rid_in _ _).mono ?_; rintro e w' ⟨rfl, rfl⟩; try rw [hs]; try rw [hi])
  all_goals go_ret
  exact ⟨rfl, hg⟩

theorem may_5s (fl st pad : Int) (X : List UInt8) (code : Nat) (last inc dep : Int) (only : Bool) (wt : Int) (Y : List (Int × Nat)) (p q : Option Addr) (cp cq : Nat) (w : World) (h0 : 0 ≤ fl) (h1 : fl ≤ 255) (hs : idOk st = true) (hr : rightB 5 st = true) (hp : 0 < pad) (hp2 : pad ≤ 255) (h8 : has fl 8 = true) :
    Calls Try.prog 26 #[.agg #[.int .i64 5, .int .i64 fl, .int .i64 st, .slice p X.length cp, .int .i64 pad, .int .u32 code, .int .i64 last, .int .i64 inc, .int .i64 dep, .bool only, .int .i64 wt, .slice q Y.length cq]] w fun e w' => e = .returned (.bool (idOk last)) ∧ Fr (fun _ => False) w w' := by
  have hg : Fr (fun _ => False) w (w.alloc (.cells #[.int .i64 5, .int .i64 fl, .int .i64 st, .slice p X.length cp, .int .i64 pad, .int .u32 code, .int .i64 last, .int .i64 inc, .int .i64 dep, .bool only, .int .i64 wt, .slice q Y.length cq] 36)) := (Fr.refl _ _).alloc _
  have K2 := fun w => right_in 5 st w
  have K3 := fun w => rpadded_in 5 w
  have K4 : ∀ w, Calls Try.prog 40 #[.int .i64 fl, .int .i64 8] w fun e w' => e = .returned (.bool (has fl 8)) ∧ w = w' := fun w => has_in fl 8 w (by omega) h0 h1
  have K5 := fun w => prio_in 5 fl w h0 h1
  rw [hr] at K2
  clear hr
  rw [show canP 5 = true by decide] at K3
  rw [show prioB 5 fl = false by simp [prioB]] at K5
  rw [h8] at K4
  clear h8
  go_enter Try.func26, Try.ntmps26
  go_wp2_with first
    | (go_at_call 34; refine (K2 _).mono ?_; rintro e w' ⟨rfl, rfl⟩)
    | (go_at_call 39; refine (K3 _).mono ?_; rintro e w' ⟨rfl, rfl⟩)
    | (go_at_call 40; refine (K4 _).mono ?_; rintro e w' ⟨rfl, rfl⟩)
    | (go_at_call 41; refine (K5 _).mono ?_; rintro e w' ⟨rfl, rfl⟩)
    | (go_at_call 38; refine (rid_in _ _).mono ?_; rintro e w' ⟨rfl, rfl⟩; try rw [hs]; try rw [hi])
  all_goals go_ret
  exact ⟨rfl, hg⟩

end Go.Proofs.Ytikaefjhmgcidaa
/- Whether a frame may be written, by the document: its head, and settings. -/
namespace Go.Proofs.Ytikaefjhmgcidaa
open Go.RowKit
set_option linter.unusedVariables false
set_option maxRecDepth 100000
set_option maxHeartbeats 4000000

theorem may_h (k fl st pad : Int) (X : List UInt8) (code : Nat) (last inc dep : Int) (only : Bool) (wt : Int) (Y : List (Int × Nat)) (p q : Option Addr) (cp cq : Nat) (w : World) (h : fl < 0 ∨ 255 < fl ∨ idOk st = false ∨ rightB k st = false) :
    Calls Try.prog 26 #[.agg #[.int .i64 k, .int .i64 fl, .int .i64 st, .slice p X.length cp, .int .i64 pad, .int .u32 code, .int .i64 last, .int .i64 inc, .int .i64 dep, .bool only, .int .i64 wt, .slice q Y.length cq]] w fun e w' => e = .returned (.bool false) ∧ Fr (fun _ => False) w w' := by
  have hg : Fr (fun _ => False) w (w.alloc (.cells #[.int .i64 k, .int .i64 fl, .int .i64 st, .slice p X.length cp, .int .i64 pad, .int .u32 code, .int .i64 last, .int .i64 inc, .int .i64 dep, .bool only, .int .i64 wt, .slice q Y.length cq] 36)) := (Fr.refl _ _).alloc _
  have K2 := fun w => right_in k st w
  by_cases ha : fl < 0
  · clear h
    go_enter Try.func26, Try.ntmps26
    go_wp2
    go_ret
    exact ⟨rfl, hg⟩
  · by_cases hb : 255 < fl
    · clear h
      go_enter Try.func26, Try.ntmps26
      go_wp2
      go_ret
      exact ⟨rfl, hg⟩
    · cases hs : idOk st
      · clear h
        go_enter Try.func26, Try.ntmps26
        go_wp2_with (go_at_call 38; refine (rid_in _ _).mono ?_; rintro e w' ⟨rfl, rfl⟩; rw [hs])
        go_ret
        exact ⟨rfl, hg⟩
      · have hr : rightB k st = false := by
          rcases h with h | h | h | h
          · omega
          · omega
          · rw [hs] at h; cases h
          · exact h
        rw [hr] at K2
        clear h hr
        go_enter Try.func26, Try.ntmps26
        go_wp2_with first
          | (go_at_call 34; refine (K2 _).mono ?_; rintro e w' ⟨rfl, rfl⟩)
          | (go_at_call 38; refine (rid_in _ _).mono ?_; rintro e w' ⟨rfl, rfl⟩; rw [hs])
        go_ret
        exact ⟨rfl, hg⟩

theorem may_4z (fl st pad : Int) (X : List UInt8) (code : Nat) (last inc dep : Int) (only : Bool) (wt : Int) (p q : Option Addr) (cp cq : Nat) (w : World) (h0 : 0 ≤ fl) (h1 : fl ≤ 255) (hs : idOk st = true) (hr : rightB 4 st = true) :
    Calls Try.prog 26 #[.agg #[.int .i64 4, .int .i64 fl, .int .i64 st, .slice p X.length cp, .int .i64 pad, .int .u32 code, .int .i64 last, .int .i64 inc, .int .i64 dep, .bool only, .int .i64 wt, .slice q 0 cq]] w fun e w' => e = .returned (.bool true) ∧ Fr (fun _ => False) w w' := by
  have hg : Fr (fun _ => False) w (w.alloc (.cells #[.int .i64 4, .int .i64 fl, .int .i64 st, .slice p X.length cp, .int .i64 pad, .int .u32 code, .int .i64 last, .int .i64 inc, .int .i64 dep, .bool only, .int .i64 wt, .slice q 0 cq] 36)) := (Fr.refl _ _).alloc _
  have K2 := fun w => right_in 4 st w
  have K3 := fun w => rpadded_in 4 w
  have K5 := fun w => prio_in 4 fl w h0 h1
  rw [hr] at K2
  clear hr
  rw [show canP 4 = false by decide] at K3
  rw [show prioB 4 fl = false by simp [prioB]] at K5
  go_enter Try.func26, Try.ntmps26
  go_wp2_with first
    | (go_at_call 34; refine (K2 _).mono ?_; rintro e w' ⟨rfl, rfl⟩)
    | (go_at_call 39; refine (K3 _).mono ?_; rintro e w' ⟨rfl, rfl⟩)
    | (go_at_call 41; refine (K5 _).mono ?_; rintro e w' ⟨rfl, rfl⟩)
    | (go_at_call 38; refine (rid_in _ _).mono ?_; rintro e w' ⟨rfl, rfl⟩; try rw [hs])
  refine wp_loop_rounds 1 ?_
  rw [rounds_succ]
  go_wp2
  go_ret
  exact ⟨rfl, hg⟩

theorem may_4 (fl st pad : Int) (X : List UInt8) (code : Nat) (last inc dep : Int) (only : Bool) (wt : Int) (Y : List (Int × Nat)) (p q : Option Addr) (cp cq n : Nat) (w : World) (h0 : 0 ≤ fl) (h1 : fl ≤ 255) (hs : idOk st = true) (hr : rightB 4 st = true) (hY : SetsAt w q cq Y) (hn : Y.length = n) (hz : 0 < n) :
    Calls Try.prog 26 #[.agg #[.int .i64 4, .int .i64 fl, .int .i64 st, .slice p X.length cp, .int .i64 pad, .int .u32 code, .int .i64 last, .int .i64 inc, .int .i64 dep, .bool only, .int .i64 wt, .slice q n cq]] w fun e w' => e = .returned (.bool (Y.all setOk && !has fl 1)) ∧ Fr (fun _ => False) w w' := by
  obtain ⟨W, hW⟩ : ∃ W, W = w.alloc (.cells #[.int .i64 4, .int .i64 fl, .int .i64 st, .slice p X.length cp, .int .i64 pad, .int .u32 code, .int .i64 last, .int .i64 inc, .int .i64 dep, .bool only, .int .i64 wt, .slice q n cq] 36) := ⟨_, rfl⟩
  have HG : Hid (Fr (fun _ => False) w W) := by rw [hW]; exact (Fr.refl _ _).alloc _
  have c11 : W.cell? ⟨w.heap.size, 11, none⟩ = some (.slice q n cq) := by rw [hW]; exact cell_of_heap (heap_alloc_new w _) rfl
  have c1 : W.cell? ⟨w.heap.size, 1, none⟩ = some (.int .i64 fl) := by rw [hW]; exact cell_of_heap (heap_alloc_new w _) rfl
  have HS : Hid (SetsAt W q cq Y) := hY.later HG.out
  have hfew := hY.few
  rw [hn] at hfew
  have HN : Hid (Y.length = n) := hn
  have K2 := fun w => right_in 4 st w
  have K3 := fun w => rpadded_in 4 w
  have K4 : ∀ w, Calls Try.prog 40 #[.int .i64 fl, .int .i64 1] w fun e w' => e = .returned (.bool (has fl 1)) ∧ w = w' := fun w => has_in fl 1 w (by omega) h0 h1
  have K5 := fun w => prio_in 4 fl w h0 h1
  rw [hr] at K2
  clear hr hY hn
  rw [show canP 4 = false by decide] at K3
  rw [show prioB 4 fl = false by simp [prioB]] at K5
  have HA : Hid (∀ i s, Y[i]? = some s → setOk s = false → Y.all setOk = false) := fun i s hi hk => by
    rw [List.all_eq_false]
    exact ⟨s, List.mem_of_getElem? hi, by simp [hk]⟩
  have HB : Hid ((∀ k, k < n → ∀ s, Y[k]? = some s → setOk s = true) → Y.all setOk = true) := fun hk => by
    rw [List.all_eq_true]
    intro s hs
    obtain ⟨i, hi⟩ := List.mem_iff_getElem?.1 hs
    exact hk i (by rw [← HN.out]; exact (List.getElem?_eq_some_iff.1 hi).1) s hi
  obtain ⟨out, hout⟩ : ∃ out, (Y.all setOk && !has fl 1) = out := ⟨_, rfl⟩
  rw [hout]
  have HO : Hid ((Y.all setOk && !has fl 1) = out) := hout
  clear hout
  go_enter Try.func26, Try.ntmps26
  go_wp2_with first
    | (go_at_call 34; refine (K2 _).mono ?_; rintro e w' ⟨rfl, rfl⟩)
    | (go_at_call 39; refine (K3 _).mono ?_; rintro e w' ⟨rfl, rfl⟩)
    | (go_at_call 41; refine (K5 _).mono ?_; rintro e w' ⟨rfl, rfl⟩)
    | (go_at_call 38; refine (rid_in _ _).mono ?_; rintro e w' ⟨rfl, rfl⟩; try rw [hs])
  rw [← hW]
  clear hW K2 K3 K5 hs
  go_loopw [3] (fun x3 wr => ∃ (i : Nat), x3 = .int .i64 (i : Int) ∧ i ≤ n ∧ Hid (wr = W) ∧ Hid (∀ k, k < i → ∀ s, Y[k]? = some s → setOk s = true)) (fun x3 _ => n - (intOf x3).toNat)
  case atStart => exact ⟨0, rfl, by omega, rfl, fun k hk => by omega⟩
  case round =>
    obtain ⟨i, rfl, hi, HWR, HK⟩ := hrel
    obtain rfl := HWR.out
    by_cases hin : i < n
    · obtain ⟨s, hsi⟩ : ∃ s, Y[i]? = some s := ⟨Y[i]'(by rw [HN.out]; exact hin), List.getElem?_eq_getElem _⟩
      obtain ⟨bb, o, rfl, hbb, d0, d1, wf0, wf1⟩ := HS.out.cells i s hsi
      have HX : Hid (Y[i]? = some s) := hsi
      have hin2 : (i : Int) < (n : Int) := by omega
      obtain ⟨v, hv⟩ : ∃ v, s.1 = v := ⟨_, rfl⟩
      rw [hv] at d0
      have HV : Hid (s.1 = v) := hv
      clear hsi hbb wf0 wf1 d1 hv
      by_cases hlow : v < 0
      · have HR : Hid (Y.all setOk = false) := HA.out i s HX.out (by have := HV.out; simp [setOk]; omega)
        go_wp2
        go_ret
        refine ⟨?_, HG.out⟩
        rw [← HO.out, HR.out]
        rfl
      · by_cases hhigh : 65536 ≤ v
        · have HR : Hid (Y.all setOk = false) := HA.out i s HX.out (by have := HV.out; simp [setOk]; omega)
          go_wp2
          go_ret
          refine ⟨?_, HG.out⟩
          rw [← HO.out, HR.out]
          rfl
        · have HOK : Hid (setOk s = true) := by have := HV.out; simp [Hid, setOk]; omega
          go_wp2
          go_roundw
          case rel =>
            refine ⟨i + 1, by go_num, by omega, (by first | rfl | exact trivial), fun k hk t ht => ?_⟩
            by_cases hki : k = i
            · subst hki
              rw [HX.out] at ht
              cases ht
              exact HOK.out
            · exact HK.out k (by omega) t ht
          case measure => simp [intOf]; omega
    · obtain rfl : i = n := by omega
      have hnz : ((i : Int) == 0) = false := by simp; omega
      go_wp2_with (go_at_call 40; refine (K4 _).mono ?_; rintro e w' ⟨rfl, rfl⟩)
      go_ret
      refine ⟨?_, HG.out⟩
      rw [← HO.out, HB.out HK.out]
      rfl
end Go.Proofs.Ytikaefjhmgcidaa
/- Whether a frame may be written, by the document: all. -/
namespace Go.Proofs.Ytikaefjhmgcidaa
open Go.RowKit
set_option linter.unusedVariables false
set_option maxRecDepth 100000
set_option maxHeartbeats 4000000

theorem may_in (f : Fra) (p q : Option Addr) (cp cq : Nat) (w : World) (hk : knownB f.k = true) (hY : SetsAt w q cq f.Y) :
    Calls Try.prog 26 #[.agg #[.int .i64 f.k, .int .i64 f.fl, .int .i64 f.st, .slice p f.X.length cp, .int .i64 f.pad, .int .u32 f.code, .int .i64 f.last, .int .i64 f.inc, .int .i64 f.dep, .bool f.only, .int .i64 f.wt, .slice q f.Y.length cq]] w fun e w' => e = .returned (.bool (mayB f)) ∧ Fr (fun _ => False) w w' := by
  by_cases hh : (0 ≤ f.fl ∧ f.fl ≤ 255) ∧ idOk f.st = true ∧ rightB f.k f.st = true
  case neg =>
    have hd : mayB f = false := by
      cases hm : mayB f with
      | false => rfl
      | true =>
        simp only [mayB, Bool.and_eq_true, decide_eq_true_eq] at hm
        exact absurd ⟨hm.1.1.1.1.1, hm.1.1.1.1.2, hm.1.1.1.2⟩ hh
    rw [hd]
    refine may_h f.k f.fl f.st f.pad f.X f.code f.last f.inc f.dep f.only f.wt f.Y p q cp cq w ?_
    cases h1 : idOk f.st
    · exact .inr (.inr (.inl rfl))
    · cases h2 : rightB f.k f.st
      · exact .inr (.inr (.inr rfl))
      · rw [h1, h2] at hh
        simp at hh
        omega
  case pos =>
    obtain ⟨⟨h0, h1⟩, hs, hr⟩ := hh
    have base : mayB f = (mayP f.k f.fl f.pad && mayQ f.k f.fl f.dep f.wt && mayL f) := by
      simp only [mayB]
      rw [show decide (0 ≤ f.fl ∧ f.fl ≤ 255) = true by simp [h0, h1], hs, hr]
      simp
    cases hP : mayP f.k f.fl f.pad
    · rw [base, hP]
      simp only [Bool.false_and]
      simp only [mayP, Bool.or_eq_false_iff, Bool.not_eq_false', Bool.and_eq_false_iff, decide_eq_false_iff_not] at hP
      refine may_a f.k f.fl f.st f.pad f.X f.code f.last f.inc f.dep f.only f.wt f.Y p q cp cq w h0 h1 hs hr hP.1 ?_
      rcases hP.2 with h | h
      · omega
      · exact .inr (.inr ⟨by omega, h.2⟩)
    · have hP' := hP
      simp only [mayP, Bool.or_eq_true, Bool.not_eq_true', Bool.and_eq_true, decide_eq_true_eq] at hP'
      cases hQ : mayQ f.k f.fl f.dep f.wt
      · rw [base, hP, hQ]
        simp only [Bool.true_and, Bool.false_and]
        simp only [mayQ, Bool.or_eq_false_iff, Bool.not_eq_false', Bool.and_eq_false_iff, decide_eq_false_iff_not] at hQ
        have hd : idOk f.dep = false ∨ f.wt < 1 ∨ 256 < f.wt := by
          rcases hQ.2 with h | h
          · exact .inl h
          · omega
        cases hc : canP f.k
        · exact may_b1 f.k f.fl f.st f.pad f.X f.code f.last f.inc f.dep f.only f.wt f.Y p q cp cq w h0 h1 hs hr hc hQ.1 hd
        · rw [hc] at hP'
          simp at hP'
          by_cases hp0 : f.pad = 0
          · exact may_b2 f.k f.fl f.st f.pad f.X f.code f.last f.inc f.dep f.only f.wt f.Y p q cp cq w h0 h1 hs hr hc hp0 hQ.1 hd
          · exact may_b3 f.k f.fl f.st f.pad f.X f.code f.last f.inc f.dep f.only f.wt f.Y p q cp cq w h0 h1 hs hr hc (by omega) (by omega) (hP'.2.resolve_left (by omega)) hQ.1 hd
      · rw [base, hP, hQ]
        simp only [Bool.true_and]
        simp only [mayQ, Bool.or_eq_true, Bool.not_eq_true', Bool.and_eq_true, decide_eq_true_eq] at hQ
        have hpad : canP f.k = true → f.pad = 0 ∨ (0 < f.pad ∧ f.pad ≤ 255 ∧ has f.fl 8 = true) := fun hc => by
          rw [hc] at hP'
          simp at hP'
          by_cases hp0 : f.pad = 0
          · exact .inl hp0
          · refine .inr ⟨by omega, by omega, ?_⟩
            rcases hP'.2 with h | h
            · omega
            · exact h
        have hpr : prioB f.k f.fl = true → idOk f.dep = true ∧ 1 ≤ f.wt ∧ f.wt ≤ 256 := fun hq => by
          rw [hq] at hQ
          simpa using hQ
        clear base hP hP' hQ
        rcases kinds f.k with h | h | h | h | h | h | h | h | h | h | h
        · rw [show mayL f = true by simp [mayL, h]]
          rw [h] at hr hpad ⊢
          rcases hpad (by decide) with hp | ⟨hp, hp2, h8⟩
          · rw [hp]
            exact may_0z f.fl f.st 0 f.X f.code f.last f.inc f.dep f.only f.wt f.Y p q cp cq w h0 h1 hs hr
          · exact may_0s f.fl f.st f.pad f.X f.code f.last f.inc f.dep f.only f.wt f.Y p q cp cq w h0 h1 hs hr hp hp2 h8
        · rw [show mayL f = true by simp [mayL, h]]
          rw [h] at hr hpad hpr ⊢
          cases hq : has f.fl 32
          · rcases hpad (by decide) with hp | ⟨hp, hp2, h8⟩
            · rw [hp]
              exact may_1z f.fl f.st 0 f.X f.code f.last f.inc f.dep f.only f.wt f.Y p q cp cq w h0 h1 hs hr hq
            · exact may_1s f.fl f.st f.pad f.X f.code f.last f.inc f.dep f.only f.wt f.Y p q cp cq w h0 h1 hs hr hp hp2 h8 hq
          · obtain ⟨hi, hj, hk2⟩ := hpr (by simp [prioB, hq])
            rcases hpad (by decide) with hp | ⟨hp, hp2, h8⟩
            · rw [hp]
              exact may_1pz f.fl f.st 0 f.X f.code f.last f.inc f.dep f.only f.wt f.Y p q cp cq w h0 h1 hs hr hq hi hj hk2
            · exact may_1ps f.fl f.st f.pad f.X f.code f.last f.inc f.dep f.only f.wt f.Y p q cp cq w h0 h1 hs hr hp hp2 h8 hq hi hj hk2
        · rw [show mayL f = true by simp [mayL, h]]
          rw [h] at hr hpr ⊢
          obtain ⟨hi, hj, hk2⟩ := hpr (by simp [prioB])
          exact may_2 f.fl f.st f.pad f.X f.code f.last f.inc f.dep f.only f.wt f.Y p q cp cq w h0 h1 hs hr hi hj hk2
        · rw [show mayL f = true by simp [mayL, h]]
          rw [h] at hr ⊢
          exact may_3 f.fl f.st f.pad f.X f.code f.last f.inc f.dep f.only f.wt f.Y p q cp cq w h0 h1 hs hr
        · rw [h] at hr ⊢
          by_cases hz : f.Y.length = 0
          · have hY0 : f.Y = [] := List.eq_nil_of_length_eq_zero hz
            rw [show mayL f = true by simp [mayL, h, hY0], hz]
            exact may_4z f.fl f.st f.pad f.X f.code f.last f.inc f.dep f.only f.wt p q cp cq w h0 h1 hs hr
          · rw [show mayL f = (f.Y.all setOk && !has f.fl 1) by
              have : decide (f.Y.length = 0) = false := by simp [hz]
              simp only [mayL, h, this]
              simp]
            exact may_4 f.fl f.st f.pad f.X f.code f.last f.inc f.dep f.only f.wt f.Y p q cp cq f.Y.length w h0 h1 hs hr hY rfl (by omega)
        · rw [show mayL f = idOk f.last by simp [mayL, h]]
          rw [h] at hr hpad ⊢
          rcases hpad (by decide) with hp | ⟨hp, hp2, h8⟩
          · rw [hp]
            exact may_5z f.fl f.st 0 f.X f.code f.last f.inc f.dep f.only f.wt f.Y p q cp cq w h0 h1 hs hr
          · exact may_5s f.fl f.st f.pad f.X f.code f.last f.inc f.dep f.only f.wt f.Y p q cp cq w h0 h1 hs hr hp hp2 h8
        · rw [show mayL f = ((f.X.length : Int) == 8) by rw [Bool.eq_iff_iff]; simp [mayL, h]; omega]
          rw [h] at hr ⊢
          exact may_6 f.fl f.st f.pad f.X f.code f.last f.inc f.dep f.only f.wt f.Y p q cp cq w h0 h1 hs hr
        · rw [show mayL f = idOk f.last by simp [mayL, h]]
          rw [h] at hr ⊢
          exact may_7 f.fl f.st f.pad f.X f.code f.last f.inc f.dep f.only f.wt f.Y p q cp cq w h0 h1 hs hr
        · by_cases hn : f.inc < 1
          · rw [show mayL f = false by simp [mayL, h]; omega]
            rw [h] at hr ⊢
            exact may_8a f.fl f.st f.pad f.X f.code f.last f.inc f.dep f.only f.wt f.Y p q cp cq w h0 h1 hs hr hn
          · rw [show mayL f = decide (f.inc ≤ 2147483647) by rw [Bool.eq_iff_iff]; simp [mayL, h]; omega]
            rw [h] at hr ⊢
            exact may_8b f.fl f.st f.pad f.X f.code f.last f.inc f.dep f.only f.wt f.Y p q cp cq w h0 h1 hs hr (by omega)
        · rw [show mayL f = true by simp [mayL, h]]
          rw [h] at hr ⊢
          exact may_9 f.fl f.st f.pad f.X f.code f.last f.inc f.dep f.only f.wt f.Y p q cp cq w h0 h1 hs hr
        · simp [knownB] at hk
          omega
end Go.Proofs.Ytikaefjhmgcidaa
