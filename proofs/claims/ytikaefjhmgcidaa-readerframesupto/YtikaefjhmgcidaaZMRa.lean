/- The document's small questions on frames. -/
import Derived.Test.YtikaefjhmgcidaaZHd
import Derived.Test.YtikaefjhmgcidaaZMFb
import Derived.Test.YtikaefjhmgcidaaZMFg
namespace Go.Proofs.Ytikaefjhmgcidaa
open Go.RowKit
set_option linter.unusedVariables false
set_option maxRecDepth 100000
set_option maxHeartbeats 4000000

def zeroB (k : Int) : Bool := k == 4 || k == 6 || k == 7
def rightB (k st : Int) : Bool := k == 8 || (zeroB k == (st == 0))
def prioB (k fl : Int) : Bool := k == 2 || (k == 1 && has fl 32)

theorem rKnown_in (k : Int) (w : World) : Calls Try.prog 25 #[.int .i64 k] w fun e w' => e = .returned (.bool (knownB k)) ∧ w = w' := by
  by_cases h0 : 0 ≤ k
  · by_cases h1 : k ≤ 9
    · have hd : knownB k = true := by simp [knownB]; omega
      go_enter Try.func25, Try.ntmps25
      go_wp2
      go_ret
      exact ⟨by first | rfl | (rw [hd]; rfl), rfl⟩
    · have hd : knownB k = false := by simp [knownB]; omega
      go_enter Try.func25, Try.ntmps25
      go_wp2
      go_ret
      exact ⟨by first | rfl | (rw [hd]; rfl), rfl⟩
  · have hd : knownB k = false := by simp [knownB]; omega
    go_enter Try.func25, Try.ntmps25
    go_wp2
    go_ret
    exact ⟨by first | rfl | (rw [hd]; rfl), rfl⟩

theorem rid_in (n : Int) (w : World) : Calls Try.prog 38 #[.int .i64 n] w fun e w' => e = .returned (.bool (idOk n)) ∧ w = w' := by
  by_cases h0 : 0 ≤ n
  · by_cases h1 : n ≤ 2147483647
    · have hd : idOk n = true := by simp [idOk]; omega
      go_enter Try.func38, Try.ntmps38
      go_wp2
      go_ret
      exact ⟨by first | rfl | (rw [hd]; rfl), rfl⟩
    · have hd : idOk n = false := by simp [idOk]; omega
      go_enter Try.func38, Try.ntmps38
      go_wp2
      go_ret
      exact ⟨by first | rfl | (rw [hd]; rfl), rfl⟩
  · have hd : idOk n = false := by simp [idOk]; omega
    go_enter Try.func38, Try.ntmps38
    go_wp2
    go_ret
    exact ⟨by first | rfl | (rw [hd]; rfl), rfl⟩

theorem rpadded_in (k : Int) (w : World) : Calls Try.prog 39 #[.int .i64 k] w fun e w' => e = .returned (.bool (canP k)) ∧ w = w' := by
  by_cases h0 : k = 0
  · subst h0
    go_enter Try.func39, Try.ntmps39
    go_wp2
    go_ret
    exact ⟨rfl, rfl⟩
  · by_cases h1 : k = 1
    · subst h1
      go_enter Try.func39, Try.ntmps39
      go_wp2
      go_ret
      exact ⟨rfl, rfl⟩
    · have hd := canP_eq k
      go_enter Try.func39, Try.ntmps39
      go_wp2
      go_ret
      exact ⟨by first | rfl | (rw [hd]; rfl), rfl⟩

theorem zero_in (k : Int) (w : World) : Calls Try.prog 50 #[.int .i64 k] w fun e w' => e = .returned (.bool (zeroB k)) ∧ w = w' := by
  by_cases h0 : k = 4
  · subst h0
    go_enter Try.func50, Try.ntmps50
    go_wp2
    go_ret
    exact ⟨rfl, rfl⟩
  · by_cases h1 : k = 6
    · subst h1
      go_enter Try.func50, Try.ntmps50
      go_wp2
      go_ret
      exact ⟨rfl, rfl⟩
    · have hd : zeroB k = (k == 7) := by simp [zeroB, h0, h1]
      go_enter Try.func50, Try.ntmps50
      go_wp2
      go_ret
      exact ⟨by first | rfl | (rw [hd]; rfl), rfl⟩

theorem has_in (fl : Int) (n : Nat) (w : World) (hn : n = 1 ∨ n = 8 ∨ n = 32) (h0 : 0 ≤ fl) (h1 : fl ≤ 255) : Calls Try.prog 40 #[.int .i64 fl, .int .i64 (n : Int)] w fun e w' => e = .returned (.bool (has fl (n : Int))) ∧ w = w' := by
  obtain ⟨m, rfl⟩ : ∃ m : Nat, fl = m := ⟨fl.toNat, by omega⟩
  rcases hn with rfl | rfl | rfl
  · go_enter Try.func40, Try.ntmps40
    go_wp2
    go_ret
    exact ⟨by first | rfl | (simp [has, BEq.beq]), rfl⟩
  · go_enter Try.func40, Try.ntmps40
    go_wp2
    go_ret
    exact ⟨by rfl, rfl⟩
  · go_enter Try.func40, Try.ntmps40
    go_wp2
    go_ret
    exact ⟨by rfl, rfl⟩

theorem prio_in (k fl : Int) (w : World) (h0 : 0 ≤ fl) (h1 : fl ≤ 255) : Calls Try.prog 41 #[.int .i64 k, .int .i64 fl] w fun e w' => e = .returned (.bool (prioB k fl)) ∧ w = w' := by
  have K := has_in fl 32 w (by omega) h0 h1
  by_cases h2 : k = 2
  · subst h2
    go_enter Try.func41, Try.ntmps41
    go_wp2
    go_ret
    exact ⟨rfl, rfl⟩
  · by_cases h3 : k = 1
    · subst h3
      have hd : prioB 1 fl = has fl 32 := by simp [prioB]
      go_enter Try.func41, Try.ntmps41
      go_wp2_with (go_at_call 40; refine K.mono ?_; rintro e w' ⟨rfl, rfl⟩)
      go_ret
      exact ⟨by first | rfl | (rw [hd]; rfl), rfl⟩
    · have hd : prioB k fl = (k == 2) := by simp [prioB, h3]
      go_enter Try.func41, Try.ntmps41
      go_wp2
      go_ret
      exact ⟨by first | rfl | (rw [hd]; rfl), rfl⟩

theorem right_in (k st : Int) (w : World) : Calls Try.prog 34 #[.int .i64 k, .int .i64 st] w fun e w' => e = .returned (.bool (rightB k st)) ∧ w = w' := by
  have K := zero_in k w
  by_cases h8 : k = 8
  · subst h8
    go_enter Try.func34, Try.ntmps34
    go_wp2
    go_ret
    exact ⟨rfl, rfl⟩
  · have hd : rightB k st = (zeroB k == (st == 0)) := by simp [rightB, h8]
    go_enter Try.func34, Try.ntmps34
    go_wp2_with (go_at_call 50; refine K.mono ?_; rintro e w' ⟨rfl, rfl⟩)
    go_ret
    exact ⟨by first | rfl | (rw [hd]; rfl), rfl⟩
theorem right_placed {k : Int} (hk : knownB k = true) (st : Int) : rightB k st = placedB k st := by
  simp [knownB] at hk
  rcases kinds k with h | h | h | h | h | h | h | h | h | h | h <;> first | omega | (subst h; simp [rightB, placedB, zeroB]; done) | (subst h; simp [rightB, placedB, zeroB]; rfl)
end Go.Proofs.Ytikaefjhmgcidaa
/- Whether a frame may be written, by the document. -/
namespace Go.Proofs.Ytikaefjhmgcidaa
open Go.RowKit
set_option linter.unusedVariables false
set_option maxRecDepth 100000
set_option maxHeartbeats 4000000

/-- May a frame be written, as far as its padding goes? -/
def mayP (k fl pad : Int) : Bool := !canP k || (decide (0 ≤ pad ∧ pad ≤ 255) && (decide (pad ≤ 0) || has fl 8))
def mayQ (k fl dep wt : Int) : Bool := !prioB k fl || (idOk dep && decide (1 ≤ wt ∧ wt ≤ 256))
def mayL (f : Fra) : Bool :=
  if f.k = 6 then decide (f.X.length = 8) else if f.k = 8 then decide (1 ≤ f.inc ∧ f.inc ≤ 2147483647) else if f.k = 5 ∨ f.k = 7 then idOk f.last
  else if f.k = 4 then f.Y.all setOk && (decide (f.Y.length = 0) || !has f.fl 1) else true
def mayB (f : Fra) : Bool := decide (0 ≤ f.fl ∧ f.fl ≤ 255) && idOk f.st && rightB f.k f.st && mayP f.k f.fl f.pad && mayQ f.k f.fl f.dep f.wt && mayL f
theorem ret_b {v : Value} {a b : Bool} (hv : v = .bool a) (h : a = b) : Ending.returned v = Ending.returned (.bool b) := by rw [hv, h]

theorem may_a (k fl st pad : Int) (X : List UInt8) (code : Nat) (last inc dep : Int) (only : Bool) (wt : Int) (Y : List (Int × Nat)) (p q : Option Addr) (cp cq : Nat) (w : World) (h0 : 0 ≤ fl) (h1 : fl ≤ 255) (hs : idOk st = true) (hr : rightB k st = true) (hc : canP k = true) (hp : pad < 0 ∨ 255 < pad ∨ (0 < pad ∧ has fl 8 = false)) :
    Calls Try.prog 26 #[.agg #[.int .i64 k, .int .i64 fl, .int .i64 st, .slice p X.length cp, .int .i64 pad, .int .u32 code, .int .i64 last, .int .i64 inc, .int .i64 dep, .bool only, .int .i64 wt, .slice q Y.length cq]] w fun e w' => e = .returned (.bool false) ∧ Fr (fun _ => False) w w' := by
  have hg : Fr (fun _ => False) w (w.alloc (.cells #[.int .i64 k, .int .i64 fl, .int .i64 st, .slice p X.length cp, .int .i64 pad, .int .u32 code, .int .i64 last, .int .i64 inc, .int .i64 dep, .bool only, .int .i64 wt, .slice q Y.length cq] 36)) := (Fr.refl _ _).alloc _
  have K2 := fun w => right_in k st w
  have K3 := fun w => rpadded_in k w
  have K4 : ∀ w, Calls Try.prog 40 #[.int .i64 fl, .int .i64 8] w fun e w' => e = .returned (.bool (has fl 8)) ∧ w = w' := fun w => has_in fl 8 w (by omega) h0 h1
  have K5 := fun w => prio_in k fl w h0 h1
  rw [hr] at K2
  clear hr
  rw [hc] at K3
  clear hc
  by_cases ha : pad < 0
  · clear hp
    go_enter Try.func26, Try.ntmps26
    go_wp2_with first
      | (go_at_call 34; refine (K2 _).mono ?_; rintro e w' ⟨rfl, rfl⟩)
      | (go_at_call 39; refine (K3 _).mono ?_; rintro e w' ⟨rfl, rfl⟩)
      | (go_at_call 40; refine (K4 _).mono ?_; rintro e w' ⟨rfl, rfl⟩)
      | (go_at_call 41; refine (K5 _).mono ?_; rintro e w' ⟨rfl, rfl⟩)
      | (go_at_call 38; refine (rid_in _ _).mono ?_; rintro e w' ⟨rfl, rfl⟩; try rw [hs])
    all_goals go_ret
    exact ⟨rfl, hg⟩
  · by_cases hb : 255 < pad
    · clear hp
      go_enter Try.func26, Try.ntmps26
      go_wp2_with first
        | (go_at_call 34; refine (K2 _).mono ?_; rintro e w' ⟨rfl, rfl⟩)
        | (go_at_call 39; refine (K3 _).mono ?_; rintro e w' ⟨rfl, rfl⟩)
        | (go_at_call 40; refine (K4 _).mono ?_; rintro e w' ⟨rfl, rfl⟩)
        | (go_at_call 41; refine (K5 _).mono ?_; rintro e w' ⟨rfl, rfl⟩)
        | (go_at_call 38; refine (rid_in _ _).mono ?_; rintro e w' ⟨rfl, rfl⟩; try rw [hs])
      all_goals go_ret
      exact ⟨rfl, hg⟩
    · have hd : 0 < pad := by omega
      have he : has fl 8 = false := by rcases hp with h | h | h <;> first | omega | exact h.2
      rw [he] at K4
      clear hp he
      go_enter Try.func26, Try.ntmps26
      go_wp2_with first
        | (go_at_call 34; refine (K2 _).mono ?_; rintro e w' ⟨rfl, rfl⟩)
        | (go_at_call 39; refine (K3 _).mono ?_; rintro e w' ⟨rfl, rfl⟩)
        | (go_at_call 40; refine (K4 _).mono ?_; rintro e w' ⟨rfl, rfl⟩)
        | (go_at_call 41; refine (K5 _).mono ?_; rintro e w' ⟨rfl, rfl⟩)
        | (go_at_call 38; refine (rid_in _ _).mono ?_; rintro e w' ⟨rfl, rfl⟩; try rw [hs])
      all_goals go_ret
      exact ⟨rfl, hg⟩

theorem may_b1 (k fl st pad : Int) (X : List UInt8) (code : Nat) (last inc dep : Int) (only : Bool) (wt : Int) (Y : List (Int × Nat)) (p q : Option Addr) (cp cq : Nat) (w : World) (h0 : 0 ≤ fl) (h1 : fl ≤ 255) (hs : idOk st = true) (hr : rightB k st = true) (hc : canP k = false) (hq : prioB k fl = true) (hd : idOk dep = false ∨ wt < 1 ∨ 256 < wt) :
    Calls Try.prog 26 #[.agg #[.int .i64 k, .int .i64 fl, .int .i64 st, .slice p X.length cp, .int .i64 pad, .int .u32 code, .int .i64 last, .int .i64 inc, .int .i64 dep, .bool only, .int .i64 wt, .slice q Y.length cq]] w fun e w' => e = .returned (.bool false) ∧ Fr (fun _ => False) w w' := by
  have hg : Fr (fun _ => False) w (w.alloc (.cells #[.int .i64 k, .int .i64 fl, .int .i64 st, .slice p X.length cp, .int .i64 pad, .int .u32 code, .int .i64 last, .int .i64 inc, .int .i64 dep, .bool only, .int .i64 wt, .slice q Y.length cq] 36)) := (Fr.refl _ _).alloc _
  have K2 := fun w => right_in k st w
  have K3 := fun w => rpadded_in k w
  have K4 : ∀ w, Calls Try.prog 40 #[.int .i64 fl, .int .i64 8] w fun e w' => e = .returned (.bool (has fl 8)) ∧ w = w' := fun w => has_in fl 8 w (by omega) h0 h1
  have K5 := fun w => prio_in k fl w h0 h1
  rw [hr] at K2
  clear hr
  rw [hc] at K3
  rw [hq] at K5
  clear hq hc
  cases hi : idOk dep
  · clear hd
    go_enter Try.func26, Try.ntmps26
    go_wp2_with first
      | (go_at_call 34; refine (K2 _).mono ?_; rintro e w' ⟨rfl, rfl⟩)
      | (go_at_call 39; refine (K3 _).mono ?_; rintro e w' ⟨rfl, rfl⟩)
      | (go_at_call 40; refine (K4 _).mono ?_; rintro e w' ⟨rfl, rfl⟩)
      | (go_at_call 41; refine (K5 _).mono ?_; rintro e w' ⟨rfl, rfl⟩)
      | (go_at_call 38; refine (rid_in _ _).mono ?_; rintro e w' ⟨rfl, rfl⟩; try rw [hs]; try rw [hi])
    all_goals go_ret
    exact ⟨rfl, hg⟩
  · by_cases hj : wt < 1
    · clear hd
      go_enter Try.func26, Try.ntmps26
      go_wp2_with first
        | (go_at_call 34; refine (K2 _).mono ?_; rintro e w' ⟨rfl, rfl⟩)
        | (go_at_call 39; refine (K3 _).mono ?_; rintro e w' ⟨rfl, rfl⟩)
        | (go_at_call 40; refine (K4 _).mono ?_; rintro e w' ⟨rfl, rfl⟩)
        | (go_at_call 41; refine (K5 _).mono ?_; rintro e w' ⟨rfl, rfl⟩)
        | (go_at_call 38; refine (rid_in _ _).mono ?_; rintro e w' ⟨rfl, rfl⟩; try rw [hs]; try rw [hi])
      all_goals go_ret
      exact ⟨rfl, hg⟩
    · have hk : 256 < wt := by rcases hd with h | h | h <;> first | omega | (rw [hi] at h; cases h)
      clear hd
      go_enter Try.func26, Try.ntmps26
      go_wp2_with first
        | (go_at_call 34; refine (K2 _).mono ?_; rintro e w' ⟨rfl, rfl⟩)
        | (go_at_call 39; refine (K3 _).mono ?_; rintro e w' ⟨rfl, rfl⟩)
        | (go_at_call 40; refine (K4 _).mono ?_; rintro e w' ⟨rfl, rfl⟩)
        | (go_at_call 41; refine (K5 _).mono ?_; rintro e w' ⟨rfl, rfl⟩)
        | (go_at_call 38; refine (rid_in _ _).mono ?_; rintro e w' ⟨rfl, rfl⟩; try rw [hs]; try rw [hi])
      all_goals go_ret
      exact ⟨rfl, hg⟩

theorem may_b2 (k fl st pad : Int) (X : List UInt8) (code : Nat) (last inc dep : Int) (only : Bool) (wt : Int) (Y : List (Int × Nat)) (p q : Option Addr) (cp cq : Nat) (w : World) (h0 : 0 ≤ fl) (h1 : fl ≤ 255) (hs : idOk st = true) (hr : rightB k st = true) (hc : canP k = true) (hp : pad = 0) (hq : prioB k fl = true) (hd : idOk dep = false ∨ wt < 1 ∨ 256 < wt) :
    Calls Try.prog 26 #[.agg #[.int .i64 k, .int .i64 fl, .int .i64 st, .slice p X.length cp, .int .i64 pad, .int .u32 code, .int .i64 last, .int .i64 inc, .int .i64 dep, .bool only, .int .i64 wt, .slice q Y.length cq]] w fun e w' => e = .returned (.bool false) ∧ Fr (fun _ => False) w w' := by
  have hg : Fr (fun _ => False) w (w.alloc (.cells #[.int .i64 k, .int .i64 fl, .int .i64 st, .slice p X.length cp, .int .i64 pad, .int .u32 code, .int .i64 last, .int .i64 inc, .int .i64 dep, .bool only, .int .i64 wt, .slice q Y.length cq] 36)) := (Fr.refl _ _).alloc _
  have K2 := fun w => right_in k st w
  have K3 := fun w => rpadded_in k w
  have K4 : ∀ w, Calls Try.prog 40 #[.int .i64 fl, .int .i64 8] w fun e w' => e = .returned (.bool (has fl 8)) ∧ w = w' := fun w => has_in fl 8 w (by omega) h0 h1
  have K5 := fun w => prio_in k fl w h0 h1
  rw [hr] at K2
  clear hr
  rw [hc] at K3
  subst hp
  rw [hq] at K5
  clear hq hc
  cases hi : idOk dep
  · clear hd
    go_enter Try.func26, Try.ntmps26
    go_wp2_with first
      | (go_at_call 34; refine (K2 _).mono ?_; rintro e w' ⟨rfl, rfl⟩)
      | (go_at_call 39; refine (K3 _).mono ?_; rintro e w' ⟨rfl, rfl⟩)
      | (go_at_call 40; refine (K4 _).mono ?_; rintro e w' ⟨rfl, rfl⟩)
      | (go_at_call 41; refine (K5 _).mono ?_; rintro e w' ⟨rfl, rfl⟩)
      | (go_at_call 38; refine (rid_in _ _).mono ?_; rintro e w' ⟨rfl, rfl⟩; try rw [hs]; try rw [hi])
    all_goals go_ret
    exact ⟨rfl, hg⟩
  · by_cases hj : wt < 1
    · clear hd
      go_enter Try.func26, Try.ntmps26
      go_wp2_with first
        | (go_at_call 34; refine (K2 _).mono ?_; rintro e w' ⟨rfl, rfl⟩)
        | (go_at_call 39; refine (K3 _).mono ?_; rintro e w' ⟨rfl, rfl⟩)
        | (go_at_call 40; refine (K4 _).mono ?_; rintro e w' ⟨rfl, rfl⟩)
        | (go_at_call 41; refine (K5 _).mono ?_; rintro e w' ⟨rfl, rfl⟩)
        | (go_at_call 38; refine (rid_in _ _).mono ?_; rintro e w' ⟨rfl, rfl⟩; try rw [hs]; try rw [hi])
      all_goals go_ret
      exact ⟨rfl, hg⟩
    · have hk : 256 < wt := by rcases hd with h | h | h <;> first | omega | (rw [hi] at h; cases h)
      clear hd
      go_enter Try.func26, Try.ntmps26
      go_wp2_with first
        | (go_at_call 34; refine (K2 _).mono ?_; rintro e w' ⟨rfl, rfl⟩)
        | (go_at_call 39; refine (K3 _).mono ?_; rintro e w' ⟨rfl, rfl⟩)
        | (go_at_call 40; refine (K4 _).mono ?_; rintro e w' ⟨rfl, rfl⟩)
        | (go_at_call 41; refine (K5 _).mono ?_; rintro e w' ⟨rfl, rfl⟩)
        | (go_at_call 38; refine (rid_in _ _).mono ?_; rintro e w' ⟨rfl, rfl⟩; try rw [hs]; try rw [hi])
      all_goals go_ret
      exact ⟨rfl, hg⟩

theorem may_b3 (k fl st pad : Int) (X : List UInt8) (code : Nat) (last inc dep : Int) (only : Bool) (wt : Int) (Y : List (Int × Nat)) (p q : Option Addr) (cp cq : Nat) (w : World) (h0 : 0 ≤ fl) (h1 : fl ≤ 255) (hs : idOk st = true) (hr : rightB k st = true) (hc : canP k = true) (hp : 0 < pad) (hp2 : pad ≤ 255) (h8 : has fl 8 = true) (hq : prioB k fl = true) (hd : idOk dep = false ∨ wt < 1 ∨ 256 < wt) :
    Calls Try.prog 26 #[.agg #[.int .i64 k, .int .i64 fl, .int .i64 st, .slice p X.length cp, .int .i64 pad, .int .u32 code, .int .i64 last, .int .i64 inc, .int .i64 dep, .bool only, .int .i64 wt, .slice q Y.length cq]] w fun e w' => e = .returned (.bool false) ∧ Fr (fun _ => False) w w' := by
  have hg : Fr (fun _ => False) w (w.alloc (.cells #[.int .i64 k, .int .i64 fl, .int .i64 st, .slice p X.length cp, .int .i64 pad, .int .u32 code, .int .i64 last, .int .i64 inc, .int .i64 dep, .bool only, .int .i64 wt, .slice q Y.length cq] 36)) := (Fr.refl _ _).alloc _
  have K2 := fun w => right_in k st w
  have K3 := fun w => rpadded_in k w
  have K4 : ∀ w, Calls Try.prog 40 #[.int .i64 fl, .int .i64 8] w fun e w' => e = .returned (.bool (has fl 8)) ∧ w = w' := fun w => has_in fl 8 w (by omega) h0 h1
  have K5 := fun w => prio_in k fl w h0 h1
  rw [hr] at K2
  clear hr
  rw [hc] at K3
  rw [h8] at K4
  clear h8
  rw [hq] at K5
  clear hq hc
  cases hi : idOk dep
  · clear hd
    go_enter Try.func26, Try.ntmps26
    go_wp2_with first
      | (go_at_call 34; refine (K2 _).mono ?_; rintro e w' ⟨rfl, rfl⟩)
      | (go_at_call 39; refine (K3 _).mono ?_; rintro e w' ⟨rfl, rfl⟩)
      | (go_at_call 40; refine (K4 _).mono ?_; rintro e w' ⟨rfl, rfl⟩)
      | (go_at_call 41; refine (K5 _).mono ?_; rintro e w' ⟨rfl, rfl⟩)
      | (go_at_call 38; refine (rid_in _ _).mono ?_; rintro e w' ⟨rfl, rfl⟩; try rw [hs]; try rw [hi])
    all_goals go_ret
    exact ⟨rfl, hg⟩
  · by_cases hj : wt < 1
    · clear hd
      go_enter Try.func26, Try.ntmps26
      go_wp2_with first
        | (go_at_call 34; refine (K2 _).mono ?_; rintro e w' ⟨rfl, rfl⟩)
        | (go_at_call 39; refine (K3 _).mono ?_; rintro e w' ⟨rfl, rfl⟩)
        | (go_at_call 40; refine (K4 _).mono ?_; rintro e w' ⟨rfl, rfl⟩)
        | (go_at_call 41; refine (K5 _).mono ?_; rintro e w' ⟨rfl, rfl⟩)
        | (go_at_call 38; refine (rid_in _ _).mono ?_; rintro e w' ⟨rfl, rfl⟩; try rw [hs]; try rw [hi])
      all_goals go_ret
      exact ⟨rfl, hg⟩
    · have hk : 256 < wt := by rcases hd with h | h | h <;> first | omega | (rw [hi] at h; cases h)
      clear hd
      go_enter Try.func26, Try.ntmps26
      go_wp2_with first
        | (go_at_call 34; refine (K2 _).mono ?_; rintro e w' ⟨rfl, rfl⟩)
        | (go_at_call 39; refine (K3 _).mono ?_; rintro e w' ⟨rfl, rfl⟩)
        | (go_at_call 40; refine (K4 _).mono ?_; rintro e w' ⟨rfl, rfl⟩)
        | (go_at_call 41; refine (K5 _).mono ?_; rintro e w' ⟨rfl, rfl⟩)
        | (go_at_call 38; refine (rid_in _ _).mono ?_; rintro e w' ⟨rfl, rfl⟩; try rw [hs]; try rw [hi])
      all_goals go_ret
      exact ⟨rfl, hg⟩
end Go.Proofs.Ytikaefjhmgcidaa
