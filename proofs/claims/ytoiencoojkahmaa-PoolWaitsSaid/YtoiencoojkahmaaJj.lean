/- A pool of one backend; the walk of PoolDrains. -/
import Derived.Test.YtoiencoojkahmaaJi
namespace Go.Proofs.Ytoiencoojkahmaa
open Go.RowKit Go.Maps
set_option linter.unusedVariables false
set_option maxRecDepth 100000
set_option maxHeartbeats 4000000

/-- A pool of one backend. -/
def OneS (base : Nat) (w0 : World) (g : Nat) (rt mo : Int) (c : Nat) (st may load wait : Int) (N : Nat) (T : List (Int × Int)) (wr : World) : Prop :=
  ∃ s hs, PI base w0 g 1 1 1 0 rt mo (c : Int) s wr ∧ s.X 0 = ⟨hs, st, may, load, wait⟩ ∧ s.N = N ∧ s.T = T
theorem anyP_one (s : Pl) (f : Nat → Int × Pl) : anyP 1 s f 0 = f 0 := anyP_at 1 s f (j := 0) (by omega)
theorem PI.cast {base : Nat} {w0 wr : World} {g n : Nat} {F R H rt mo : Int} {c : Nat} {s : Pl} (h : PI base w0 g n F R H rt mo ((c : Int) + 1) s wr) : PI base w0 g n F R H rt mo ((c + 1 : Nat) : Int) s wr := by
  have e : ((c + 1 : Nat) : Int) = (c : Int) + 1 := by omega
  rw [e]
  exact h
section
variable {base : Nat} {w0 wr w' : World} {g : Nat} {rt mo : Int} {c : Nat} {st may load wait : Int} {N : Nat} {T : List (Int × Int)}
theorem OneS.later (h : OneS base w0 g rt mo c st may load wait N T wr) (f : Fr (fun _ => False) wr w') : OneS base w0 g rt mo c st may load wait N T w' := by
  obtain ⟨s, hs, h1, h2⟩ := h
  exact ⟨s, hs, h1.later f, h2⟩
theorem OneS.tick (h : OneS base w0 g rt mo c st may load wait N T wr) (hc : c ≤ 900000000000000000) : Calls Try.prog 13 #[.pointer (some ⟨g, 0, none⟩)] wr fun e w' => ∃ a m q, e = .returned (.slice a m q) ∧ Hid (OwnAt w' 3 (.slice a m q) (iv (dueT N T)) ∧ OneS base w0 g rt mo (c + 1) (if (0 : Int) ∈ dueT N T then 1 else st) may load wait (N + 1) (restT N T) w') := by
  obtain ⟨s, hs, h1, h2, rfl, rfl⟩ := h
  refine (h1.tick (by omega)).mono ?_
  rintro e w' ⟨a, m, q, rfl, Y⟩
  refine ⟨a, m, q, rfl, Y.out.1, _, tckS hs, Y.out.2.2.cast, ?_, rfl, rfl⟩
  show dueX (tckX s.X 1) _ 0 = _
  unfold dueX
  have ht : tckX s.X 1 0 = ⟨tckS hs, st, may, load, wait⟩ := by unfold tckX; rw [if_pos (by omega), h2]
  rw [ht]
  have e0 : ((0 : Nat) : Int) = 0 := rfl
  rw [e0]
  split <;> rfl
theorem OneS.state (h : OneS base w0 g rt mo c st may load wait N T wr) : Calls Try.prog 20 #[.pointer (some ⟨g, 0, none⟩), .int .i64 0] wr fun e w' => e = .returned (.int .i64 st) ∧ wr = w' := by
  obtain ⟨s, hs, h1, h2, -, -⟩ := h
  have e : staI 1 s 0 = st := by unfold staI; rw [if_pos ⟨by omega, by omega⟩]; show (s.X 0).st = st; rw [h2]
  have := h1.state 0
  rw [e] at this
  exact this
theorem OneS.waits (h : OneS base w0 g rt mo c st may load wait N T wr) : Calls Try.prog 15 #[.pointer (some ⟨g, 0, none⟩), .int .i64 0] wr fun e w' => e = .returned (.int .i64 wait) ∧ wr = w' := by
  obtain ⟨s, hs, h1, h2, -, -⟩ := h
  have e : waiI 1 s 0 = wait := by unfold waiI; rw [if_pos ⟨by omega, by omega⟩]; show (s.X 0).wait = wait; rw [h2]
  have := h1.wait 0
  rw [e] at this
  exact this
theorem OneS.opened (h : OneS base w0 g rt mo c 1 may load wait N T wr) (hc : c ≤ 900000000000000000) : Calls Try.prog 14 #[.pointer (some ⟨g, 0, none⟩), .int .i64 0] wr fun e w' => e = .returned (.int .i64 0) ∧ Hid (OneS base w0 g rt mo (c + 1) 2 0 0 rt N T w') := by
  obtain ⟨s, hs, h1, h2, h3, h4⟩ := h
  have e : opnP rt s 0 = (0, ⟨updB s.X 0 ⟨hs, 2, 0, 0, rt⟩, s.N, s.T⟩) := by unfold opnP; rw [h2]; rfl
  refine (h1.opened (by omega) 0).mono ?_
  rw [anyP_one, e]
  rintro e w' ⟨rfl, h5⟩
  exact ⟨rfl, _, hs, h5.cast, (updB_at s.X 0 _ : updB s.X 0 _ 0 = _), h3, h4⟩
theorem OneS.limit (h : OneS base w0 g rt mo c 2 may load wait N T wr) (hc : c ≤ 900000000000000000) (v : Int) (h0 : 0 ≤ v) (hv : v ≤ 9223372036854775807) : Calls Try.prog 22 #[.pointer (some ⟨g, 0, none⟩), .int .i64 0, .int .i64 v] wr fun e w' => e = .returned (.int .i64 0) ∧ Hid (OneS base w0 g rt mo (c + 1) 2 v load wait N T w') := by
  obtain ⟨s, hs, h1, h2, h3, h4⟩ := h
  have e : limP s 0 v = (0, ⟨updB s.X 0 ⟨hs, 2, v, load, wait⟩, s.N, s.T⟩) := by unfold limP; rw [h2]; dsimp only; rw [if_neg (by decide), if_neg (by omega)]
  refine (h1.limit (by omega) v hv 0).mono ?_
  rw [anyP_one]
  (try dsimp only)
  rw [e]
  rintro e w' ⟨rfl, h5⟩
  exact ⟨rfl, _, hs, h5.cast, (updB_at s.X 0 _ : updB s.X 0 _ 0 = _), h3, h4⟩
theorem OneS.take (h : OneS base w0 g rt mo c 2 may load wait N T wr) (hc : c ≤ 900000000000000000) (hl : load < may) : Calls Try.prog 18 #[.pointer (some ⟨g, 0, none⟩), .int .i64 0] wr fun e w' => e = .returned (.int .i64 0) ∧ Hid (OneS base w0 g rt mo (c + 1) 2 may (load + 1) wait N T w') := by
  obtain ⟨s, hs, h1, h2, h3, h4⟩ := h
  have e : takP s 0 = (0, ⟨updB s.X 0 ⟨hs, 2, may, load + 1, wait⟩, s.N, s.T⟩) := by unfold takP; rw [h2]; dsimp only; rw [if_pos rfl, if_neg (by omega)]
  refine (h1.take (by omega) 0).mono ?_
  rw [anyP_one, e]
  rintro e w' ⟨rfl, h5⟩
  exact ⟨rfl, _, hs, h5.cast, (updB_at s.X 0 _ : updB s.X 0 _ 0 = _), h3, h4⟩
theorem OneS.take_no (h : OneS base w0 g rt mo c st may load wait N T wr) (hc : c ≤ 900000000000000000) (hl : st ≠ 2) : Calls Try.prog 18 #[.pointer (some ⟨g, 0, none⟩), .int .i64 0] wr fun e w' => e = .returned (.int .i64 5) ∧ Hid (OneS base w0 g rt mo (c + 1) st may load wait N T w') := by
  obtain ⟨s, hs, h1, h2, h3, h4⟩ := h
  have e : takP s 0 = (5, s) := by unfold takP; rw [h2]; dsimp only; rw [if_neg hl]
  refine (h1.take (by omega) 0).mono ?_
  rw [anyP_one, e]
  rintro e w' ⟨rfl, h5⟩
  exact ⟨rfl, s, hs, h5.cast, h2, h3, h4⟩
/-- One that drains: as long as it has load. -/
def DrS (base : Nat) (w0 : World) (g : Nat) (rt mo : Int) (c : Nat) (may load wait : Int) (N : Nat) (T : List (Int × Int)) (wr : World) : Prop :=
  if load = 0 then OneS base w0 g rt mo c 0 may 0 wait N (setT N T 0 1).2 wr else OneS base w0 g rt mo c 3 may load wait N T wr
theorem emp_one {s : Pl} {hs : Hs} {may load wait : Int} (h : s.X 0 = ⟨hs, 3, may, load, wait⟩) : (empP s 0) = if load = 0 then lowP s 0 1 else s := by
  unfold empP
  rw [h]
  simp
theorem dr_of {d : Nat} {s : Pl} {hs : Hs} (h2 : s.X 0 = ⟨hs, 3, may, load, wait⟩) (h3 : s.N = N) (h4 : s.T = T) (h5 : PI base w0 g 1 1 1 0 rt mo ((d : Int) + 1) (empP s 0) w') : DrS base w0 g rt mo (d + 1) may load wait N T w' := by
  rw [emp_one h2] at h5
  unfold DrS
  split
  · rename_i e
    rw [if_pos e] at h5
    refine ⟨_, hs, h5.cast, ?_, h3, ?_⟩
    · unfold lowP
      simp [updB_at, h2]
    · show (setT s.N s.T 0 1).2 = _
      rw [h3, h4]
  · rename_i e
    rw [if_neg e] at h5
    exact ⟨_, hs, h5.cast, h2, h3, h4⟩
theorem OneS.drain (h : OneS base w0 g rt mo c 2 may load wait N T wr) (hc : c ≤ 900000000000000000) : Calls Try.prog 21 #[.pointer (some ⟨g, 0, none⟩), .int .i64 0] wr fun e w' => e = .returned (.int .i64 0) ∧ Hid (DrS base w0 g rt mo (c + 1) may load wait N T w') := by
  obtain ⟨s, hs, h1, h2, h3, h4⟩ := h
  have e : draP s 0 = (0, empP ⟨updB s.X 0 ⟨hs, 3, may, load, wait⟩, s.N, s.T⟩ 0) := by unfold draP; rw [h2]; rfl
  refine (h1.drain (by omega) 0).mono ?_
  rw [anyP_one, e]
  rintro e w' ⟨rfl, h5⟩
  exact ⟨rfl, dr_of (s := ⟨updB s.X 0 ⟨hs, 3, may, load, wait⟩, s.N, s.T⟩) (updB_at s.X 0 _) h3 h4 h5⟩
theorem OneS.put (h : OneS base w0 g rt mo c 3 may load wait N T wr) (hc : c ≤ 900000000000000000) (hl : load ≠ 0) : Calls Try.prog 23 #[.pointer (some ⟨g, 0, none⟩), .int .i64 0] wr fun e w' => e = .returned (.int .i64 0) ∧ Hid (DrS base w0 g rt mo (c + 1) may (load - 1) wait N T w') := by
  obtain ⟨s, hs, h1, h2, h3, h4⟩ := h
  have e : putP s 0 = (0, empP ⟨updB s.X 0 ⟨hs, 3, may, load - 1, wait⟩, s.N, s.T⟩ 0) := by unfold putP; rw [h2]; dsimp only; rw [if_neg hl]
  refine (h1.put (by omega) 0).mono ?_
  rw [anyP_one, e]
  rintro e w' ⟨rfl, h5⟩
  exact ⟨rfl, dr_of (s := ⟨updB s.X 0 ⟨hs, 3, may, load - 1, wait⟩, s.N, s.T⟩) (updB_at s.X 0 _) h3 h4 h5⟩
theorem OneS.failed (h : OneS base w0 g rt mo c st may load wait N T wr) (hc : c ≤ 900000000000000000) (hs0 : st ≠ 0) : Calls Try.prog 16 #[.pointer (some ⟨g, 0, none⟩), .int .i64 0] wr fun e w' => e = .returned (.int .i64 0) ∧ Hid (OneS base w0 g rt mo (c + 1) 0 may 0 (if mo < 2 * wait then mo else 2 * wait) N (setT N T 0 wait).2 w') := by
  obtain ⟨s, hs, h1, h2, h3, h4⟩ := h
  have e : faiP mo s 0 = (0, ⟨updB s.X 0 ⟨hs, 0, may, 0, if mo < 2 * wait then mo else 2 * wait⟩, s.N, (setT s.N s.T 0 wait).2⟩) := by unfold faiP; rw [h2]; dsimp only; rw [if_neg hs0]; rfl
  refine (h1.failed (by omega) 0).mono ?_
  rw [anyP_one, e]
  rintro e w' ⟨rfl, h5⟩
  exact ⟨rfl, _, hs, h5.cast, (updB_at s.X 0 _ : updB s.X 0 _ 0 = _), h3, by rw [← h3, ← h4]⟩
theorem OneS.failed_no (h : OneS base w0 g rt mo c 0 may load wait N T wr) (hc : c ≤ 900000000000000000) : Calls Try.prog 16 #[.pointer (some ⟨g, 0, none⟩), .int .i64 0] wr fun e w' => e = .returned (.int .i64 5) ∧ Hid (OneS base w0 g rt mo (c + 1) 0 may load wait N T w') := by
  obtain ⟨s, hs, h1, h2, h3, h4⟩ := h
  have e : faiP mo s 0 = (5, s) := by unfold faiP; rw [h2]; rfl
  refine (h1.failed (by omega) 0).mono ?_
  rw [anyP_one, e]
  rintro e w' ⟨rfl, h5⟩
  exact ⟨rfl, s, hs, h5.cast, h2, h3, h4⟩
theorem OneS.below (h : OneS base w0 g rt mo c st may load wait N T wr) (hb : base = w0.heap.size) : Fr (fun _ => False) w0 wr := by
  obtain ⟨s, hs, h1, -⟩ := h
  exact h1.fr.mono (fun k hk e => by omega)
end
theorem one_new (w : World) (rt mo : Int) (hp : OkP (1 : Int) rt mo) : Calls Try.prog 8 #[.int .i64 1, .agg #[.int .i64 1, .int .i64 1, .int .i64 0], .int .i64 rt, .int .i64 mo] w fun e w' => ∃ g, e = .returned (.tuple #[.pointer (some ⟨g, 0, none⟩), .int .i64 0]) ∧ Hid (OneS w.heap.size w g rt mo 0 0 0 0 rt 0 [(0, 1)] w') := by
  refine (plNew_pi w 1 1 1 0 rt mo ⟨by decide, by decide, by decide, by decide, by decide, by decide⟩ hp).mono ?_
  rintro e w' ⟨g, rfl, h1, -⟩
  exact ⟨g, rfl, _, ⟨false, 0, 0⟩, h1, rfl, rfl, rfl⟩
theorem pdrains_walk (e0 : Nat) (he0 : e0 ≤ 255) (w : World) : Calls Try.prog 7 #[.int .u8 (e0 : Int)] w fun e w' => e = .returned (.bool true) ∧ Below w.heap.size w w' := by
  have KN := one_new w 1 1 ⟨by decide, by decide, by decide, by decide, by decide⟩
  obtain ⟨m, hm⟩ : ∃ m, e0 % 20 = m := ⟨_, rfl⟩
  have hm2 : (e0 : Int) % 20 = (m : Int) := by omega
  have hm3 : m < 20 := by omega
  have hm4 : (e0 : Int).tmod 20 = (m : Int) := by rw [Int.tmod_eq_emod_of_nonneg (by omega)]; exact hm2
  obtain ⟨base, hbase⟩ : ∃ base, base = w.heap.size := ⟨_, rfl⟩
  have HB : Hid (base = w.heap.size) := hbase
  rw [← hbase] at KN
  clear hm hbase
  go_enter Try.func7, Try.ntmps7
  go_wp2_with (first
    | (go_at_call 8; refine KN.mono ?_; clear KN; rintro e w1 ⟨g, rfl, Y1⟩; have K1 := Y1.out.tick (by decide))
    | (go_at_call 13; refine K1.mono ?_; clear K1 Y1; rintro e w2 ⟨a2, m2, q2, rfl, Y2⟩; have K2 := OneS.opened (base := base) (w0 := w) (g := g) (rt := 1) (mo := 1) (c := 1) (may := 0) (load := 0) (wait := 1) (N := 1) (T := []) Y2.out.2 (by decide))
    | (go_at_call 14; refine K2.mono ?_; clear K2 Y2; rintro e w3 ⟨rfl, Y3⟩; have K3 := Y3.out.limit (by decide) 50 (by decide) (by decide))
    | (go_at_call 22; refine K3.mono ?_; clear K3 Y3; rintro e w4 ⟨rfl, Y4⟩))
  go_loopw [6] (fun x6 wr => ∃ i : Nat, x6 = .int .i64 (i : Int) ∧ i ≤ m ∧ Hid (OneS base w g 1 1 (3 + i) 2 50 (i : Int) 1 1 [] wr)) (fun x6 _ => m - (intOf x6).toNat)
  case atStart => exact ⟨0, rfl, by omega, Y4.out⟩
  case round =>
    clear Y4
    obtain ⟨i, rfl, him, HS⟩ := hrel
    by_cases hlt : i < m
    · have hlt2 : (i : Int) < (m : Int) := by omega
      have KT := HS.out.take (by omega) (by omega)
      go_wp2_with (go_at_call 18; refine KT.mono ?_; clear KT; rintro e w5 ⟨rfl, Y5⟩)
      go_roundw
      case rel => exact ⟨i + 1, by go_num, by omega, Y5.out⟩
      case measure => simp [intOf]; omega
    · have hge : i = m := by omega
      subst hge
      clear hlt him
      have KD := HS.out.drain (by omega)
      have KT : ∀ W, Hid (DrS base w g 1 1 (3 + i + 1) 50 (i : Int) 1 1 [] W) → Calls Try.prog 18 #[.pointer (some ⟨g, 0, none⟩), .int .i64 0] W fun e w' => e = .returned (.int .i64 5) ∧ Hid (DrS base w g 1 1 (3 + i + 2) 50 (i : Int) 1 1 [] w') := fun W hW => by
        have h0 := hW.out
        unfold DrS at h0
        split at h0
        · rename_i e
          refine (h0.take_no (by omega) (by decide)).mono ?_
          rintro e2 w' ⟨rfl, h1⟩
          refine ⟨rfl, ?_⟩
          show DrS base w g 1 1 (3 + i + 2) 50 (i : Int) 1 1 [] w'
          unfold DrS
          rw [if_pos e]
          exact h1.out
        · rename_i e
          refine (h0.take_no (by omega) (by decide)).mono ?_
          rintro e2 w' ⟨rfl, h1⟩
          refine ⟨rfl, ?_⟩
          show DrS base w g 1 1 (3 + i + 2) 50 (i : Int) 1 1 [] w'
          unfold DrS
          rw [if_neg e]
          exact h1.out
      go_wp2_with (first
        | (go_at_call 21; refine KD.mono ?_; clear KD HS; rintro e w5 ⟨rfl, Y5⟩; have K5 := KT w5 Y5)
        | (go_at_call 18; refine K5.mono ?_; clear K5 Y5 KT; rintro e w6 ⟨rfl, Y6⟩))
      go_loopw [7] (fun x7 wr => ∃ k : Nat, x7 = .int .i64 (k : Int) ∧ k ≤ i ∧ Hid (DrS base w g 1 1 (3 + i + 2 + k) 50 ((i : Int) - (k : Int)) 1 1 [] wr)) (fun x7 _ => i - (intOf x7).toNat)
      case atStart => exact ⟨0, rfl, by omega, by show DrS _ _ _ _ _ _ _ _ _ _ _ _; have := Y6.out; simpa using this⟩
      case round =>
        clear Y6
        obtain ⟨k, rfl, hki, HS⟩ := hrel
        by_cases hlt : k < i
        · have hlt2 : (k : Int) < (i : Int) := by omega
          have H3 : Hid (OneS base w g 1 1 (3 + i + 2 + k) 3 50 ((i : Int) - (k : Int)) 1 1 [] wr) := by
            have h0 := HS.out
            unfold DrS at h0
            rw [if_neg (by omega)] at h0
            exact h0
          have KS := H3.out.state
          have KP := H3.out.put (by omega) (by omega)
          go_wp2_with (first
            | (go_at_call 20; refine KS.mono ?_; clear KS; rintro e w7 ⟨rfl, rfl⟩)
            | (go_at_call 23; refine KP.mono ?_; clear KP H3; rintro e w8 ⟨rfl, Y8⟩))
          go_roundw
          case rel =>
            refine ⟨k + 1, by go_num, by omega, ?_⟩
            have e1 : (i : Int) - ((k + 1 : Nat) : Int) = (i : Int) - (k : Int) - 1 := by omega
            rw [e1]
            exact Y8.out
          case measure => simp [intOf]; omega
        · have H3 : Hid (OneS base w g 1 1 (3 + i + 2 + k) 0 50 0 1 1 [(0, 2)] wr) := by
            have h0 := HS.out
            unfold DrS at h0
            rw [if_pos (by omega)] at h0
            exact h0
          have KT := H3.out.tick (by omega)
          clear HS H3
          go_wp2_with (first
            | (go_at_call 13; refine KT.mono ?_; clear KT; rintro e w7 ⟨a7, m7, q7, rfl, Y7⟩; obtain ⟨ob, oo, rfl, -, l0⟩ := Y7.out.1.ints 0 0 rfl; obtain rfl : m7 = 1 := (by exact Y7.out.1.lenI.1); have K7 := OneS.state (base := base) (w0 := w) (g := g) (rt := 1) (mo := 1) (c := 3 + i + 2 + k + 1) (st := 1) (may := 50) (load := 0) (wait := 1) (N := 2) (T := []) Y7.out.2; have KA := plawake_in w7; replace l0 : w7.cell? ⟨ob, oo, none⟩ = some (.int .i64 0) := l0)
            | (go_at_call 20; refine K7.mono ?_; clear K7; rintro e w8 ⟨rfl, rfl⟩)
            | (go_at_call 12; refine KA.mono ?_; clear KA; rintro e w9 ⟨rfl, f9⟩))
          go_ret
          exact ⟨rfl, (((Y7.out.2.below HB.out).trans f9)).below (fun _ _ => id)⟩
end Go.Proofs.Ytoiencoojkahmaa
