/- The walk of WheelFull. -/
import Derived.Test.YtldedlphamcehaaGk
import Derived.Test.YtldedlphamcehaaGm
namespace Go.Proofs.Ytldedlphamcehaa
open Go.RowKit Go.Maps
set_option linter.unusedVariables false
set_option maxRecDepth 100000
set_option maxHeartbeats 4000000

def f9 (k : Nat) : Nat := 1 + k % 9
/-- As many timers as there is room for. -/
def FuS (base : Nat) (w : World) (g mb i : Nat) (wr : World) : Prop := ∃ sl, WAt base wr g mb sl 0 (rowN f9 (min i 1024)) ∧ Fr (fun k => base ≤ k) w wr
theorem FuS.set {base : Nat} {w : World} {g mb i : Nat} {wr : World} (h : FuS base w g mb i wr) (hb : base ≤ w.heap.size) (hi : i < 2000) : Calls Try.prog 10 #[.pointer (some ⟨g, 0, none⟩), .int .i64 (i : Int), .int .i64 (f9 i : Int)] wr fun e w' => e = .returned (.int .i64 (if i < 1024 then 0 else 9)) ∧ FuS base w g mb (i + 1) w' := by
  obtain ⟨sl, h1, h3⟩ := h
  have hf : 1 ≤ f9 i ∧ f9 i ≤ 1000 := by unfold f9; omega
  have K := qSet_in h1 (Nat.le_trans hb h3.size) (by omega) (i : Int) (f9 i : Int) ⟨by omega, by omega⟩
  by_cases hlt : i < 1024
  · rw [Nat.min_eq_left (by omega), rowN_set f9 i hf.1 hf.2 hlt] at K
    rw [if_pos hlt]
    refine K.mono ?_
    rintro e w' ⟨rfl, sl2, h4, h5, h6⟩
    exact ⟨rfl, sl2, by rw [Nat.min_eq_left (by omega)]; exact h4, h3.trans (h5.mono (fun k _ e => h1.1.base_le k e))⟩
  · rw [Nat.min_eq_right (by omega), rowN_full f9 i _ (by omega) (by omega) (by omega)] at K
    rw [if_neg hlt]
    refine K.mono ?_
    rintro e w' ⟨rfl, sl2, h4, h5, h6⟩
    exact ⟨rfl, sl2, by rw [Nat.min_eq_right (by omega)]; exact h4, h3.trans (h5.mono (fun k _ e => h1.1.base_le k e))⟩
/-- A wheel with that many timers. -/
def FuL (base : Nat) (w : World) (g mb m : Nat) (wr : World) : Prop := ∃ sl L, WAt base wr g mb sl 0 L ∧ L.length = m ∧ Fr (fun k => base ≤ k) w wr
theorem FuS.first {base : Nat} {w : World} {g mb i : Nat} {wr : World} (h : FuS base w g mb i wr) (hb : base ≤ w.heap.size) (hi : 0 < i) : Calls Try.prog 10 #[.pointer (some ⟨g, 0, none⟩), .int .i64 0, .int .i64 5] wr fun e w' => e = .returned (.int .i64 0) ∧ FuL base w g mb (min i 1024) w' := by
  obtain ⟨sl, h1, h3⟩ := h
  have K := qSet_in h1 (Nat.le_trans hb h3.size) (by omega) 0 5 ⟨by omega, by omega⟩
  obtain ⟨e1, e2⟩ := rowN_first f9 (min i 1024) (by omega) h1.2.nd
  rw [e1] at K
  refine K.mono ?_
  rintro e w' ⟨rfl, sl2, h4, h5, h6⟩
  exact ⟨rfl, sl2, _, h4, e2, h3.trans (h5.mono (fun k _ e => h1.1.base_le k e))⟩
theorem FuS.len {base : Nat} {w : World} {g mb i : Nat} {wr : World} (h : FuS base w g mb i wr) : FuL base w g mb (min i 1024) wr := by
  obtain ⟨sl, h1, h3⟩ := h
  exact ⟨sl, _, h1, rowN_length _ _, h3⟩
theorem FuL.tells {base : Nat} {w : World} {g mb m : Nat} {wr : World} (h : FuL base w g mb m wr) : Calls Try.prog 20 #[.pointer (some ⟨g, 0, none⟩)] wr fun e w' => e = .returned (.int .i64 (m : Nat)) ∧ wr = w' := by
  obtain ⟨sl, L, h1, h2, h3⟩ := h
  have := qLen_in h1
  rw [h2] at this
  exact this
theorem qfull_walk (a0 : Nat) (ha0 : a0 ≤ 65535) (w : World) : Calls Try.prog 5 #[.int .u16 (a0 : Int)] w fun e w' => e = .returned (.bool true) ∧ Below w.heap.size w w' := by
  have KN := qNew_in w.heap.size w (Nat.le_refl _)
  obtain ⟨m, hm⟩ : ∃ m, m = a0 % 1100 := ⟨_, rfl⟩
  have hm1 : m < 1100 := by omega
  have hma : (a0 : Int) % 1100 = (m : Int) := by omega
  obtain ⟨base, hbase⟩ : ∃ base, base = w.heap.size := ⟨_, rfl⟩
  obtain ⟨g, hg⟩ : ∃ g, g = w.heap.size + 1 := ⟨_, rfl⟩
  rw [← hg, ← hbase] at KN
  have HB : Hid (base = w.heap.size) := hbase
  clear hm hbase hg
  go_enter Try.func5, Try.ntmps5
  go_wp2_with (go_at_call 8; refine KN.mono ?_; clear KN; rintro e w1 ⟨rfl, h1, f1, s1⟩; have HS0 : Hid (FuS base w g base 0 w1) := ⟨_, h1, f1.mono (fun _ _ e => e.elim)⟩; clear h1 f1 s1)
  rw [hma]
  clear hma
  go_loopw [5] (fun x5 wr => ∃ i : Nat, x5 = .int .i64 (i : Int) ∧ i ≤ m ∧ Hid (FuS base w g base i wr)) (fun x5 _ => m - (intOf x5).toNat)
  case atStart => exact ⟨0, rfl, by omega, HS0.out⟩
  case round =>
    clear HS0
    obtain ⟨i, rfl, him, HS⟩ := hrel
    by_cases hlt : i < m
    · have hlt2 : (i : Int) < (m : Int) := by omega
      have KS := HS.out.set (Nat.le_of_eq HB.out) (by omega)
      obtain ⟨ff, hff⟩ : ∃ ff, f9 i = ff := ⟨_, rfl⟩
      have hf2 : (1 : Int) + (i : Int) % 9 = (ff : Int) := by unfold f9 at hff; omega
      rw [hff] at KS
      clear hff
      by_cases hl4 : i < 1024
      · have hl5 : (i : Int) < 1024 := by omega
        rw [if_pos hl4] at KS
        go_wp2_with (go_at_call 10; refine KS.mono ?_; clear KS; rintro e w3 ⟨rfl, ts⟩; have HS3 : Hid (FuS base w g base (i + 1) w3) := ts; clear ts)
        go_roundw
        case rel => exact ⟨i + 1, by go_num, by omega, HS3.out⟩
        case measure => simp [intOf]; omega
      · have hl5 : ¬ (i : Int) < 1024 := by omega
        rw [if_neg hl4] at KS
        go_wp2_with (go_at_call 10; refine KS.mono ?_; clear KS; rintro e w3 ⟨rfl, ts⟩; have HS3 : Hid (FuS base w g base (i + 1) w3) := ts; clear ts)
        go_roundw
        case rel => exact ⟨i + 1, by go_num, by omega, HS3.out⟩
        case measure => simp [intOf]; omega
    · obtain rfl : m = i := by omega
      have hlt2 : ¬ (m : Int) < (m : Int) := by omega
      by_cases h4 : m ≤ 1024
      · have h42 : (m : Int) ≤ 1024 := by omega
        have hz : min m 1024 = m := by omega
        by_cases h0 : 0 < m
        · have h02 : (0 : Int) < (m : Int) := by omega
          have KF := HS.out.first (Nat.le_of_eq HB.out) h0
          rw [hz] at KF
          clear hz
          go_wp2_with (first
            | (go_at_call 10; refine KF.mono ?_; clear KF; rintro e w3 ⟨rfl, ts⟩; have HS3 : Hid (FuL base w g base m w3) := ts; have KL := ts.tells; clear ts)
            | (go_at_call 20; refine KL.mono ?_; clear KL; rintro e w' ⟨rfl, rfl⟩)
            | (go_at_call 21; refine (qawake_in _).mono ?_; rintro e w6 ⟨rfl, hf6⟩))
          go_ret
          refine ⟨rfl, ?_⟩
          obtain ⟨_, _, _, _, f9⟩ := HS3.out
          exact (f9.trans (hf6.mono (fun _ _ e => e.elim))).below (fun k hk e => by have h1 := HB.out; have h2 : base ≤ k := e; omega)
        · have h02 : ¬ (0 : Int) < (m : Int) := by omega
          have HS3 : Hid (FuL base w g base m wr) := by rw [← hz]; exact HS.out.len
          have KL := HS3.out.tells
          clear hz
          go_wp2_with (first
            | (go_at_call 20; refine KL.mono ?_; clear KL; rintro e w' ⟨rfl, rfl⟩)
            | (go_at_call 21; refine (qawake_in _).mono ?_; rintro e w6 ⟨rfl, hf6⟩))
          go_ret
          refine ⟨rfl, ?_⟩
          obtain ⟨_, _, _, _, f9⟩ := HS3.out
          exact (f9.trans (hf6.mono (fun _ _ e => e.elim))).below (fun k hk e => by have h1 := HB.out; have h2 : base ≤ k := e; omega)
      · have h42 : ¬ (m : Int) ≤ 1024 := by omega
        have hz : min m 1024 = 1024 := by omega
        by_cases h0 : 0 < m
        · have h02 : (0 : Int) < (m : Int) := by omega
          have KF := HS.out.first (Nat.le_of_eq HB.out) h0
          rw [hz] at KF
          clear hz
          go_wp2_with (first
            | (go_at_call 10; refine KF.mono ?_; clear KF; rintro e w3 ⟨rfl, ts⟩; have HS3 : Hid (FuL base w g base 1024 w3) := ts; have KL := ts.tells; clear ts)
            | (go_at_call 20; refine KL.mono ?_; clear KL; rintro e w' ⟨rfl, rfl⟩)
            | (go_at_call 21; refine (qawake_in _).mono ?_; rintro e w6 ⟨rfl, hf6⟩))
          go_ret
          refine ⟨rfl, ?_⟩
          obtain ⟨_, _, _, _, f9⟩ := HS3.out
          exact (f9.trans (hf6.mono (fun _ _ e => e.elim))).below (fun k hk e => by have h1 := HB.out; have h2 : base ≤ k := e; omega)
        · have h02 : ¬ (0 : Int) < (m : Int) := by omega
          have HS3 : Hid (FuL base w g base 1024 wr) := by rw [← hz]; exact HS.out.len
          have KL := HS3.out.tells
          clear hz
          go_wp2_with (first
            | (go_at_call 20; refine KL.mono ?_; clear KL; rintro e w' ⟨rfl, rfl⟩)
            | (go_at_call 21; refine (qawake_in _).mono ?_; rintro e w6 ⟨rfl, hf6⟩))
          go_ret
          refine ⟨rfl, ?_⟩
          obtain ⟨_, _, _, _, f9⟩ := HS3.out
          exact (f9.trans (hf6.mono (fun _ _ e => e.elim))).below (fun k hk e => by have h1 := HB.out; have h2 : base ≤ k := e; omega)
end Go.Proofs.Ytldedlphamcehaa
