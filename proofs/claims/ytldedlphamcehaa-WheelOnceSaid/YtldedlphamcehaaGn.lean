/- The walk of WheelOnce. -/
import Derived.Test.YtldedlphamcehaaGk
import Derived.Test.YtldedlphamcehaaGm
import Derived.Test.YtldedlphamcehaaLw
namespace Go.Proofs.Ytldedlphamcehaa
open Go.RowKit Go.Maps
set_option linter.unusedVariables false
set_option maxRecDepth 100000
set_option maxHeartbeats 4000000

/-- The law's timer among others. -/
def OnS (base : Nat) (w : World) (g mb n N : Nat) (wr : World) : Prop := ∃ sl L, WAt base wr g mb sl N L ∧ OneT 1000000 n N L ∧ Fr (fun k => base ≤ k) w wr
theorem OnS.later {base : Nat} {w : World} {g mb n N : Nat} {wr w' : World} (h : OnS base w g mb n N wr) (f : Fr (fun _ => False) wr w') : OnS base w g mb n N w' := by
  obtain ⟨sl, L, h1, h2, h3⟩ := h
  exact ⟨sl, L, h1.later f, h2, h3.trans (f.mono (fun _ _ e => e.elim))⟩
/-- One tick of it: it is told just then. -/
def OnT (base : Nat) (w : World) (g mb n N : Nat) (e : Ending) (w' : World) : Prop := ∃ a m c xs, e = .returned (.slice a m c) ∧ OwnAt w' 3 (.slice a m c) (iv xs) ∧ xs.length ≤ 4096 ∧ decide ((1000000 : Int) ∈ xs) = decide (N + 1 = n) ∧ OnS base w g mb n (N + 1) w'
theorem OnS.tick {base : Nat} {w : World} {g mb n N : Nat} {wr : World} (h : OnS base w g mb n N wr) (hb : base ≤ w.heap.size) (hN : N < 1000000000000000000) : Calls Try.prog 15 #[.pointer (some ⟨g, 0, none⟩)] wr (OnT base w g mb n N) := by
  obtain ⟨sl, L, h1, h2, h3⟩ := h
  refine (qTick_in h1 (Nat.le_trans hb h3.size) hN).mono ?_
  rintro e w' ⟨a, m, c, rfl, ho, hk, sl2, h4, h5, h6⟩
  obtain ⟨k1, k2⟩ := one_tick h1.2 h2
  exact ⟨a, m, c, dueT N L, rfl, ho, due_few h1.2, k2, sl2, restT N L, h4, k1, h3.trans (h5.mono (fun k _ e => h1.1.base_le k e))⟩
theorem OnS.set {base : Nat} {w : World} {g mb n N : Nat} {wr : World} (h : OnS base w g mb n N wr) (hb : base ≤ w.heap.size) (hN : N < 1000000000000000000) (d m : Int) (hd : IsI d) (hne : d ≠ 1000000) : Calls Try.prog 10 #[.pointer (some ⟨g, 0, none⟩), .int .i64 d, .int .i64 m] wr fun e w' => (∃ k : Int, e = .returned (.int .i64 k)) ∧ OnS base w g mb n N w' := by
  obtain ⟨sl, L, h1, h2, h3⟩ := h
  refine (qSet_in h1 (Nat.le_trans hb h3.size) hN d m hd).mono ?_
  rintro e w' ⟨rfl, sl2, h4, h5, h6⟩
  exact ⟨⟨_, rfl⟩, sl2, _, h4, one_set h2 (fun e => hne e.symm), h3.trans (h5.mono (fun k _ e => h1.1.base_le k e))⟩
theorem OnS.cancel {base : Nat} {w : World} {g mb n N : Nat} {wr : World} (h : OnS base w g mb n N wr) (hb : base ≤ w.heap.size) (hN : N < 1000000000000000000) (d : Int) (hd : IsI d) (hne : d ≠ 1000000) : Calls Try.prog 12 #[.pointer (some ⟨g, 0, none⟩), .int .i64 d] wr fun e w' => (∃ k : Int, e = .returned (.int .i64 k)) ∧ OnS base w g mb n N w' := by
  obtain ⟨sl, L, h1, h2, h3⟩ := h
  refine (qCancel_in h1 (Nat.le_trans hb h3.size) hN d hd).mono ?_
  rintro e w' ⟨rfl, sl2, h4, h5, h6⟩
  exact ⟨⟨_, rfl⟩, sl2, _, h4, one_cancel h2 (fun e => hne e.symm), h3.trans (h5.mono (fun k _ e => h1.1.base_le k e))⟩
theorem OnS.left {base : Nat} {w : World} {g mb n : Nat} {wr : World} (h : OnS base w g mb n n wr) (hN : n < 1000000000000000000) : Calls Try.prog 17 #[.pointer (some ⟨g, 0, none⟩), .int .i64 1000000] wr fun e w' => e = .returned (.tuple #[.int .i64 0, .int .i64 6]) ∧ wr = w' := by
  obtain ⟨sl, L, h1, h2, h3⟩ := h
  have K := qLeft_in h1 1000000 ⟨by decide, by decide⟩ hN
  unfold OneT at h2
  rw [if_neg (by omega)] at h2
  have e : leftT n L 1000000 = (0, 6) := by unfold leftT; rw [h2]
  rw [e] at K
  exact K
theorem OnS.now {base : Nat} {w : World} {g mb n N : Nat} {wr : World} (h : OnS base w g mb n N wr) : Calls Try.prog 19 #[.pointer (some ⟨g, 0, none⟩)] wr fun e w' => e = .returned (.int .i64 (N : Int)) ∧ wr = w' := by
  obtain ⟨sl, L, h1, h2, h3⟩ := h
  exact qNow_in h1
theorem qonce_walk (a0 : Nat) (ha0 : a0 ≤ 255) (q : Option Addr) (c m : Nat) (X : List (Int × Int × Int)) (w : World) (hI : Ops16 w q c X) (hl : X.length = m) : Calls Try.prog 4 #[.int .u8 (a0 : Int), .slice q m c] w fun e w' => e = .returned (.bool true) ∧ Below w.heap.size w w' := by
  have KN := qNew_in w.heap.size w (Nat.le_refl _)
  obtain ⟨n, hn⟩ : ∃ n, n = 1 + a0 % 100 := ⟨_, rfl⟩
  have hn1 : 1 ≤ n ∧ n ≤ 100 := by omega
  have hna : (1 : Int) + (a0 : Int) % 100 = (n : Int) := by omega
  have hmb2 : (m : Int) ≤ 9000000000000000000 := by have := hI.few; rw [hl] at this; have h2 : reachBytes < 2 ^ 47 := reach_lt; omega
  have HI : Hid (Ops16 w q c X) := hI
  have HL : Hid (X.length = m) := hl
  obtain ⟨base, hbase⟩ : ∃ base, base = w.heap.size := ⟨_, rfl⟩
  obtain ⟨g, hg⟩ : ∃ g, g = w.heap.size + 1 := ⟨_, rfl⟩
  rw [← hg, ← hbase] at KN
  have HB : Hid (base = w.heap.size) := hbase
  clear hn hI hl hbase hg
  go_enter Try.func4, Try.ntmps4
  go_upto_region 5 with (go_at_call 8; refine KN.mono ?_; clear KN; rintro e w1 ⟨rfl, h1, f1, s1⟩)
  have H1 : Hid (WAt base w1 g base (List.replicate 64 nilS) 0 []) := h1
  have F1 : Hid (Fr (fun _ => False) w w1) := f1
  have KS := qSet_in h1 (by rw [HB.out]; exact f1.size) (by omega) 1000000 (n : Int) ⟨by decide, by decide⟩
  have HO := one_first 1000000 n (by omega) hn1.1 (by omega)
  rw [HO.1] at KS
  have HO2 : Hid (OneT 1000000 n 0 (setT 0 [] 1000000 (n : Int)).2) := HO.2
  clear h1 f1 s1 HO

  go_wp2_with (go_at_call 10; refine KS.mono ?_; clear KS; rintro e w2 ⟨rfl, sl2, h2, f2, -⟩; have HS0 : Hid (OnS base w g base n 0 w2) := ⟨sl2, _, h2, HO2.out, (F1.out.mono (fun _ _ e => e.elim)).trans (f2.mono (fun k _ e => H1.out.1.base_le k e))⟩; clear h2 f2)
  clear H1 F1 HO2
  go_loopw [7, 8] (fun x7 x8 wr => ∃ i N : Nat, x7 = .int .i64 (N : Int) ∧ x8 = .int .i64 (i : Int) ∧ i ≤ m ∧ N ≤ n ∧ Hid (OnS base w g base n N wr)) (fun _ x8 _ => m - (intOf x8).toNat)
  case atStart => exact ⟨0, 0, rfl, rfl, by omega, by omega, HS0.out⟩
  case round =>
    clear HS0
    obtain ⟨i, N, rfl, rfl, him, hNn, HS⟩ := hrel
    by_cases hlt : i < m
    · have hlt2 : (i : Int) < (m : Int) := by omega
      by_cases hNl : N < n
      · have hNl2 : (N : Int) < (n : Int) := by omega
        obtain ⟨⟨wh, d, v⟩, ho⟩ : ∃ o, X[i]? = some o := ⟨X[i]'(by rw [HL.out]; exact hlt), List.getElem?_eq_getElem _⟩
        obtain ⟨gq, oq, rfl, hgq, a0, a1, a2, i0, i1, i2⟩ := HI.out.cells i _ ho
        dsimp only at a0 a1 a2 i0 i1 i2
        have hgb : ¬ base ≤ gq := by rw [HB.out]; omega
        obtain ⟨k0, k1, k2⟩ : wr.cell? ⟨gq, oq + i * 3, none⟩ = some (.int .i64 wh) ∧ wr.cell? ⟨gq, oq + i * 3 + 1, none⟩ = some (.int .i64 d) ∧ wr.cell? ⟨gq, oq + i * 3 + 2, none⟩ = some (.int .i64 v) := by
          obtain ⟨_, _, _, _, f0⟩ := HS.out
          exact ⟨(f0.cell (p := ⟨gq, _, none⟩) hgq hgb).trans a0, (f0.cell (p := ⟨gq, _, none⟩) hgq hgb).trans a1, (f0.cell (p := ⟨gq, _, none⟩) hgq hgb).trans a2⟩
        clear a0 a1 a2 ho
        go_upto_region 12 with (fail)
        obtain ⟨w2, hw2⟩ : ∃ w2, w2 = wr.alloc (Obj.cells #[.int .i64 wh, .int .i64 d, .int .i64 v] 28) := ⟨_, rfl⟩
        have F2 : Hid (Fr (fun _ => False) wr w2) := by rw [hw2]; exact (Fr.refl _ _).alloc _
        have O2 : Hid (w2.heap[wr.heap.size]? = some (.cells #[.int .i64 wh, .int .i64 d, .int .i64 v] 28 (0, 0))) := by rw [hw2]; exact heap_alloc_new _ _
        rw [← hw2]
        clear hw2 k0 k1 k2
        have o0 : w2.cell? ⟨wr.heap.size, 0, none⟩ = some (.int .i64 wh) := cell_of_heap O2.out rfl
        have o1 : w2.cell? ⟨wr.heap.size, 1, none⟩ = some (.int .i64 d) := cell_of_heap O2.out rfl
        have o2 : w2.cell? ⟨wr.heap.size, 2, none⟩ = some (.int .i64 v) := cell_of_heap O2.out rfl
        have HS2 : Hid (OnS base w g base n N w2) := HS.out.later F2.out
        by_cases hd : d = 1000000
        · subst hd
          go_wp2_with (fail)
          go_roundw
          case rel => exact ⟨i + 1, N, rfl, by go_num, by omega, by omega, HS2.out⟩
          case measure => simp [intOf]; omega
        have hd2 : (d == 1000000) = false := by rw [beq_eq_false_iff_ne]; exact hd
        by_cases hw0 : wh = 0
        · subst hw0
          have KS := HS2.out.set (Nat.le_of_eq HB.out) (by omega) d v i1 hd
          go_wp2_with (go_at_call 10; refine KS.mono ?_; clear KS; rintro e w3 ⟨⟨kk, rfl⟩, ts⟩; have HS3 : Hid (OnS base w g base n N w3) := ts; clear ts)
          go_roundw
          case rel => exact ⟨i + 1, N, rfl, by go_num, by omega, by omega, HS3.out⟩
          case measure => simp [intOf]; omega
        have hw02 : (wh == 0) = false := by rw [beq_eq_false_iff_ne]; exact hw0
        by_cases hw1 : wh = 1
        · subst hw1
          have KS := HS2.out.cancel (Nat.le_of_eq HB.out) (by omega) d i1 hd
          go_wp2_with (go_at_call 12; refine KS.mono ?_; clear KS; rintro e w3 ⟨⟨kk, rfl⟩, ts⟩; have HS3 : Hid (OnS base w g base n N w3) := ts; clear ts)
          go_roundw
          case rel => exact ⟨i + 1, N, rfl, by go_num, by omega, by omega, HS3.out⟩
          case measure => simp [intOf]; omega
        have hw12 : (wh == 1) = false := by rw [beq_eq_false_iff_ne]; exact hw1
        · have KT := HS2.out.tick (Nat.le_of_eq HB.out) (by omega)
          by_cases hE : N + 1 = n
          · have hE2 : (N : Int) + 1 = (n : Int) := by omega
            have HE : Hid (decide (N + 1 = n) = true) := decide_eq_true hE
            clear hE
            go_wp2_with (first
              | (go_at_call 15; refine KT.mono ?_; clear KT; rintro e w3 ⟨ta, tm, tc, xs, rfl, to, tl, td, ts⟩; have HS3 : Hid (OnS base w g base n (N + 1) w3) := ts; have KH := qhas_in ta tc tm 1000000 xs w3 to tl; rw [td, HE.out] at KH; clear to tl td ts)
              | (go_at_call 22; refine KH.mono ?_; clear KH; rintro e w' ⟨rfl, rfl⟩))
            go_roundw
            case rel => exact ⟨i + 1, N + 1, by go_num, by go_num, by omega, by omega, HS3.out⟩
            case measure => simp [intOf]; omega
          · have hE2 : ((N : Int) + 1 == (n : Int)) = false := by rw [beq_eq_false_iff_ne]; omega
            have hE3 : ¬ (N : Int) + 1 = (n : Int) := by omega
            have HE : Hid (decide (N + 1 = n) = false) := decide_eq_false hE
            clear hE
            go_wp2_with (first
              | (go_at_call 15; refine KT.mono ?_; clear KT; rintro e w3 ⟨ta, tm, tc, xs, rfl, to, tl, td, ts⟩; have HS3 : Hid (OnS base w g base n (N + 1) w3) := ts; have KH := qhas_in ta tc tm 1000000 xs w3 to tl; rw [td, HE.out] at KH; clear to tl td ts)
              | (go_at_call 22; refine KH.mono ?_; clear KH; rintro e w' ⟨rfl, rfl⟩))
            go_roundw
            case rel => exact ⟨i + 1, N + 1, by go_num, by go_num, by omega, by omega, HS3.out⟩
            case measure => simp [intOf]; omega
      · have hNl2 : ¬ (N : Int) < (n : Int) := by omega
        go_wp2_with (fail)
        go_loopw [7] (fun x7 wr => ∃ N : Nat, x7 = .int .i64 (N : Int) ∧ N ≤ n ∧ Hid (OnS base w g base n N wr)) (fun x7 _ => n - (intOf x7).toNat)
        case atStart => exact ⟨N, rfl, hNn, HS.out⟩
        case round =>
          clear HS hNn
          try clear hNl hNl2
          obtain ⟨N, rfl, hNn, HS⟩ := hrel
          by_cases hNl : N < n
          · have hNl2 : (N : Int) < (n : Int) := by omega
            have HS2 : Hid (OnS base w g base n N wr) := HS.out
            clear HS
            have KT := HS2.out.tick (Nat.le_of_eq HB.out) (by omega)
            by_cases hE : N + 1 = n
            · have hE2 : (N : Int) + 1 = (n : Int) := by omega
              have HE : Hid (decide (N + 1 = n) = true) := decide_eq_true hE
              clear hE
              go_wp2_with (first
                | (go_at_call 15; refine KT.mono ?_; clear KT; rintro e w3 ⟨ta, tm, tc, xs, rfl, to, tl, td, ts⟩; have HS3 : Hid (OnS base w g base n (N + 1) w3) := ts; have KH := qhas_in ta tc tm 1000000 xs w3 to tl; rw [td, HE.out] at KH; clear to tl td ts)
                | (go_at_call 22; refine KH.mono ?_; clear KH; rintro e w' ⟨rfl, rfl⟩))
              go_roundw
              case rel => exact ⟨N + 1, by go_num, by omega, HS3.out⟩
              case measure => simp [intOf]; omega
            · have hE2 : ((N : Int) + 1 == (n : Int)) = false := by rw [beq_eq_false_iff_ne]; omega
              have hE3 : ¬ (N : Int) + 1 = (n : Int) := by omega
              have HE : Hid (decide (N + 1 = n) = false) := decide_eq_false hE
              clear hE
              go_wp2_with (first
                | (go_at_call 15; refine KT.mono ?_; clear KT; rintro e w3 ⟨ta, tm, tc, xs, rfl, to, tl, td, ts⟩; have HS3 : Hid (OnS base w g base n (N + 1) w3) := ts; have KH := qhas_in ta tc tm 1000000 xs w3 to tl; rw [td, HE.out] at KH; clear to tl td ts)
                | (go_at_call 22; refine KH.mono ?_; clear KH; rintro e w' ⟨rfl, rfl⟩))
              go_roundw
              case rel => exact ⟨N + 1, by go_num, by omega, HS3.out⟩
              case measure => simp [intOf]; omega
          · obtain rfl : n = N := by omega
            have KL := HS.out.left (by omega)
            have KW := HS.out.now
            have KT := HS.out.tick (Nat.le_of_eq HB.out) (by omega)
            have HE : Hid (decide (n + 1 = n) = false) := decide_eq_false (by omega)
            clear HS
            go_wp2_with (first
              | (go_at_call 17; refine KL.mono ?_; clear KL; rintro e w' ⟨rfl, rfl⟩)
              | (go_at_call 19; refine KW.mono ?_; clear KW; rintro e w' ⟨rfl, rfl⟩)
              | (go_at_call 15; refine KT.mono ?_; clear KT; rintro e w3 ⟨ta, tm, tc, xs, rfl, to, tl, td, ts⟩; have HS3 : Hid (OnS base w g base n (n + 1) w3) := ts; have KH := qhas_in ta tc tm 1000000 xs w3 to tl; rw [td, HE.out] at KH; clear to tl td ts)
              | (go_at_call 22; refine KH.mono ?_; clear KH; rintro e w' ⟨rfl, rfl⟩))
            go_ret
            refine ⟨rfl, ?_⟩
            obtain ⟨_, _, _, _, f9⟩ := HS3.out
            exact f9.below (fun k hk e => by have h1 := HB.out; have h2 : base ≤ k := e; omega)
    · have hlt2 : ¬ (i : Int) < (m : Int) := by omega
      go_wp2_with (fail)
      go_loopw [7] (fun x7 wr => ∃ N : Nat, x7 = .int .i64 (N : Int) ∧ N ≤ n ∧ Hid (OnS base w g base n N wr)) (fun x7 _ => n - (intOf x7).toNat)
      case atStart => exact ⟨N, rfl, hNn, HS.out⟩
      case round =>
        clear HS hNn
        try clear hNl hNl2
        obtain ⟨N, rfl, hNn, HS⟩ := hrel
        by_cases hNl : N < n
        · have hNl2 : (N : Int) < (n : Int) := by omega
          have HS2 : Hid (OnS base w g base n N wr) := HS.out
          clear HS
          have KT := HS2.out.tick (Nat.le_of_eq HB.out) (by omega)
          by_cases hE : N + 1 = n
          · have hE2 : (N : Int) + 1 = (n : Int) := by omega
            have HE : Hid (decide (N + 1 = n) = true) := decide_eq_true hE
            clear hE
            go_wp2_with (first
              | (go_at_call 15; refine KT.mono ?_; clear KT; rintro e w3 ⟨ta, tm, tc, xs, rfl, to, tl, td, ts⟩; have HS3 : Hid (OnS base w g base n (N + 1) w3) := ts; have KH := qhas_in ta tc tm 1000000 xs w3 to tl; rw [td, HE.out] at KH; clear to tl td ts)
              | (go_at_call 22; refine KH.mono ?_; clear KH; rintro e w' ⟨rfl, rfl⟩))
            go_roundw
            case rel => exact ⟨N + 1, by go_num, by omega, HS3.out⟩
            case measure => simp [intOf]; omega
          · have hE2 : ((N : Int) + 1 == (n : Int)) = false := by rw [beq_eq_false_iff_ne]; omega
            have hE3 : ¬ (N : Int) + 1 = (n : Int) := by omega
            have HE : Hid (decide (N + 1 = n) = false) := decide_eq_false hE
            clear hE
            go_wp2_with (first
              | (go_at_call 15; refine KT.mono ?_; clear KT; rintro e w3 ⟨ta, tm, tc, xs, rfl, to, tl, td, ts⟩; have HS3 : Hid (OnS base w g base n (N + 1) w3) := ts; have KH := qhas_in ta tc tm 1000000 xs w3 to tl; rw [td, HE.out] at KH; clear to tl td ts)
              | (go_at_call 22; refine KH.mono ?_; clear KH; rintro e w' ⟨rfl, rfl⟩))
            go_roundw
            case rel => exact ⟨N + 1, by go_num, by omega, HS3.out⟩
            case measure => simp [intOf]; omega
        · obtain rfl : n = N := by omega
          have KL := HS.out.left (by omega)
          have KW := HS.out.now
          have KT := HS.out.tick (Nat.le_of_eq HB.out) (by omega)
          have HE : Hid (decide (n + 1 = n) = false) := decide_eq_false (by omega)
          clear HS
          go_wp2_with (first
            | (go_at_call 17; refine KL.mono ?_; clear KL; rintro e w' ⟨rfl, rfl⟩)
            | (go_at_call 19; refine KW.mono ?_; clear KW; rintro e w' ⟨rfl, rfl⟩)
            | (go_at_call 15; refine KT.mono ?_; clear KT; rintro e w3 ⟨ta, tm, tc, xs, rfl, to, tl, td, ts⟩; have HS3 : Hid (OnS base w g base n (n + 1) w3) := ts; have KH := qhas_in ta tc tm 1000000 xs w3 to tl; rw [td, HE.out] at KH; clear to tl td ts)
            | (go_at_call 22; refine KH.mono ?_; clear KH; rintro e w' ⟨rfl, rfl⟩))
          go_ret
          refine ⟨rfl, ?_⟩
          obtain ⟨_, _, _, _, f9⟩ := HS3.out
          exact f9.below (fun k hk e => by have h1 := HB.out; have h2 : base ≤ k := e; omega)
end Go.Proofs.Ytldedlphamcehaa
