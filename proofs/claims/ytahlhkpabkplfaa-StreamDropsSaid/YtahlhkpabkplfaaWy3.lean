/- The walk of StreamDrops. -/
import Derived.Test.YtahlhkpabkplfaaYk
import Derived.Test.YtahlhkpabkplfaaYb
import Derived.Deep.Cut
namespace Go.Proofs.Ytahlhkpabkplfaa
open Go.RowKit Go.Maps
set_option linter.unusedVariables false
set_option maxRecDepth 100000
set_option maxHeartbeats 4000000

theorem dropd_state (n : Nat) (hn : 1 ≤ n) : stateS (dropd n) 1 = 4 := by
  unfold stateS
  have e : findS (dropd n).L 1 = none := rfl
  rw [e]
  dsimp only
  have e2 : (dropd n).server = true := rfl
  have e3 : (dropd n).theirs = 2 * (n : Int) - 1 := by show (if n = 0 then (0 : Int) else _) = _; rw [if_neg (by omega)]
  have e4 : ownS true 1 = false := rfl
  rw [e2, e3, e4, if_neg]
  simp
  omega
theorem dropd_one (n : Nat) (hn : 1 ≤ n) (wh : Int) (h : wh = 0 ∨ wh = 1 ∨ wh = 2) : doS (dropd n) 1 wh = (if n ≤ 64 then (4, (false, 0, 0), 0) else (0, (true, 0, 5), 0), dropd n) := by
  have e1 : (dropd n).gone.contains 1 = decide (n ≤ 64) := odds_first n hn
  unfold doS
  rw [if_neg (by decide), e1, dropd_state n hn]
  by_cases hc : n ≤ 64
  · rw [if_pos ⟨decide_eq_true hc, by omega, by omega⟩, if_pos hc]
  · rw [if_neg (by simp [hc]), if_neg hc]
    rcases h with rfl | rfl | rfl <;> rfl
theorem dropd_last (n : Nat) (hn : 1 ≤ n) (h1 : n ≤ 1000) (wh : Int) (h : 0 ≤ wh ∧ wh ≤ 4) : doS (dropd n) (2 * (n : Int) - 1) wh = ((4, (false, 0, 0), 0), dropd n) := by
  have e1 : (dropd n).gone.contains (2 * (n : Int) - 1) = true := odds_last n hn
  unfold doS
  rw [if_neg (by omega), if_pos ⟨e1, h⟩]
theorem drops_walk (a b : Nat) (w : World) (ha : a ≤ 255) (hb : b ≤ 255) : Calls Try.prog 6 #[.int .u8 (a : Int), .int .u8 (b : Int)] w fun e w' => e = .returned (.bool true) ∧ Below w.heap.size w w' := by
  have KN := yNew_in true 10 w (by omega) (by omega)
  obtain ⟨g, hg⟩ : ∃ g, g = w.heap.size + 1 := ⟨_, rfl⟩
  obtain ⟨mb, hmb⟩ : ∃ mb, mb = w.heap.size := ⟨_, rfl⟩
  rw [← hg, ← hmb] at KN
  obtain ⟨n, hn⟩ : ∃ n, n = 1 + a % 100 := ⟨_, rfl⟩
  have hn1 : 1 ≤ n ∧ n ≤ 100 := by omega
  have hna : (1 : Int) + (a : Int) % 100 = (n : Int) := by omega
  obtain ⟨c, hc⟩ : ∃ c, c = b % 3 := ⟨_, rfl⟩
  obtain ⟨d, hd⟩ : ∃ d, d = b % 5 := ⟨_, rfl⟩
  have hcb : (b : Int) % 3 = (c : Int) := by omega
  have hdb : (b : Int) % 5 = (d : Int) := by omega
  have hc3 : c < 3 := by omega
  have hd5 : d < 5 := by omega
  have HG : Hid (g = w.heap.size + 1 ∧ mb = w.heap.size) := ⟨hg, hmb⟩
  clear hg hmb hn hc hd
  go_enter Try.func6, Try.ntmps6
  go_wp2_with (go_at_call 12; refine KN.mono ?_; clear KN; rintro e w1 ⟨rfl, y1, f1, s1⟩)
  have HS1 : Hid (YAt w1 g mb (dropd 0) ∧ Fr (fun k => w.heap.size ≤ k) w w1) := ⟨by rw [← dropd_new]; exact y1, f1.mono (fun _ _ e => e.elim)⟩
  clear y1 f1 s1
  go_loopw [8] (fun x8 wr => ∃ i : Nat, x8 = .int .i64 (i : Int) ∧ i ≤ n ∧ Hid (YAt wr g mb (dropd i) ∧ Fr (fun k => w.heap.size ≤ k) w wr)) (fun x8 _ => n - (intOf x8).toNat)
  case atStart => exact ⟨0, rfl, by omega, HS1.out⟩
  case round =>
    clear HS1
    obtain ⟨i, rfl, hin, HS⟩ := hrel
    by_cases hlt : i < n
    · have hlt2 : (i : Int) < (n : Int) := by omega
      have KP := yPeer_in g mb (dropd i) (2 * (i : Int) + 1) wr HS.out.1
      rw [peerV, drop_peer i (by omega)] at KP
      simp only [fltV, Bool.false_eq_true, if_false] at KP
      go_upto_region 9 with (go_at_call 20; refine KP.mono ?_; clear KP; rintro e w2 ⟨rfl, y2, f2⟩)
      obtain ⟨w3, hw3⟩ : ∃ w3, w3 = w2.alloc (Obj.cells #[.bool false, .int .i64 0, .int .i64 0] 48) := ⟨_, rfl⟩
      have F3 : Fr (fun _ => False) w2 w3 := by rw [hw3]; exact (Fr.refl _ _).alloc _
      have x0 : w3.cell? ⟨w2.heap.size, 0, none⟩ = some (.bool false) := by rw [hw3]; exact cell_of_heap (heap_alloc_new _ _) rfl
      have l3 : w2.heap.size < w3.heap.size := by rw [hw3]; simp
      rw [← hw3]
      clear hw3
      have hgl := y2.lt
      have y3 := y2.fr F3 id id
      have KD := yDo_in g mb _ (2 * (i : Int) + 1) 0 w3 y3
      rw [drop_open i (by omega)] at KD
      go_upto_region 10 with (go_at_call 21; refine KD.mono ?_; clear KD; rintro e w4 ⟨rfl, y4, f4⟩)
      have x1 : w4.cell? ⟨w2.heap.size, 0, none⟩ = some (.bool false) := (f4.cell (p := ⟨w2.heap.size, 0, none⟩) l3 (by show ¬ (w2.heap.size = g ∨ w2.heap.size = mb); omega)).trans x0
      have l4 := Nat.lt_of_lt_of_le l3 f4.size
      clear x0
      have KE := yDo_in g mb _ (2 * (i : Int) + 1) 8 w4 y4
      rw [drop_reset i (by omega)] at KE
      unfold DoAs doV fltV at KE
      dsimp only at KE
      go_upto_region 11 with (go_at_call 21; refine KE.mono ?_; clear KE; rintro e w5 ⟨rfl, y5, f5⟩)
      have x2 : w5.cell? ⟨w2.heap.size, 0, none⟩ = some (.bool false) := (f5.cell (p := ⟨w2.heap.size, 0, none⟩) l4 (by show ¬ (w2.heap.size = g ∨ w2.heap.size = mb); omega)).trans x1
      obtain ⟨w6, hw6⟩ : ∃ w6, w6 = w5.alloc (Obj.cells #[.bool false, .int .i64 0, .int .i64 0] 48) := ⟨_, rfl⟩
      have F6 : Fr (fun _ => False) w5 w6 := by rw [hw6]; exact (Fr.refl _ _).alloc _
      have x3 : w6.cell? ⟨w2.heap.size, 0, none⟩ = some (.bool false) := (F6.cell (p := ⟨w2.heap.size, 0, none⟩) (Nat.lt_of_lt_of_le l4 f5.size) id).trans x2
      rw [← hw6]
      clear hw6 x1 x2
      have hG := HG.out
      have HS6 : Hid (YAt w6 g mb (dropd (i + 1)) ∧ Fr (fun k => w.heap.size ≤ k) w w6) :=
        ⟨y5.fr F6 id id, ((((HS.out.2.trans (f2.mono (fun k _ e => by show _ ≤ k; omega))).trans (F3.mono (fun _ _ e => e.elim))).trans (f4.mono (fun k _ e => by show _ ≤ k; omega))).trans (f5.mono (fun k _ e => by show _ ≤ k; omega))).trans (F6.mono (fun _ _ e => e.elim))⟩
      clear y2 f2 F3 y3 y4 f4 y5 f5 F6 hG hgl l3 l4
      go_wp2_with (fail)
      go_roundw
      case rel => exact ⟨i + 1, by go_num, by omega, HS6.out⟩
      case measure => simp [intOf]; omega
    · obtain rfl : n = i := by omega
      clear hlt
      by_cases hcs : n ≤ 64
      · have hq : (n : Int) ≤ 64 := by omega
        have K1 := yDo_in g mb (dropd n) 1 (c : Int) wr HS.out.1
        rw [dropd_one n hn1.1 c (by omega), if_pos hcs] at K1
        unfold DoAs doV fltV at K1
        dsimp only at K1
        go_upto_region 14 with (go_at_call 21; refine K1.mono ?_; clear K1; rintro e w2 ⟨rfl, y2, f2⟩)
        obtain ⟨w3, hw3⟩ : ∃ w3, w3 = w2.alloc (Obj.cells #[.bool false, .int .i64 0, .int .i64 0] 48) := ⟨_, rfl⟩
        have F3 : Hid (Fr (fun _ => False) w2 w3) := by rw [hw3]; exact (Fr.refl _ _).alloc _
        have R3 : Hid (w3.heap[w2.heap.size]? = some (.cells #[.bool false, .int .i64 0, .int .i64 0] 48 (0, 0))) := by rw [hw3]; exact heap_alloc_new _ _
        rw [← hw3]
        clear hw3
        have x0 : w3.cell? ⟨w2.heap.size, 0, none⟩ = some (.bool false) := cell_of_heap R3.out rfl
        have Y3 : Hid (YAt w3 g mb (dropd n)) := y2.fr F3.out id id
        have hgl : w2.heap.size ≠ g ∧ w2.heap.size ≠ mb := by have := y2.lt; omega
        have F2 : Hid (Fr (fun k => k = g ∨ k = mb) wr w2) := f2
        have KQ := yDropped_in g mb (dropd n) 1 w3 Y3.out
        have e1 : (numB 1 && (dropd n).gone.contains 1) = true := by
          rw [show (dropd n).gone.contains 1 = decide (n ≤ 64) from odds_first n hn1.1]
          simp [numB, hcs]
        rw [e1] at KQ
        have KS := yState_in g mb (dropd n) 1 w3 Y3.out ⟨by decide, by decide⟩
        rw [dropd_state n hn1.1] at KS
        have K2 := yDo_in g mb (dropd n) (2 * (n : Int) - 1) (d : Int) w3 Y3.out
        rw [dropd_last n hn1.1 (by omega) d (by omega)] at K2
        unfold DoAs doV fltV at K2
        dsimp only at K2
        clear y2 f2 e1
        have hm1 : ((2 : Int) * (n : Int) - 1) ≤ 1000 := by omega
        go_upto_region 17 with (first | (go_at_call 22; refine KQ.mono ?_; clear KQ; rintro e w' ⟨rfl, rfl⟩) | (go_at_call 17; refine KS.mono ?_; clear KS; rintro e w' ⟨rfl, rfl⟩) | (go_at_call 21; refine K2.mono ?_; clear K2; rintro e w4 ⟨rfl, y4, f4⟩; have R4 : Hid (w4.heap[w2.heap.size]? = some (.cells #[.bool false, .int .i64 0, .int .i64 0] 48 (0, 0))) := (f4.block _ (lt_of_heap R3.out) (by omega)).trans R3.out) | (refine wpList_storeB rfl 48 (.tmp 15) (.tmp 104) rfl w2.heap.size #[.bool false, .int .i64 0, .int .i64 0] #[.bool false, .int .i64 0, .int .i64 0] 48 rfl rfl R4.out rfl (by kernel_rfl) (by simp [Value.oneCell']) ?_; intro w5 H9 G9))
        have x5 : w5.cell? ⟨w2.heap.size, 0, none⟩ = some (.bool false) := cell_of_heap H9.out rfl
        have Y5 : Hid (YAt w5 g mb (dropd n)) := y4.fr G9.out (fun e => hgl.1 e.symm) (fun e => hgl.2 e.symm)
        have KO := yOpen_in g mb (dropd n) false w5 Y5.out
        have e2 : ((openS (dropd n) false : Nat) : Int) = 0 := rfl
        rw [e2] at KO
        have F4 : Hid (Fr (fun k => k = g ∨ k = mb) w3 w4) := f4
        clear y4 f4 x0 e2
        go_wp2_with (first | (go_at_call 18; refine KO.mono ?_; clear KO; rintro e w' ⟨rfl, rfl⟩) | (go_at_call 11; refine (yawake_in _).mono ?_; rintro e w6 ⟨rfl, hf6⟩))
        go_ret
        have hG := HG.out
        have hs := HS.out.2.size
        have hs2 := F2.out.size
        refine ⟨rfl, ((((HS.out.2.trans (F2.out.mono (fun k _ e => by show _ ≤ k; omega))).trans (F3.out.mono (fun _ _ e => e.elim))).trans (F4.out.mono (fun k _ e => by show _ ≤ k; omega))).trans (G9.out.mono (fun k _ e => by show _ ≤ k; omega))).trans (hf6.mono (fun _ _ e => e.elim)) |>.below (fun k hk e => by omega)⟩
      · have hq : ¬ (n : Int) ≤ 64 := by omega
        have K1 := yDo_in g mb (dropd n) 1 (c : Int) wr HS.out.1
        rw [dropd_one n hn1.1 c (by omega), if_neg hcs] at K1
        unfold DoAs doV fltV at K1
        dsimp only at K1
        go_upto_region 14 with (go_at_call 21; refine K1.mono ?_; clear K1; rintro e w2 ⟨rfl, y2, f2⟩)
        obtain ⟨w3, hw3⟩ : ∃ w3, w3 = w2.alloc (Obj.cells #[.bool true, .int .i64 0, .int .i64 5] 48) := ⟨_, rfl⟩
        have F3 : Hid (Fr (fun _ => False) w2 w3) := by rw [hw3]; exact (Fr.refl _ _).alloc _
        have R3 : Hid (w3.heap[w2.heap.size]? = some (.cells #[.bool true, .int .i64 0, .int .i64 5] 48 (0, 0))) := by rw [hw3]; exact heap_alloc_new _ _
        rw [← hw3]
        clear hw3
        have x0 : w3.cell? ⟨w2.heap.size, 0, none⟩ = some (.bool true) := cell_of_heap R3.out rfl
        have Y3 : Hid (YAt w3 g mb (dropd n)) := y2.fr F3.out id id
        have hgl : w2.heap.size ≠ g ∧ w2.heap.size ≠ mb := by have := y2.lt; omega
        have F2 : Hid (Fr (fun k => k = g ∨ k = mb) wr w2) := f2
        have KQ := yDropped_in g mb (dropd n) 1 w3 Y3.out
        have e1 : (numB 1 && (dropd n).gone.contains 1) = false := by
          rw [show (dropd n).gone.contains 1 = decide (n ≤ 64) from odds_first n hn1.1]
          simp [numB, hcs]
        rw [e1] at KQ
        have KS := yState_in g mb (dropd n) 1 w3 Y3.out ⟨by decide, by decide⟩
        rw [dropd_state n hn1.1] at KS
        have K2 := yDo_in g mb (dropd n) (2 * (n : Int) - 1) (d : Int) w3 Y3.out
        rw [dropd_last n hn1.1 (by omega) d (by omega)] at K2
        unfold DoAs doV fltV at K2
        dsimp only at K2
        clear y2 f2 e1
        have hm1 : ((2 : Int) * (n : Int) - 1) ≤ 1000 := by omega
        go_upto_region 17 with (first | (go_at_call 22; refine KQ.mono ?_; clear KQ; rintro e w' ⟨rfl, rfl⟩) | (go_at_call 17; refine KS.mono ?_; clear KS; rintro e w' ⟨rfl, rfl⟩) | (go_at_call 21; refine K2.mono ?_; clear K2; rintro e w4 ⟨rfl, y4, f4⟩; have R4 : Hid (w4.heap[w2.heap.size]? = some (.cells #[.bool true, .int .i64 0, .int .i64 5] 48 (0, 0))) := (f4.block _ (lt_of_heap R3.out) (by omega)).trans R3.out) | (refine wpList_storeB rfl 48 (.tmp 15) (.tmp 104) rfl w2.heap.size #[.bool true, .int .i64 0, .int .i64 5] #[.bool false, .int .i64 0, .int .i64 0] 48 rfl rfl R4.out rfl (by kernel_rfl) (by simp [Value.oneCell']) ?_; intro w5 H9 G9))
        have x5 : w5.cell? ⟨w2.heap.size, 0, none⟩ = some (.bool false) := cell_of_heap H9.out rfl
        have Y5 : Hid (YAt w5 g mb (dropd n)) := y4.fr G9.out (fun e => hgl.1 e.symm) (fun e => hgl.2 e.symm)
        have KO := yOpen_in g mb (dropd n) false w5 Y5.out
        have e2 : ((openS (dropd n) false : Nat) : Int) = 0 := rfl
        rw [e2] at KO
        have F4 : Hid (Fr (fun k => k = g ∨ k = mb) w3 w4) := f4
        clear y4 f4 x0 e2
        go_wp2_with (first | (go_at_call 18; refine KO.mono ?_; clear KO; rintro e w' ⟨rfl, rfl⟩) | (go_at_call 11; refine (yawake_in _).mono ?_; rintro e w6 ⟨rfl, hf6⟩))
        go_ret
        have hG := HG.out
        have hs := HS.out.2.size
        have hs2 := F2.out.size
        refine ⟨rfl, ((((HS.out.2.trans (F2.out.mono (fun k _ e => by show _ ≤ k; omega))).trans (F3.out.mono (fun _ _ e => e.elim))).trans (F4.out.mono (fun k _ e => by show _ ≤ k; omega))).trans (G9.out.mono (fun k _ e => by show _ ≤ k; omega))).trans (hf6.mono (fun _ _ e => e.elim)) |>.below (fun k hk e => by omega)⟩
end Go.Proofs.Ytahlhkpabkplfaa
