/- The walk of PoolWaits. -/
import Derived.Test.YtoiencoojkahmaaJj
namespace Go.Proofs.Ytoiencoojkahmaa
open Go.RowKit Go.Maps
set_option linter.unusedVariables false
set_option maxRecDepth 100000
set_option maxHeartbeats 4000000

theorem due_one (N : Nat) (t : Int) : dueT N [(0, t)] = if t = (N : Int) + 1 then [0] else [] := by
  unfold dueT
  by_cases h : t = (N : Int) + 1 <;> simp [h]
theorem rest_one (N : Nat) (t : Int) : restT N [(0, t)] = if t = (N : Int) + 1 then [] else [(0, t)] := by
  unfold restT
  by_cases h : t = (N : Int) + 1 <;> simp [h]
theorem set_one (N : Nat) {a : Int} (h1 : 1 ≤ a) (h2 : a ≤ 1073741824) : (setT N [] 0 a).2 = [(0, (N : Int) + a)] := by
  unfold setT
  rw [if_neg (by omega), if_neg (by simp)]
  rfl
section
variable {base : Nat} {w0 wr w' : World} {g : Nat} {rt mo : Int} {c : Nat} {may load wait : Int} {N : Nat}
/-- A tick ahead of its time. -/
theorem OneS.tick_not {t : Int} (h : OneS base w0 g rt mo c 0 may load wait N [(0, t)] wr) (hc : c ≤ 900000000000000000) (ht : t ≠ (N : Int) + 1) : Calls Try.prog 13 #[.pointer (some ⟨g, 0, none⟩)] wr fun e w' => ∃ a q, e = .returned (.slice a 0 q) ∧ Hid (OneS base w0 g rt mo (c + 1) 0 may load wait (N + 1) [(0, t)] w') := by
  refine (h.tick hc).mono ?_
  rw [due_one, rest_one, if_neg ht, if_neg ht]
  rintro e w' ⟨a, m, q, rfl, Y⟩
  obtain rfl : m = 0 := Y.out.1.lenI.1
  exact ⟨a, q, rfl, Y.out.2⟩
theorem OneS.tick_due {t : Int} (h : OneS base w0 g rt mo c 0 may load wait N [(0, t)] wr) (hc : c ≤ 900000000000000000) (ht : t = (N : Int) + 1) : Calls Try.prog 13 #[.pointer (some ⟨g, 0, none⟩)] wr fun e w' => ∃ a q, e = .returned (.slice a 1 q) ∧ Hid (OneS base w0 g rt mo (c + 1) 1 may load wait (N + 1) [] w') := by
  refine (h.tick hc).mono ?_
  rw [due_one, rest_one, if_pos ht, if_pos ht]
  rintro e w' ⟨a, m, q, rfl, Y⟩
  obtain rfl : m = 1 := Y.out.1.lenI.1
  exact ⟨a, q, rfl, by show OneS _ _ _ _ _ _ _ _ _ _ _ _ _; have := Y.out.2; simpa using this⟩
end
/-- Where the law stands: a backend that is down, its wait, its next one. -/
def WaS (base : Nat) (w : World) (g fi top c wt nx : Nat) (wr : World) : Prop := ∃ (N : Nat) (may : Int), OneS base w g (fi : Int) (top : Int) c 0 may 0 (nx : Int) N [(0, (N : Int) + (wt : Int))] wr
/-- Inside a wait: k ticks are gone. -/
def WiS (base : Nat) (w : World) (g fi top c wt nx k : Nat) (wr : World) : Prop := ∃ (N : Nat) (may : Int), if k < wt then OneS base w g (fi : Int) (top : Int) (c + k) 0 may 0 (nx : Int) (N + k) [(0, (N : Int) + (wt : Int))] wr else OneS base w g (fi : Int) (top : Int) (c + k) 1 may 0 (nx : Int) (N + k) [] wr
/-- The next wait. -/
theorem WaS.of_failed {base : Nat} {w : World} {g fi top c nx N : Nat} {may : Int} {w' : World} (h1 : 1 ≤ nx) (h2 : nx ≤ 1000) {z : Nat} (hz : (if (top : Int) < 2 * (nx : Int) then (top : Int) else 2 * (nx : Int)) = (z : Int)) (h : OneS base w g (fi : Int) (top : Int) c 0 may 0 (if (top : Int) < 2 * (nx : Int) then (top : Int) else 2 * (nx : Int)) N (setT N [] 0 (nx : Int)).2 w') : WaS base w g fi top c nx z w' := by
  rw [set_one N (by omega) (by omega), hz] at h
  exact ⟨N, may, h⟩
theorem pwaits_walk (e0 e1 e2 e3 : Nat) (he0 : e0 ≤ 255) (he1 : e1 ≤ 255) (he2 : e2 ≤ 255) (he3 : e3 ≤ 255) (w : World) : Calls Try.prog 4 #[.int .u8 (e0 : Int), .int .u8 (e1 : Int), .int .u8 (e2 : Int), .int .u8 (e3 : Int)] w fun e w' => e = .returned (.bool true) ∧ Below w.heap.size w w' := by
  obtain ⟨m0, hm0⟩ : ∃ m, (e0 : Int) % 8 = ((m : Nat) : Int) := ⟨e0 % 8, by omega⟩
  obtain ⟨m1, hm1⟩ : ∃ m, (e1 : Int) % 60 = ((m : Nat) : Int) := ⟨e1 % 60, by omega⟩
  obtain ⟨T, hm2⟩ : ∃ m, (e2 : Int) % 8 = ((m : Nat) : Int) := ⟨e2 % 8, by omega⟩
  obtain ⟨op, hm3⟩ : ∃ m, (e3 : Int) % 8 = ((m : Nat) : Int) := ⟨e3 % 8, by omega⟩
  have b0 : m0 < 8 := by omega
  have b1 : m1 < 60 := by omega
  have b2 : T < 8 := by omega
  have b3 : op < 8 := by omega
  obtain ⟨fi, hfi⟩ : ∃ fi, (1 : Int) + (m0 : Int) = ((fi : Nat) : Int) := ⟨1 + m0, by omega⟩
  obtain ⟨top, htop⟩ : ∃ top, (fi : Int) + (m1 : Int) = ((top : Nat) : Int) := ⟨fi + m1, by omega⟩
  have f1 : 1 ≤ fi := by omega
  have f2 : fi ≤ top := by omega
  have f3 : top ≤ 67 := by omega
  have KN := one_new w (fi : Int) (top : Int) ⟨by decide, by decide, by omega, by omega, by omega⟩
  obtain ⟨base, hbase⟩ : ∃ base, base = w.heap.size := ⟨_, rfl⟩
  have HB : Hid (base = w.heap.size) := hbase
  rw [← hbase] at KN
  clear hbase he0 he1 he2 he3 b0 b1
  go_enter Try.func4, Try.ntmps4
  go_wp2_with (go_at_call 8; refine KN.mono ?_; clear KN; rintro e w1 ⟨g, rfl, Y1⟩)
  go_loopw [15, 13, 14] (fun x15 x13 x14 wr => ∃ (i wt nx c : Nat), x15 = .int .i64 (i : Int) ∧ x13 = .int .i64 (wt : Int) ∧ x14 = .int .i64 (nx : Int) ∧ i ≤ T ∧ 1 ≤ wt ∧ wt ≤ 67 ∧ 1 ≤ nx ∧ nx ≤ top ∧ c ≤ 1000 * i ∧ Hid (WaS base w g fi top c wt nx wr)) (fun x15 _ _ _ => T - (intOf x15).toNat)
  case atStart => exact ⟨0, 1, fi, 0, rfl, rfl, rfl, by omega, by omega, by omega, f1, f2, by omega, 0, 0, Y1.out⟩
  case round =>
    clear Y1
    obtain ⟨i, wt, nx, c, rfl, rfl, rfl, hiT, w1', w2', n1, n2, hci, HS⟩ := hrel
    by_cases hlt : i < T
    · have hlt2 : (i : Int) < (T : Int) := by omega
      have HI0 : Hid (WiS base w g fi top c wt nx 0 wr) := by
        obtain ⟨N, may, h⟩ := HS.out
        exact ⟨N, may, by rw [if_pos (by omega)]; exact h⟩
      clear HS
      go_wp2_with (fail)
      simp only [hm2]
      go_loopw [16] (fun x16 wq => ∃ k : Nat, x16 = .int .i64 ((k : Int) + 1) ∧ k ≤ wt ∧ Hid (WiS base w g fi top c wt nx k wq)) (fun x16 _ => wt + 1 - (intOf x16).toNat)
      case atStart => exact ⟨0, rfl, by omega, HI0.out⟩
      case round =>
        clear HI0
        obtain ⟨k, rfl, hkw, HK⟩ := hrel
        by_cases hkl : k < wt
        · have hk2 : (k : Int) + 1 ≤ (wt : Int) := by omega
          by_cases hke : k + 1 = wt
          · have KT : Calls Try.prog 13 #[.pointer (some ⟨g, 0, none⟩)] wr fun e w' => ∃ a q, e = .returned (.slice a 1 q) ∧ Hid (WiS base w g fi top c wt nx (k + 1) w') := by
              obtain ⟨N, may, h⟩ := HK.out
              rw [if_pos hkl] at h
              refine (h.tick_due (by omega) (by omega)).mono ?_
              rintro e w' ⟨a, q, rfl, Y⟩
              exact ⟨a, q, rfl, N, may, by rw [if_neg (by omega)]; exact Y.out⟩
            have hk3 : (k : Int) + 1 = (wt : Int) := by omega
            clear hk2
            go_wp2_with (go_at_call 13; refine KT.mono ?_; clear KT; rintro e w3 ⟨a3, q3, rfl, Y3⟩)
            go_roundw
            case rel => exact ⟨k + 1, by simp; omega, by omega, Y3.out⟩
            case measure => simp [intOf]; omega
          · have KT : Calls Try.prog 13 #[.pointer (some ⟨g, 0, none⟩)] wr fun e w' => ∃ a q, e = .returned (.slice a 0 q) ∧ Hid (WiS base w g fi top c wt nx (k + 1) w') := by
              obtain ⟨N, may, h⟩ := HK.out
              rw [if_pos hkl] at h
              refine (h.tick_not (by omega) (by omega)).mono ?_
              rintro e w' ⟨a, q, rfl, Y⟩
              exact ⟨a, q, rfl, N, may, by rw [if_pos (by omega)]; exact Y.out⟩
            have hk3 : ¬ (k : Int) + 1 = (wt : Int) := by omega
            have hk5 : ((k : Int) + 1 == (wt : Int)) = false := by simpa using hk3
            go_wp2_with (go_at_call 13; refine KT.mono ?_; clear KT; rintro e w3 ⟨a3, q3, rfl, Y3⟩)
            go_roundw
            case rel => exact ⟨k + 1, by go_num, by omega, Y3.out⟩
            case measure => simp [intOf]; omega
        · have hk2 : ¬ (k : Int) + 1 ≤ (wt : Int) := by omega
          have HO : Hid (∃ (N : Nat) (may : Int), OneS base w g (fi : Int) (top : Int) (c + k) 1 may 0 (nx : Int) N [] wr) := by
            obtain ⟨N, may, h⟩ := HK.out
            rw [if_neg hkl] at h
            exact ⟨N + k, may, h⟩
          clear HK
          obtain ⟨N, may, ho⟩ := HO.out
          have H1 : Hid (OneS base w g (fi : Int) (top : Int) (c + k) 1 may 0 (nx : Int) N [] wr) := ho
          clear ho HO
          have ck : c + k ≤ 8000 := by omega
          by_cases hop : i = op
          · subst hop
            have KO := H1.out.opened (by omega)
            obtain ⟨z, hz⟩ : ∃ z : Nat, (if (top : Int) < 2 * (fi : Int) then (top : Int) else 2 * (fi : Int)) = (z : Int) := by
              by_cases hl : (top : Int) < 2 * (fi : Int)
              · exact ⟨top, by rw [if_pos hl]⟩
              · exact ⟨2 * fi, by rw [if_neg hl]; omega⟩
            have HZ : Hid ((if (top : Int) < 2 * (fi : Int) then (top : Int) else 2 * (fi : Int)) = (z : Int)) := hz
            have z1 : 1 ≤ z := by split at hz <;> omega
            have z2 : z ≤ top := by split at hz <;> omega
            have hz3 : min (top : Int) (2 * (fi : Int)) = (z : Int) := by rw [← hz]; split <;> omega
            clear hz
            go_wp2_with (first
              | (go_at_call 14; refine KO.mono ?_; clear KO H1; rintro e w3 ⟨rfl, Y3⟩; have KW := Y3.out.waits; have KF := Y3.out.failed (by omega) (by decide))
              | (go_at_call 15; refine KW.mono ?_; clear KW; rintro e w4 ⟨rfl, rfl⟩)
              | (go_at_call 16; refine KF.mono ?_; clear KF; rintro e w5 ⟨rfl, Y5⟩))
            have H5 : Hid (WaS base w g fi top (c + k + 1 + 1) fi z w5) := WaS.of_failed f1 (by omega) HZ.out Y5.out
            clear Y5
            go_roundw
            case rel => exact ⟨i + 1, fi, z, (c + k + 1 + 1), by go_num, by go_num, by go_num, by omega, by omega, by omega, by omega, by omega, by omega, H5.out⟩
            case measure => simp [intOf]; omega
          · have hop2 : ¬ (i : Int) = (op : Int) := by omega
            have KW := H1.out.waits
            have KF := H1.out.failed (by omega) (by decide)
            obtain ⟨z, hz⟩ : ∃ z : Nat, (if (top : Int) < 2 * (nx : Int) then (top : Int) else 2 * (nx : Int)) = (z : Int) := by
              by_cases hl : (top : Int) < 2 * (nx : Int)
              · exact ⟨top, by rw [if_pos hl]⟩
              · exact ⟨2 * nx, by rw [if_neg hl]; omega⟩
            have HZ : Hid ((if (top : Int) < 2 * (nx : Int) then (top : Int) else 2 * (nx : Int)) = (z : Int)) := hz
            have z1 : 1 ≤ z := by split at hz <;> omega
            have z2 : z ≤ top := by split at hz <;> omega
            have hz3 : min (top : Int) (2 * (nx : Int)) = (z : Int) := by rw [← hz]; split <;> omega
            clear hz
            go_wp2_with (first
              | (go_at_call 15; refine KW.mono ?_; clear KW; rintro e w4 ⟨rfl, rfl⟩)
              | (go_at_call 16; refine KF.mono ?_; clear KF; rintro e w5 ⟨rfl, Y5⟩))
            have H5 : Hid (WaS base w g fi top (c + k + 1) nx z w5) := WaS.of_failed n1 (by omega) HZ.out Y5.out
            clear Y5
            go_roundw
            case rel => exact ⟨i + 1, nx, z, (c + k + 1), by go_num, by go_num, by go_num, by omega, by omega, by omega, by omega, by omega, by omega, H5.out⟩
            case measure => simp [intOf]; omega
    · have hlt2 : ¬ (i : Int) < (T : Int) := by omega
      obtain ⟨N, may, ho⟩ := HS.out
      have KF := ho.failed_no (by omega)
      have KA := plawake_in
      clear ho HS
      go_wp2_with (first
        | (go_at_call 16; refine KF.mono ?_; clear KF; rintro e w5 ⟨rfl, Y5⟩)
        | (go_at_call 12; refine (KA _).mono ?_; clear KA; rintro e w9 ⟨rfl, f9⟩))
      go_ret
      exact ⟨rfl, (((Y5.out.below HB.out).trans f9)).below (fun _ _ => id)⟩
end Go.Proofs.Ytoiencoojkahmaa
