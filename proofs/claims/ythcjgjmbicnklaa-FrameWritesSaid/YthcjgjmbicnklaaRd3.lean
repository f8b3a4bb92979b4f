/- Whether a frame may be written, by the document: its head, and settings. -/
import Derived.Test.YthcjgjmbicnklaaRa
import Derived.Test.YthcjgjmbicnklaaFg
namespace Go.Proofs.Ythcjgjmbicnklaa
open Go.RowKit
set_option linter.unusedVariables false
set_option maxRecDepth 100000
set_option maxHeartbeats 4000000

theorem may_h (k fl st pad : Int) (X : List UInt8) (code : Nat) (last inc dep : Int) (only : Bool) (wt : Int) (Y : List (Int × Nat)) (p q : Option Addr) (cp cq : Nat) (w : World) (h : fl < 0 ∨ 255 < fl ∨ idOk st = false ∨ rightB k st = false) :
    Calls Try.prog 22 #[.agg #[.int .i64 k, .int .i64 fl, .int .i64 st, .slice p X.length cp, .int .i64 pad, .int .u32 code, .int .i64 last, .int .i64 inc, .int .i64 dep, .bool only, .int .i64 wt, .slice q Y.length cq]] w fun e w' => e = .returned (.bool false) ∧ Fr (fun _ => False) w w' := by
  have hg : Fr (fun _ => False) w (w.alloc (.cells #[.int .i64 k, .int .i64 fl, .int .i64 st, .slice p X.length cp, .int .i64 pad, .int .u32 code, .int .i64 last, .int .i64 inc, .int .i64 dep, .bool only, .int .i64 wt, .slice q Y.length cq] 26)) := (Fr.refl _ _).alloc _
  have K2 := fun w => right_in k st w
  by_cases ha : fl < 0
  · clear h
    go_enter Try.func22, Try.ntmps22
    go_wp2
    go_ret
    exact ⟨rfl, hg⟩
  · by_cases hb : 255 < fl
    · clear h
      go_enter Try.func22, Try.ntmps22
      go_wp2
      go_ret
      exact ⟨rfl, hg⟩
    · cases hs : idOk st
      · clear h
        go_enter Try.func22, Try.ntmps22
        go_wp2_with (go_at_call 40; refine (rid_in _ _).mono ?_; rintro e w' ⟨rfl, rfl⟩; rw [hs])
        go_ret
        exact ⟨rfl, hg⟩
      · have hr : rightB k st = false := by
          rcases h with h | h | h | h
          · omega
          · omega
          · rw [hs] at h; cases h
          · exact h
        rw [hr] at K2
        clear h hr
        go_enter Try.func22, Try.ntmps22
        go_wp2_with first
          | (go_at_call 30; refine (K2 _).mono ?_; rintro e w' ⟨rfl, rfl⟩)
          | (go_at_call 40; refine (rid_in _ _).mono ?_; rintro e w' ⟨rfl, rfl⟩; rw [hs])
        go_ret
        exact ⟨rfl, hg⟩

theorem may_4z (fl st pad : Int) (X : List UInt8) (code : Nat) (last inc dep : Int) (only : Bool) (wt : Int) (p q : Option Addr) (cp cq : Nat) (w : World) (h0 : 0 ≤ fl) (h1 : fl ≤ 255) (hs : idOk st = true) (hr : rightB 4 st = true) :
    Calls Try.prog 22 #[.agg #[.int .i64 4, .int .i64 fl, .int .i64 st, .slice p X.length cp, .int .i64 pad, .int .u32 code, .int .i64 last, .int .i64 inc, .int .i64 dep, .bool only, .int .i64 wt, .slice q 0 cq]] w fun e w' => e = .returned (.bool true) ∧ Fr (fun _ => False) w w' := by
  have hg : Fr (fun _ => False) w (w.alloc (.cells #[.int .i64 4, .int .i64 fl, .int .i64 st, .slice p X.length cp, .int .i64 pad, .int .u32 code, .int .i64 last, .int .i64 inc, .int .i64 dep, .bool only, .int .i64 wt, .slice q 0 cq] 26)) := (Fr.refl _ _).alloc _
  have K2 := fun w => right_in 4 st w
  have K3 := fun w => rpadded_in 4 w
  have K5 := fun w => prio_in 4 fl w h0 h1
  rw [hr] at K2
  clear hr
  rw [show canP 4 = false by decide] at K3
  rw [show prioB 4 fl = false by simp [prioB]] at K5
  go_enter Try.func22, Try.ntmps22
  go_wp2_with first
    | (go_at_call 30; refine (K2 _).mono ?_; rintro e w' ⟨rfl, rfl⟩)
    | (go_at_call 41; refine (K3 _).mono ?_; rintro e w' ⟨rfl, rfl⟩)
    | (go_at_call 43; refine (K5 _).mono ?_; rintro e w' ⟨rfl, rfl⟩)
    | (go_at_call 40; refine (rid_in _ _).mono ?_; rintro e w' ⟨rfl, rfl⟩; try rw [hs])
  refine wp_loop_rounds 1 ?_
  rw [rounds_succ]
  go_wp2
  go_ret
  exact ⟨rfl, hg⟩

theorem may_4 (fl st pad : Int) (X : List UInt8) (code : Nat) (last inc dep : Int) (only : Bool) (wt : Int) (Y : List (Int × Nat)) (p q : Option Addr) (cp cq n : Nat) (w : World) (h0 : 0 ≤ fl) (h1 : fl ≤ 255) (hs : idOk st = true) (hr : rightB 4 st = true) (hY : SetsAt w q cq Y) (hn : Y.length = n) (hz : 0 < n) :
    Calls Try.prog 22 #[.agg #[.int .i64 4, .int .i64 fl, .int .i64 st, .slice p X.length cp, .int .i64 pad, .int .u32 code, .int .i64 last, .int .i64 inc, .int .i64 dep, .bool only, .int .i64 wt, .slice q n cq]] w fun e w' => e = .returned (.bool (Y.all setOk && !has fl 1)) ∧ Fr (fun _ => False) w w' := by
  obtain ⟨W, hW⟩ : ∃ W, W = w.alloc (.cells #[.int .i64 4, .int .i64 fl, .int .i64 st, .slice p X.length cp, .int .i64 pad, .int .u32 code, .int .i64 last, .int .i64 inc, .int .i64 dep, .bool only, .int .i64 wt, .slice q n cq] 26) := ⟨_, rfl⟩
  have HG : Hid (Fr (fun _ => False) w W) := by rw [hW]; exact (Fr.refl _ _).alloc _
  have c11 : W.cell? ⟨w.heap.size, 11, none⟩ = some (.slice q n cq) := by rw [hW]; exact cell_of_heap (heap_alloc_new w _) rfl
  have c1 : W.cell? ⟨w.heap.size, 1, none⟩ = some (.int .i64 fl) := by rw [hW]; exact cell_of_heap (heap_alloc_new w _) rfl
  have HS : Hid (SetsAt W q cq Y) := hY.later HG.out
  have hfew := hY.few
  rw [hn] at hfew
  have HN : Hid (Y.length = n) := hn
  have K2 := fun w => right_in 4 st w
  have K3 := fun w => rpadded_in 4 w
  have K4 : ∀ w, Calls Try.prog 42 #[.int .i64 fl, .int .i64 1] w fun e w' => e = .returned (.bool (has fl 1)) ∧ w = w' := fun w => has_in fl 1 w (by omega) h0 h1
  have K5 := fun w => prio_in 4 fl w h0 h1
  rw [hr] at K2
  clear hr hY hn
  rw [show canP 4 = false by decide] at K3
  rw [show prioB 4 fl = false by simp [prioB]] at K5
  have HA : Hid (∀ i s, Y[i]? = some s → setOk s = false → Y.all setOk = false) := fun i s hi hk => by
    rw [List.all_eq_false]
    exact ⟨s, List.mem_of_getElem? hi, by simp [hk]⟩
  have HB : Hid ((∀ k, k < n → ∀ s, Y[k]? = some s → setOk s = true) → Y.all setOk = true) := fun hk => by
    rw [List.all_eq_true]
    intro s hs
    obtain ⟨i, hi⟩ := List.mem_iff_getElem?.1 hs
    exact hk i (by rw [← HN.out]; exact (List.getElem?_eq_some_iff.1 hi).1) s hi
  obtain ⟨out, hout⟩ : ∃ out, (Y.all setOk && !has fl 1) = out := ⟨_, rfl⟩
  rw [hout]
  have HO : Hid ((Y.all setOk && !has fl 1) = out) := hout
  clear hout
  go_enter Try.func22, Try.ntmps22
  go_wp2_with first
    | (go_at_call 30; refine (K2 _).mono ?_; rintro e w' ⟨rfl, rfl⟩)
    | (go_at_call 41; refine (K3 _).mono ?_; rintro e w' ⟨rfl, rfl⟩)
    | (go_at_call 43; refine (K5 _).mono ?_; rintro e w' ⟨rfl, rfl⟩)
    | (go_at_call 40; refine (rid_in _ _).mono ?_; rintro e w' ⟨rfl, rfl⟩; try rw [hs])
  rw [← hW]
  clear hW K2 K3 K5 hs
  go_loopw [3] (fun x3 wr => ∃ (i : Nat), x3 = .int .i64 (i : Int) ∧ i ≤ n ∧ Hid (wr = W) ∧ Hid (∀ k, k < i → ∀ s, Y[k]? = some s → setOk s = true)) (fun x3 _ => n - (intOf x3).toNat)
  case atStart => exact ⟨0, rfl, by omega, rfl, fun k hk => by omega⟩
  case round =>
    obtain ⟨i, rfl, hi, HWR, HK⟩ := hrel
    obtain rfl := HWR.out
    by_cases hin : i < n
    · obtain ⟨s, hsi⟩ : ∃ s, Y[i]? = some s := ⟨Y[i]'(by rw [HN.out]; exact hin), List.getElem?_eq_getElem _⟩
      obtain ⟨bb, o, rfl, hbb, d0, d1, wf0, wf1⟩ := HS.out.cells i s hsi
      have HX : Hid (Y[i]? = some s) := hsi
      have hin2 : (i : Int) < (n : Int) := by omega
      obtain ⟨v, hv⟩ : ∃ v, s.1 = v := ⟨_, rfl⟩
      rw [hv] at d0
      have HV : Hid (s.1 = v) := hv
      clear hsi hbb wf0 wf1 d1 hv
      by_cases hlow : v < 0
      · have HR : Hid (Y.all setOk = false) := HA.out i s HX.out (by have := HV.out; simp [setOk]; omega)
        go_wp2
        go_ret
        refine ⟨?_, HG.out⟩
        rw [← HO.out, HR.out]
        rfl
      · by_cases hhigh : 65536 ≤ v
        · have HR : Hid (Y.all setOk = false) := HA.out i s HX.out (by have := HV.out; simp [setOk]; omega)
          go_wp2
          go_ret
          refine ⟨?_, HG.out⟩
          rw [← HO.out, HR.out]
          rfl
        · have HOK : Hid (setOk s = true) := by have := HV.out; simp [Hid, setOk]; omega
          go_wp2
          go_roundw
          case rel =>
            refine ⟨i + 1, by go_num, by omega, (by first | rfl | exact trivial), fun k hk t ht => ?_⟩
            by_cases hki : k = i
            · subst hki
              rw [HX.out] at ht
              cases ht
              exact HOK.out
            · exact HK.out k (by omega) t ht
          case measure => simp [intOf]; omega
    · obtain rfl : i = n := by omega
      have hnz : ((i : Int) == 0) = false := by simp; omega
      go_wp2_with (go_at_call 42; refine (K4 _).mono ?_; rintro e w' ⟨rfl, rfl⟩)
      go_ret
      refine ⟨?_, HG.out⟩
      rw [← HO.out, HB.out HK.out]
      rfl
end Go.Proofs.Ythcjgjmbicnklaa
