/- Setups: which may be; what is offered. -/
import Derived.Test.YtpjbgjgaigkbcaaGreatKa
namespace Go.Proofs.YtpjbgjgaigkbcaaGreat
open Go.RowKit Go.Maps
set_option linter.unusedVariables false
set_option maxRecDepth 100000
set_option maxHeartbeats 4000000

/-- A setup. -/
structure Stp where
  server : Bool
  streams : Int
  window : Int
  frame : Int
  list : Int
  table : Int
  queue : Int
/-- A number that stands between two bounds. -/
def btw (a n b : Int) : Bool := decide (a ≤ n) && decide (n ≤ b)
/-- Which setups may be. -/
def stpB (s : Stp) : Bool := btw 0 s.streams 1024 && btw 0 s.window 2147483647 && btw 16384 s.frame 16777215 && btw 0 s.list 2147483647 && btw 0 s.table 65536 && btw 0 s.queue 1048576
theorem btw_yes {a n b : Int} (h : btw a n b = true) : a ≤ n ∧ n ≤ b := by simpa [btw] using h
theorem btw_not {a n b : Int} (h : btw a n b = false) : n < a ∨ b < n := by
  by_cases h1 : a ≤ n
  · by_cases h2 : n ≤ b
    · simp [btw, h1, h2] at h
    · exact .inr (by omega)
  · exact .inl (by omega)
theorem within_yes (a n b : Int) (w : World) (h : btw a n b = true) : Calls Tryz.prog 30 #[.int .i64 a, .int .i64 n, .int .i64 b] w fun e w' => e = .returned (.bool true) ∧ w = w' := by
  obtain ⟨h0, h1⟩ := btw_yes h
  clear h
  go_enter Tryz.func30, Tryz.ntmps30
  go_wp2_with (fail)
  go_ret
  exact ⟨rfl, rfl⟩
theorem within_no (a n b : Int) (w : World) (h : btw a n b = false) : Calls Tryz.prog 30 #[.int .i64 a, .int .i64 n, .int .i64 b] w fun e w' => e = .returned (.bool false) ∧ w = w' := by
  by_cases h0 : a ≤ n
  · have h1 : ¬ n ≤ b := by rcases btw_not h with h | h <;> omega
    clear h
    go_enter Tryz.func30, Tryz.ntmps30
    go_wp2_with (fail)
    go_ret
    exact ⟨rfl, rfl⟩
  · clear h
    go_enter Tryz.func30, Tryz.ntmps30
    go_wp2_with (fail)
    go_ret
    exact ⟨rfl, rfl⟩
theorem fits_in (s : Stp) (w : World) : Calls Tryz.prog 10 #[.agg #[.bool s.server, .int .i64 s.streams, .int .i64 s.window, .int .i64 s.frame, .int .i64 s.list, .int .i64 s.table, .int .i64 s.queue]] w fun e w' => e = .returned (.bool (stpB s)) ∧ Fr (fun _ => False) w w' := by
  obtain ⟨r, hr⟩ : ∃ r, stpB s = r := ⟨_, rfl⟩
  rw [hr]
  obtain ⟨W, hW⟩ : ∃ W, W = w.alloc (.cells #[.bool s.server, .int .i64 s.streams, .int .i64 s.window, .int .i64 s.frame, .int .i64 s.list, .int .i64 s.table, .int .i64 s.queue] 23) := ⟨_, rfl⟩
  have hf : Fr (fun _ => False) w W := by rw [hW]; exact (Fr.refl _ _).alloc _
  have hh : W.heap[w.heap.size]? = some (.cells #[.bool s.server, .int .i64 s.streams, .int .i64 s.window, .int .i64 s.frame, .int .i64 s.list, .int .i64 s.table, .int .i64 s.queue] 23 (0, 0)) := by rw [hW]; exact heap_alloc_new w _
  have c1 : W.cell? ⟨w.heap.size, 1, none⟩ = some (.int .i64 s.streams) := cell_of_heap hh rfl
  have c2 : W.cell? ⟨w.heap.size, 2, none⟩ = some (.int .i64 s.window) := cell_of_heap hh rfl
  have c3 : W.cell? ⟨w.heap.size, 3, none⟩ = some (.int .i64 s.frame) := cell_of_heap hh rfl
  have c4 : W.cell? ⟨w.heap.size, 4, none⟩ = some (.int .i64 s.list) := cell_of_heap hh rfl
  have c5 : W.cell? ⟨w.heap.size, 5, none⟩ = some (.int .i64 s.table) := cell_of_heap hh rfl
  have c6 : W.cell? ⟨w.heap.size, 6, none⟩ = some (.int .i64 s.queue) := cell_of_heap hh rfl
  clear hh
  unfold stpB at hr
  cases h0 : btw 0 s.streams 1024
  · have K0 := within_no 0 s.streams 1024 W h0
    obtain rfl : r = false := by rw [← hr]; simp [h0]
    clear hr h0
    go_enter Tryz.func10, Tryz.ntmps10
    go_upto_region 1 with (fail)
    rw [← hW]
    clear hW
    go_wp2_with (fail)
    refine K0.mono ?_
    clear K0
    rintro e w' ⟨rfl, rfl⟩
    go_wp2_with (fail)
    go_ret
    exact ⟨rfl, hf⟩
  · cases h1 : btw 0 s.window 2147483647
    · have K0 := within_yes 0 s.streams 1024 W h0
      have K1 := within_no 0 s.window 2147483647 W h1
      obtain rfl : r = false := by rw [← hr]; simp [h0, h1]
      clear hr h0 h1
      go_enter Tryz.func10, Tryz.ntmps10
      go_upto_region 1 with (fail)
      rw [← hW]
      clear hW
      go_wp2_with (fail)
      refine K0.mono ?_
      clear K0
      rintro e w' ⟨rfl, rfl⟩
      go_wp2_with (fail)
      refine K1.mono ?_
      clear K1
      rintro e w' ⟨rfl, rfl⟩
      go_wp2_with (fail)
      go_ret
      exact ⟨rfl, hf⟩
    · cases h2 : btw 16384 s.frame 16777215
      · have K0 := within_yes 0 s.streams 1024 W h0
        have K1 := within_yes 0 s.window 2147483647 W h1
        have K2 := within_no 16384 s.frame 16777215 W h2
        obtain rfl : r = false := by rw [← hr]; simp [h0, h1, h2]
        clear hr h0 h1 h2
        go_enter Tryz.func10, Tryz.ntmps10
        go_upto_region 1 with (fail)
        rw [← hW]
        clear hW
        go_wp2_with (fail)
        refine K0.mono ?_
        clear K0
        rintro e w' ⟨rfl, rfl⟩
        go_wp2_with (fail)
        refine K1.mono ?_
        clear K1
        rintro e w' ⟨rfl, rfl⟩
        go_wp2_with (fail)
        refine K2.mono ?_
        clear K2
        rintro e w' ⟨rfl, rfl⟩
        go_wp2_with (fail)
        go_ret
        exact ⟨rfl, hf⟩
      · cases h3 : btw 0 s.list 2147483647
        · have K0 := within_yes 0 s.streams 1024 W h0
          have K1 := within_yes 0 s.window 2147483647 W h1
          have K2 := within_yes 16384 s.frame 16777215 W h2
          have K3 := within_no 0 s.list 2147483647 W h3
          obtain rfl : r = false := by rw [← hr]; simp [h0, h1, h2, h3]
          clear hr h0 h1 h2 h3
          go_enter Tryz.func10, Tryz.ntmps10
          go_upto_region 1 with (fail)
          rw [← hW]
          clear hW
          go_wp2_with (fail)
          refine K0.mono ?_
          clear K0
          rintro e w' ⟨rfl, rfl⟩
          go_wp2_with (fail)
          refine K1.mono ?_
          clear K1
          rintro e w' ⟨rfl, rfl⟩
          go_wp2_with (fail)
          refine K2.mono ?_
          clear K2
          rintro e w' ⟨rfl, rfl⟩
          go_wp2_with (fail)
          refine K3.mono ?_
          clear K3
          rintro e w' ⟨rfl, rfl⟩
          go_wp2_with (fail)
          go_ret
          exact ⟨rfl, hf⟩
        · cases h4 : btw 0 s.table 65536
          · have K0 := within_yes 0 s.streams 1024 W h0
            have K1 := within_yes 0 s.window 2147483647 W h1
            have K2 := within_yes 16384 s.frame 16777215 W h2
            have K3 := within_yes 0 s.list 2147483647 W h3
            have K4 := within_no 0 s.table 65536 W h4
            obtain rfl : r = false := by rw [← hr]; simp [h0, h1, h2, h3, h4]
            clear hr h0 h1 h2 h3 h4
            go_enter Tryz.func10, Tryz.ntmps10
            go_upto_region 1 with (fail)
            rw [← hW]
            clear hW
            go_wp2_with (fail)
            refine K0.mono ?_
            clear K0
            rintro e w' ⟨rfl, rfl⟩
            go_wp2_with (fail)
            refine K1.mono ?_
            clear K1
            rintro e w' ⟨rfl, rfl⟩
            go_wp2_with (fail)
            refine K2.mono ?_
            clear K2
            rintro e w' ⟨rfl, rfl⟩
            go_wp2_with (fail)
            refine K3.mono ?_
            clear K3
            rintro e w' ⟨rfl, rfl⟩
            go_wp2_with (fail)
            refine K4.mono ?_
            clear K4
            rintro e w' ⟨rfl, rfl⟩
            go_wp2_with (fail)
            go_ret
            exact ⟨rfl, hf⟩
          · cases h5 : btw 0 s.queue 1048576
            · have K0 := within_yes 0 s.streams 1024 W h0
              have K1 := within_yes 0 s.window 2147483647 W h1
              have K2 := within_yes 16384 s.frame 16777215 W h2
              have K3 := within_yes 0 s.list 2147483647 W h3
              have K4 := within_yes 0 s.table 65536 W h4
              have K5 := within_no 0 s.queue 1048576 W h5
              obtain rfl : r = false := by rw [← hr]; simp [h0, h1, h2, h3, h4, h5]
              clear hr h0 h1 h2 h3 h4 h5
              go_enter Tryz.func10, Tryz.ntmps10
              go_upto_region 1 with (fail)
              rw [← hW]
              clear hW
              go_wp2_with (fail)
              refine K0.mono ?_
              clear K0
              rintro e w' ⟨rfl, rfl⟩
              go_wp2_with (fail)
              refine K1.mono ?_
              clear K1
              rintro e w' ⟨rfl, rfl⟩
              go_wp2_with (fail)
              refine K2.mono ?_
              clear K2
              rintro e w' ⟨rfl, rfl⟩
              go_wp2_with (fail)
              refine K3.mono ?_
              clear K3
              rintro e w' ⟨rfl, rfl⟩
              go_wp2_with (fail)
              refine K4.mono ?_
              clear K4
              rintro e w' ⟨rfl, rfl⟩
              go_wp2_with (fail)
              refine K5.mono ?_
              clear K5
              rintro e w' ⟨rfl, rfl⟩
              go_wp2_with (fail)
              go_ret
              exact ⟨rfl, hf⟩
            · have K0 := within_yes 0 s.streams 1024 W h0
              have K1 := within_yes 0 s.window 2147483647 W h1
              have K2 := within_yes 16384 s.frame 16777215 W h2
              have K3 := within_yes 0 s.list 2147483647 W h3
              have K4 := within_yes 0 s.table 65536 W h4
              have K5 := within_yes 0 s.queue 1048576 W h5
              obtain rfl : r = true := by rw [← hr]; simp [h0, h1, h2, h3, h4, h5]
              clear hr h0 h1 h2 h3 h4 h5
              go_enter Tryz.func10, Tryz.ntmps10
              go_upto_region 1 with (fail)
              rw [← hW]
              clear hW
              go_wp2_with (fail)
              refine K0.mono ?_
              clear K0
              rintro e w' ⟨rfl, rfl⟩
              go_wp2_with (fail)
              refine K1.mono ?_
              clear K1
              rintro e w' ⟨rfl, rfl⟩
              go_wp2_with (fail)
              refine K2.mono ?_
              clear K2
              rintro e w' ⟨rfl, rfl⟩
              go_wp2_with (fail)
              refine K3.mono ?_
              clear K3
              rintro e w' ⟨rfl, rfl⟩
              go_wp2_with (fail)
              refine K4.mono ?_
              clear K4
              rintro e w' ⟨rfl, rfl⟩
              go_wp2_with (fail)
              refine K5.mono ?_
              clear K5
              rintro e w' ⟨rfl, rfl⟩
              go_wp2_with (fail)
              go_ret
              exact ⟨rfl, hf⟩
/-- The setup that the law calls plain. -/
def plainS (sv : Bool) : Stp := ⟨sv, 5, 1000, 16384, 4000, 4096, 300⟩
theorem plain_may (sv : Bool) : stpB (plainS sv) = true := by cases sv <;> decide
theorem Plain15_in (sv : Bool) (w : World) : Calls Tryz.prog 22 #[.bool sv] w fun e w' => e = .returned (.agg #[.bool sv, .int .i64 5, .int .i64 1000, .int .i64 16384, .int .i64 4000, .int .i64 4096, .int .i64 300]) ∧ Fr (fun _ => False) w w' := by
  go_enter Tryz.func22, Tryz.ntmps22
  go_wp2_with (fail)
  exact bodyPost_ret (v := .agg #[.bool sv, .int .i64 5, .int .i64 1000, .int .i64 16384, .int .i64 4000, .int .i64 4096, .int .i64 300]) (by simp [results, Tryz.results22, go_sem]) rfl ⟨rfl, (Fr.refl _ _).alloc _⟩
end Go.Proofs.YtpjbgjgaigkbcaaGreat
