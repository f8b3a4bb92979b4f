/- Contract of the document's Static. -/
import Derived.Test.YtkipeifkfgbkeaaT7a
import Derived.Deep.MidRow
namespace Go.Proofs.Ytkipeifkfgbkeaa
open Go.RowKit
set_option maxRecDepth 100000
set_option maxHeartbeats 4000000
set_option linter.unusedVariables false

theorem line_facts : ∀ k < 61, (lineAt k).size = (sName k).size + 1 + (sValue k).size ∧ (lineAt k).size < 100 ∧ (∀ j < (sName k).size, (lineAt k).data[j]? ≠ some 61) ∧ (lineAt k).data[(sName k).size]? = some 61 ∧
    (lineAt k).extract 0 (sName k).size = sName k ∧ (lineAt k).extract ((sName k).size + 1) (lineAt k).size = sValue k := by decide +kernel
theorem index_string (s : ByteArray) (j : Nat) (c : UInt8) (h : s.data[j]? = some c) : ∀ w : World, (Instr.index 9 (.string s) (.int .i64 (j : Int))).run Try.prog w = .ok (.int .u8 (c.toNat : Int)) w := by
  intro w
  obtain ⟨hlt, he⟩ := Array.getElem?_eq_some_iff.1 h
  have hlt' : j < s.size := hlt
  have hu : Try.prog.underlying 9 = some .string := Try.underlying9
  simp [Instr.index, Sem.run_bind, asIntOf, Result.andThen, go_sem, hlt']
  exact congrArg (fun c : UInt8 => (c.toNat : Int)) he
theorem line_cell (w : World) (k : Nat) (hk : k < 61) (o : Obj) : ((w.alloc o).alloc (.cells ((lineL.map fun l => Value.string ⟨l.toArray⟩).toArray) 9)).cell? ⟨w.heap.size + 1, k, none⟩ = some (.string (lineAt k)) := by
  have h := heap_alloc_new (w.alloc o) (.cells ((lineL.map fun l => Value.string ⟨l.toArray⟩).toArray) 9)
  rw [World.size_alloc] at h
  refine cell_of_heap h ?_
  have hk' : k < lineL.length := hk
  simp [lineAt, hk', List.getD_eq_getElem?_getD]

theorem rStatic_in (i : Int) (w : World) :
    Calls Try.prog 50 #[.int .i64 i] w fun e w' => e = .returned (.tuple #[.agg #[.string (stN i), .string (stV i), .bool false], .int .i64 (stE i)]) ∧ Below w.heap.size w w' := by
  by_cases hi : 1 ≤ i ∧ i ≤ 61
  · have hst : statIn i = true := decide_eq_true hi
    obtain ⟨k, rfl⟩ : ∃ k : Nat, i = (k : Int) + 1 := ⟨(i - 1).toNat, by omega⟩
    have hk : k < 61 := by omega
    have e1 : stN ((k : Int) + 1) = sName k := by simp [stN, hst]
    have e2 : stV ((k : Int) + 1) = sValue k := by simp [stV, hst]
    have e3 : stE ((k : Int) + 1) = 0 := by simp [stE, hst]
    rw [e1, e2, e3]
    clear e1 e2 e3 hst
    obtain ⟨f1, f2, f3, f4, f5, f6⟩ := line_facts k hk
    have hcell := line_cell w k hk (.cells #[.string ⟨#[]⟩, .string ⟨#[]⟩, .bool false] 59)
    have K := rstatics_in (w.alloc (.cells #[.string ⟨#[]⟩, .string ⟨#[]⟩, .bool false] 59))
    generalize (lineL.map fun l => Value.string ⟨l.toArray⟩).toArray = cs at hcell K
    have g1 : ((w.alloc (.cells #[.string ⟨#[]⟩, .string ⟨#[]⟩, .bool false] 59)).alloc (.cells cs 9)).heap[w.heap.size]? = some (.cells #[.string ⟨#[]⟩, .string ⟨#[]⟩, .bool false] 59) := heap_of_alloc (heap_alloc_new _ _) _
    have hB : Below w.heap.size w ((w.alloc (.cells #[.string ⟨#[]⟩, .string ⟨#[]⟩, .bool false] 59)).alloc (.cells cs 9)) := ((Below.refl _ w).alloc (Nat.le_refl _) _).alloc (by simp) _
    obtain ⟨n, hn⟩ : ∃ n, (sName k).size = n := ⟨_, rfl⟩
    obtain ⟨S, hS⟩ : ∃ S, lineAt k = S := ⟨_, rfl⟩
    rw [hn, hS] at f1 f3 f4 f5 f6
    rw [hS] at f2 hcell
    have q10 := cell_of_heap g1 (i := 0) rfl
    have q11 := cell_of_heap g1 (i := 1) rfl
    have q12 := cell_of_heap g1 (i := 2) rfl
    have z10 : (((w.alloc (.cells #[.string ⟨#[]⟩, .string ⟨#[]⟩, .bool false] 59)).alloc (.cells cs 9))).frozen? ⟨w.heap.size, 0, none⟩ = false := frozen_of_heap g1
    have z11 : (((w.alloc (.cells #[.string ⟨#[]⟩, .string ⟨#[]⟩, .bool false] 59)).alloc (.cells cs 9))).frozen? ⟨w.heap.size, 1, none⟩ = false := frozen_of_heap g1
    have z12 : (((w.alloc (.cells #[.string ⟨#[]⟩, .string ⟨#[]⟩, .bool false] 59)).alloc (.cells cs 9))).frozen? ⟨w.heap.size, 2, none⟩ = false := frozen_of_heap g1
    have hd1 : decide ((k : Int) + 1 < 1) = false := decide_eq_false (by omega)
    rw [World.size_alloc] at K
    generalize hW1 : ((w.alloc (.cells #[.string ⟨#[]⟩, .string ⟨#[]⟩, .bool false] 59)).alloc (.cells cs 9)) = W1 at hcell g1 hB q10 q11 q12 z10 z11 z12 K
    go_enter Try.func50, Try.ntmps50
    go_wp2_with (go_at_call 55; refine K.mono ?_; clear K; rintro e w' ⟨rfl, rfl⟩)
    go_loop [6] (fun x6 => ∃ j : Nat, x6 = .int .i64 (j : Int) ∧ j ≤ n) (fun x6 => n - (intOf x6).toNat)
    case atStart => exact ⟨0, rfl, by omega⟩
    case round =>
      obtain ⟨j, rfl, hj⟩ := hrel
      by_cases hjn : j < n
      · obtain ⟨c, hc⟩ : ∃ c, S.data[j]? = some c := ⟨S.data[j]'(by have : S.data.size = S.size := rfl; omega), Array.getElem?_eq_getElem _⟩
        have hix := index_string S j c hc
        have hne : ((c.toNat : Int) != 61) = true := by
          have h3 := f3 j hjn
          rw [hc] at h3
          have : c.toNat ≠ 61 := fun e => h3 (by congr 1; exact UInt8.toNat_inj.1 (by simpa using e))
          simp; omega
        go_wp2_with (fail)
        go_round
        case rel => exact ⟨j + 1, rfl, by omega⟩
        case measure => simp [intOf]; omega
      · obtain rfl : j = n := by omega
        have hix := index_string S j 61 f4
        have hs1 : (j : Int) ≤ S.size := by omega
        have hs2 : (j : Int) + 1 ≤ S.size := by omega
        clear f1
        go_wp2_with (fail)
        go_region
        all_goals go_wp2_with (fail)
        have g3 : (((w'.setCell ⟨w.heap.size, 0, none⟩ (.string (sName k))).setCell ⟨w.heap.size, 1, none⟩ (.string (sValue k))).setCell ⟨w.heap.size, 2, none⟩ (.bool false)).heap[w.heap.size]? = some (.cells #[.string (sName k), .string (sValue k), .bool false] 59) := heap_set _ (heap_set _ (heap_set _ g1))
        have r0 := cell_of_heap g3 (i := 0) rfl
        have r1 := cell_of_heap g3 (i := 1) rfl
        have r2 := cell_of_heap g3 (i := 2) rfl
        refine bodyPost_ret (v := .tuple #[.agg #[.string (sName k), .string (sValue k), .bool false], .int .i64 0]) (by simp [results, Try.results50, go_sem, r0, r1, r2]) rfl ⟨rfl, ?_⟩
        exact (((hB.setCell (p := ⟨w.heap.size, 0, none⟩) (by simp) _).setCell (p := ⟨w.heap.size, 1, none⟩) (by simp) _).setCell (p := ⟨w.heap.size, 2, none⟩) (by simp) _).drew
  · have hst : statIn i = false := decide_eq_false hi
    have e1 : stN i = ⟨#[]⟩ := by simp [stN, hst]
    have e2 : stV i = ⟨#[]⟩ := by simp [stV, hst]
    have e3 : stE i = 50 := by simp [stE, hst]
    rw [e1, e2, e3]
    have K := rstatics_in (w.alloc (.cells #[.string ⟨#[]⟩, .string ⟨#[]⟩, .bool false] 59))
    generalize (lineL.map fun l => Value.string ⟨l.toArray⟩).toArray = cs at K
    rw [World.size_alloc] at K
    have hB : Below w.heap.size w ((w.alloc (.cells #[.string ⟨#[]⟩, .string ⟨#[]⟩, .bool false] 59)).alloc (.cells cs 9)) := ((Below.refl _ w).alloc (Nat.le_refl _) _).alloc (by simp) _
    by_cases h1 : i < 1
    · have hd1 : decide (i < 1) = true := decide_eq_true h1
      go_enter Try.func50, Try.ntmps50
      go_wp2_with (go_at_call 55; refine K.mono ?_; clear K; rintro e w' ⟨rfl, rfl⟩)
      refine bodyPost_ret (v := .tuple #[.agg #[.string ⟨#[]⟩, .string ⟨#[]⟩, .bool false], .int .i64 50]) (by simp [results, Try.results50, go_sem]) rfl ⟨rfl, hB⟩
    · have hd1 : decide (i < 1) = false := decide_eq_false h1
      have hd2 : (61 : Int) < i := by omega
      go_enter Try.func50, Try.ntmps50
      go_wp2_with (go_at_call 55; refine K.mono ?_; clear K; rintro e w' ⟨rfl, rfl⟩)
      refine bodyPost_ret (v := .tuple #[.agg #[.string ⟨#[]⟩, .string ⟨#[]⟩, .bool false], .int .i64 50]) (by simp [results, Try.results50, go_sem]) rfl ⟨rfl, hB⟩
end Go.Proofs.Ytkipeifkfgbkeaa
