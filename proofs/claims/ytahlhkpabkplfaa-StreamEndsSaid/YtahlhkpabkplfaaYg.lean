/- slices.Contains on ints: whether a number lies there. -/
import Derived.Test.YtahlhkpabkplfaaB1
import Derived.Test.YtahlhkpabkplfaaRows
namespace Go.Proofs.Ytahlhkpabkplfaa
open Go.RowKit
set_option linter.unusedVariables false
set_option maxRecDepth 100000
set_option maxHeartbeats 4000000

theorem take_not {zs : List Int} {d : Int} {i : Nat} (h : d ∉ zs.take i) (hi : ¬ zs.getD i 0 = d) : d ∉ zs.take (i + 1) := by
  by_cases hl : i < zs.length
  · have e : zs.take (i + 1) = zs.take i ++ [zs[i]] := List.take_succ_eq_append_getElem hl
    rw [List.getD_eq_getElem?_getD, List.getElem?_eq_getElem hl] at hi
    rw [e, List.mem_append, List.mem_singleton]
    rintro (h1 | h1)
    · exact h h1
    · exact hi h1.symm
  · rw [List.take_of_length_le (by omega)]
    rwa [List.take_of_length_le (by omega)] at h
theorem yIndexI_in (g off n c : Nat) (zs : List Int) (d : Int) (w : World) (hz : zs.length = n) (hn : n ≤ 1000000) (hc : ∀ j, j < n → w.cell? ⟨g, off + j, none⟩ = some (.int .i64 (zs.getD j 0))) :
    Calls Try.prog 53 #[.slice (some ⟨g, off, none⟩) n c, .int .i64 d] w fun e w' => (∃ r : Int, e = .returned (.int .i64 r) ∧ (0 ≤ r ↔ d ∈ zs)) ∧ w = w' := by
  have HC : Hid (∀ j, j < n → w.cell? ⟨g, off + j, none⟩ = some (.int .i64 (zs.getD j 0))) := hc
  have HZ : Hid (zs.length = n) := hz
  clear hc hz
  go_enter Try.func53, Try.ntmps53
  go_wp2_with (fail)
  go_loopw [8] (fun x8 wr => ∃ i : Nat, x8 = .int .i64 (i : Int) ∧ i ≤ n ∧ w = wr ∧ Hid (d ∉ zs.take i)) (fun x8 _ => n - (intOf x8).toNat)
  case atStart => exact ⟨0, rfl, by omega, rfl, by show _ ∉ _; simp⟩
  case round =>
    obtain ⟨i, rfl, hin, rfl, HN⟩ := hrel
    by_cases hlt : i < n
    · have hlt2 : (i : Int) < (n : Int) := by omega
      have c0 := HC.out i hlt
      obtain ⟨v, hv⟩ : ∃ v, zs.getD i 0 = v := ⟨_, rfl⟩
      have HV : Hid (zs.getD i 0 = v) := hv
      rw [hv] at c0
      clear hv
      by_cases hd : d = v
      · subst hd
        go_wp2_with (fail)
        go_ret
        refine ⟨⟨i, rfl, ⟨fun _ => ?_, fun _ => by omega⟩⟩, rfl⟩
        have hl : i < zs.length := by rw [HZ.out]; exact hlt
        have e := HV.out
        rw [List.getD_eq_getElem?_getD, List.getElem?_eq_getElem hl] at e
        exact e ▸ List.getElem_mem hl
      · go_wp2_with (fail)
        go_roundw
        case rel => exact ⟨i + 1, by go_num, by omega, trivial, take_not HN.out (by rw [HV.out]; exact fun e => hd e.symm)⟩
        case measure => simp [intOf]; omega
    · go_wp2_with (fail)
      go_ret
      refine ⟨⟨-1, rfl, ⟨fun h => absurd h (by decide), fun h => ?_⟩⟩, rfl⟩
      have := HN.out
      rw [List.take_of_length_le (by rw [HZ.out]; omega)] at this
      exact absurd h this
theorem yContains_in (g off n c : Nat) (zs : List Int) (d : Int) (w : World) (hz : zs.length = n) (hn : n ≤ 1000000) (hc : ∀ j, j < n → w.cell? ⟨g, off + j, none⟩ = some (.int .i64 (zs.getD j 0))) :
    Calls Try.prog 45 #[.slice (some ⟨g, off, none⟩) n c, .int .i64 d] w fun e w' => e = .returned (.bool (zs.contains d)) ∧ w = w' := by
  have K := yIndexI_in g off n c zs d w hz hn hc
  go_enter Try.func45, Try.ntmps45
  go_wp2_with (go_at_call 53; refine K.mono ?_; clear K; rintro e w' ⟨⟨r, rfl, hr⟩, rfl⟩)
  go_ret
  have e1 : zs.contains d = decide (d ∈ zs) := by simp
  rw [e1]
  exact ⟨rfl, rfl⟩
end Go.Proofs.Ytahlhkpabkplfaa
