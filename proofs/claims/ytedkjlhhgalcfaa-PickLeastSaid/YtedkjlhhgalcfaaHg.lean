/- Fit: the document's. -/
import Derived.Test.YtedkjlhhgalcfaaHc
namespace Go.Proofs.Ytedkjlhhgalcfaa
open Go.RowKit
set_option linter.unusedVariables false
set_option maxRecDepth 100000
set_option maxHeartbeats 4000000

theorem rpkFit_in (q : Option Addr) (c n : Nat) (L : List Bk) (w : World) (h : BacksAt w q c L) (hl : L.length = n) : Calls Try.prog 10 #[.slice q n c] w (GotI w (fitL L)) := by
  have HB : Hid (BacksAt w q c L) := h
  have HL : Hid (L.length = n) := hl
  have hnb : (n : Int) ≤ 6000000000000 := by have := h.few; rw [hl] at this; have h2 : reachBytes < 2 ^ 47 := reach_lt; omega
  have hnc : n ≤ c := by have := h.cap; rw [hl] at this; exact this
  unfold fitL
  rw [hl]
  clear h hl
  go_enter Try.func10, Try.ntmps10
  go_wp2_with (fail)
  go_loopw [3, 4] (fun x3 x4 wr => ∃ (i dm dc : Nat) (da : Option Addr), x3 = .slice da dm dc ∧ x4 = .int .i64 (i : Int) ∧ i ≤ n ∧ Hid (GotS w wr da dm dc (nums fitB L i))) (fun _ x4 _ => n - (intOf x4).toNat)
  case atStart => exact ⟨0, 0, 0, none, rfl, rfl, by omega, GotS.nil w⟩
  case round =>
    obtain ⟨i, dm, dc, da, rfl, rfl, hin, HS⟩ := hrel
    by_cases hlt : i < n
    · have hlt2 : (i : Int) < (n : Int) := by omega
      obtain ⟨x, hd⟩ : ∃ d, L[i]? = some d := ⟨L[i]'(by rw [HL.out]; exact hlt), List.getElem?_eq_getElem _⟩
      obtain ⟨gq, oq, rfl, hgq, d0, d1, d2, -, -⟩ := HB.out.cells i x hd
      obtain ⟨u, s, l⟩ := x
      have c0 : wr.cell? ⟨gq, oq + i * 3, none⟩ = some (.bool u) := (HS.out.fr.cell (p := ⟨gq, oq + i * 3, none⟩) hgq id).trans d0
      have c1 : wr.cell? ⟨gq, oq + i * 3 + 1, none⟩ = some (.int .i64 s) := (HS.out.fr.cell (p := ⟨gq, oq + i * 3 + 1, none⟩) hgq id).trans d1
      have HD : Hid (L[i]? = some (u, s, l)) := hd
      clear hd hgq d0 d1 d2
      cases u
      · have HN : Hid (nums fitB L (i + 1) = nums fitB L i) := nums_no HD.out rfl
        go_wp2_with (fail)
        go_roundw
        case rel => exact ⟨i + 1, dm, dc, da, rfl, by go_num, by omega, by rw [HN.out]; exact HS.out⟩
        case measure => simp [intOf]; omega
      · by_cases hs : 0 < s
        · have hs2 : decide (0 < s) = true := decide_eq_true hs
          have HN : Hid (nums fitB L (i + 1) = nums fitB L i ++ [(i : Int)]) := nums_yes HD.out (by unfold fitB; simp [hs])
          obtain ⟨a', n', c', w3, hrun, hn3, ho3, hf3, hk3⟩ := run_addW (i : Int) HS.out.own (by have := nums_len fitB L i; omega)
          have HS3 : Hid (GotS w w3 a' n' c' (nums fitB L (i + 1))) := by rw [HN.out]; exact HS.out.next ho3 hf3 hk3
          clear hn3 ho3 hf3 hk3
          go_wp2_with (refine wpList_append_run9 rfl (.tmp 24) (.tmp 26) 24 rfl (.slice da dm dc) (.slice (some ⟨wr.heap.size, 0, none⟩) 1 1) (.slice a' n' c') rfl rfl hrun ?_)
          go_roundw
          case rel => exact ⟨i + 1, n', c', a', rfl, by go_num, by omega, HS3.out⟩
          case measure => simp [intOf]; omega
        · have hs2 : decide (0 < s) = false := decide_eq_false hs
          have HN : Hid (nums fitB L (i + 1) = nums fitB L i) := nums_no HD.out (by unfold fitB; simp [hs])
          go_wp2_with (fail)
          go_roundw
          case rel => exact ⟨i + 1, dm, dc, da, rfl, by go_num, by omega, by rw [HN.out]; exact HS.out⟩
          case measure => simp [intOf]; omega
    · have hlt2 : ¬ (i : Int) < (n : Int) := by omega
      have HE : Hid (GotS w wr da dm dc (nums fitB L n)) := by
        have e : i = n := by omega
        rw [← e]
        exact HS.out
      clear HS
      go_wp2_with (fail)
      go_ret
      exact ⟨da, dm, dc, rfl, HE.out⟩
end Go.Proofs.Ytedkjlhhgalcfaa
