/- The law's own comparison of lists; the walk of SettingAcks. -/
import Derived.Test.YtmpknmcgljpfkaaMm
namespace Go.Proofs.Ytmpknmcgljpfkaa
open Go.RowKit Go.Maps
set_option linter.unusedVariables false
set_option maxRecDepth 100000
set_option maxHeartbeats 4000000

theorem lists_in (p q : Option Addr) (c d n : Nat) (Y : List (Int × Nat)) (w : World) (h1 : SetsAt w p c Y) (h2 : SetsAt w q d Y) (hn : Y.length = n) :
    Calls Try.prog 20 #[.slice p n c, .slice q n d] w fun e w' => e = .returned (.bool true) ∧ Fr (fun _ => False) w w' := by
  have H1 : Hid (SetsAt w p c Y) := h1
  have H2 : Hid (SetsAt w q d Y) := h2
  have HN : Hid (Y.length = n) := hn
  have hn2 : (n : Int) ≤ 9223372036854775806 := by have := h1.few; rw [hn] at this; omega
  clear h1 h2 hn
  go_enter Try.func20, Try.ntmps20
  go_wp2_with (fail)
  go_loopw [5] (fun x5 wr => ∃ i : Nat, x5 = .int .i64 (i : Int) ∧ i ≤ n ∧ Hid (Fr (fun _ => False) w wr)) (fun x5 _ => n - (intOf x5).toNat)
  case atStart => exact ⟨0, rfl, by omega, Fr.refl _ _⟩
  case round =>
    obtain ⟨i, rfl, hin, HF⟩ := hrel
    by_cases hlt : i < n
    · obtain ⟨⟨x, y⟩, hs⟩ : ∃ s, Y[i]? = some s := ⟨Y[i]'(by rw [HN.out]; exact hlt), List.getElem?_eq_getElem _⟩
      obtain ⟨g1, o1, rfl, -, a0, a1, -, -⟩ := (H1.out.later HF.out).cells i _ hs
      obtain ⟨g2, o2, rfl, -, b0, b1, -, -⟩ := (H2.out.later HF.out).cells i _ hs
      have hlt2 : (i : Int) < (n : Int) := by omega
      clear hs
      dsimp only at a0 a1 b0 b1
      go_wp2_with (fail)
      go_quiet (fail)
      go_wp2_with (fail)
      go_roundw
      case rel => exact ⟨i + 1, by go_num, by omega, HF.out.drewN _⟩
      case measure => simp [intOf]; omega
    · go_wp2_with (fail)
      go_ret
      exact ⟨rfl, HF.out⟩
theorem acks_walk (q : Option Addr) (c : Nat) (L : List (Option Addr × Nat × List (Int × Nat))) (w : World) (hL : SetssAt w q c L) :
    Calls Try.prog 8 #[.slice q L.length c] w fun e w' => e = .returned (.bool true) ∧ Below w.heap.size w w' := by
  have K1 := NewQ w w (Fr.refl _ _)
  have KA : Hid (∀ w, Calls Try.prog 11 #[] w fun e w' => e = .returned (.bool true) ∧ Fr (fun _ => False) w w') := fun w => sawake_in w
  obtain ⟨N, hn⟩ : ∃ N, L.length = N := ⟨_, rfl⟩
  have HL : Hid (SetssAt w q c L) := hL
  have HN : Hid (L.length = N) := hn
  have hfew : N * 24 < 2 ^ 47 := by have := hL.few; have : reachBytes < 2 ^ 47 := reach_lt; omega
  have hn2 : (N : Int) ≤ 9223372036854775806 := by omega
  rw [hn]
  clear hn hL
  go_enter Try.func8, Try.ntmps8
  go_wp2_with (go_at_call 12; refine K1.mono ?_; clear K1; rintro e w1 ⟨g, b, rfl, h1, -⟩; have S1 : Hid (SetQ w w1 g b firstV none 0 0 []) := h1; clear h1)
  go_loopw [4] (fun x4 wr => ∃ (i : Nat) (a : Option Addr) (n c' : Nat) (LL : List (Option Addr × Nat × List (Int × Nat))), x4 = .int .i64 (i : Int) ∧ i ≤ N ∧ Hid (SetQ w wr g b firstV a n c' LL ∧ LL.map (·.2.2) = (L.take i).map (·.2.2))) (fun x4 _ => N - (intOf x4).toNat)
  case atStart => exact ⟨0, none, 0, 0, [], rfl, by omega, S1.out, rfl⟩
  case round =>
    clear S1
    obtain ⟨i, a, n, c', LL, rfl, hin, HS⟩ := hrel
    by_cases hlt : i < N
    · obtain ⟨⟨p, cc, Y⟩, hs⟩ : ∃ s, L[i]? = some s := ⟨L[i]'(by rw [HN.out]; exact hlt), List.getElem?_eq_getElem _⟩
      obtain ⟨gq, oq, rfl, hgq, d0, d1⟩ := (HL.out.later HS.out.1.one.fr).cells i _ hs
      have hlt2 : (i : Int) < (N : Int) := by omega
      dsimp only at d0
      have hll : LL.length = i := by have := congrArg List.length HS.out.2; simp at this; rw [this, HN.out]; omega
      have HT : Hid (LL.map (·.2.2) ++ [Y] = (L.take (i + 1)).map (·.2.2)) := by
        show _ = _
        rw [HS.out.2, List.take_add_one, hs]
        simp
      obtain ⟨m, hm⟩ : ∃ m, Y.length = m := ⟨_, rfl⟩
      have K2 := OfferQ HS.out.1 p cc m Y d1 hm (by rw [hll]; omega)
      rw [hm] at d0
      have HLL : Hid (LL.length = i) := hll
      clear hs d1 hgq hm hll
      go_wp2_with (fail)
      refine K2.mono ?_
      clear K2
      rintro e w2 ⟨rfl, p', d', a', n', c2, h2, -, -⟩
      have S2 : Hid (SetQ w w2 g b firstV a' n' c2 (LL ++ [(p', d', Y)])) := h2
      have K3 := OpenQ h2
      obtain rfl : i + 1 = n' := by rw [h2.len, List.length_append, HLL.out]; rfl
      clear h2 HLL
      have hi1 : (((i + 1 : Nat) : Int)) = (i : Int) + 1 := by omega
      rw [hi1] at K3
      clear hi1
      go_wp2_with (fail)
      refine K3.mono ?_
      clear K3
      rintro e w3 ⟨rfl, rfl⟩
      go_wp2_with (fail)
      go_roundw
      case rel => exact ⟨i + 1, a', i + 1, c2, LL ++ [(p', d', Y)], by go_num, by omega, S2.out, by rw [List.map_append]; exact HT.out⟩
      case measure => simp [intOf]; omega
    · obtain rfl : i = N := by omega
      have S2 : Hid (SetQ w wr g b firstV a n c' LL ∧ LL.map (·.2.2) = (L.drop 0).map (·.2.2)) := by
        refine ⟨HS.out.1, ?_⟩
        rw [HS.out.2, List.take_of_length_le (by rw [HN.out]; exact Nat.le_refl _)]
        rfl
      clear HS
      go_wp2_with (fail)
      go_loopw [5] (fun x5 wz => ∃ (k : Nat) (a : Option Addr) (n c' : Nat) (LL : List (Option Addr × Nat × List (Int × Nat))), x5 = .int .i64 (k : Int) ∧ k ≤ i ∧ Hid (SetQ w wz g b firstV a n c' LL ∧ LL.map (·.2.2) = (L.drop k).map (·.2.2))) (fun x5 _ => i - (intOf x5).toNat)
      case atStart => exact ⟨0, a, n, c', LL, rfl, by omega, S2.out⟩
      case round =>
        clear S2
        rename World => wz
        obtain ⟨k, a, n, c', LL, rfl, hk, HS⟩ := hrel
        by_cases hlt : k < i
        · obtain ⟨⟨p, cc, Y⟩, hs⟩ : ∃ s, L[k]? = some s := ⟨L[k]'(by rw [HN.out]; exact hlt), List.getElem?_eq_getElem _⟩
          have hdr : L.drop k = (p, cc, Y) :: L.drop (k + 1) := List.drop_eq_getElem?_toList_append.trans (by rw [hs]; rfl)
          have hmap := HS.out.2
          rw [hdr] at hmap
          cases LL with
          | nil => simp at hmap
          | cons x LL =>
          simp only [List.map_cons, List.cons.injEq] at hmap
          obtain ⟨p1, c1, Y1⟩ := x
          obtain ⟨rfl, hmap⟩ := hmap
          have HT : Hid (LL.map (·.2.2) = (L.drop (k + 1)).map (·.2.2)) := hmap
          have hlt2 : (k : Int) < (i : Int) := by omega
          have K4 := AckQ HS.out.1
          unfold AckAs offV at K4
          dsimp only at K4
          obtain ⟨m, hm⟩ : ∃ m, Y1.length = m := ⟨_, rfl⟩
          rw [hm] at K4
          have HM : Hid (Y1.length = m) := hm
          have HSS : Hid (L[k]? = some (p, cc, Y1)) := hs
          clear hs hdr hmap HS hm
          go_wp2_with (fail)
          refine K4.mono ?_
          clear K4
          rintro e w2 ⟨rfl, a', n', c2, h2, h3, -, -⟩
          obtain ⟨gq, oq, rfl, hgq, d0, d1⟩ := (HL.out.later h2.one.fr).cells k _ HSS.out
          dsimp only at d0
          rw [HM.out] at d0
          have K5 := lists_in p1 p c1 cc m Y1 w2 h3.sets d1 HM.out
          have S2 : Hid (SetQ w w2 g b firstV a' n' c2 LL) := h2
          clear h2 h3 d1 hgq
          go_wp2_with (fail)
          refine K5.mono ?_
          clear K5
          rintro e w3 ⟨rfl, hf3⟩
          go_wp2_with (fail)
          go_roundw
          case rel => exact ⟨k + 1, a', n', c2, LL, by go_num, by omega, S2.out.later hf3, HT.out⟩
          case measure => simp [intOf]; omega
        · obtain rfl : k = i := by omega
          have hmap := HS.out.2
          rw [List.drop_of_length_le (by rw [HN.out]; exact Nat.le_refl _)] at hmap
          have hnil : LL = [] := by simpa using hmap
          subst hnil
          have K6 := AckQ0 HS.out.1
          have K7 := OpenQ HS.out.1
          obtain rfl : 0 = n := HS.out.1.len.symm
          clear hmap
          go_wp2_with (fail)
          refine K6.mono ?_
          clear K6
          rintro e w2 ⟨rfl, rfl⟩
          go_wp2_with (fail)
          refine K7.mono ?_
          clear K7
          rintro e w2 ⟨rfl, rfl⟩
          go_wp2_with (fail)
          refine (KA.out _).mono ?_
          rintro e w2 ⟨rfl, hf2⟩
          go_wp2_with (fail)
          go_ret
          exact ⟨rfl, (HS.out.1.one.fr.trans hf2).below (fun _ _ => id)⟩
end Go.Proofs.Ytmpknmcgljpfkaa
