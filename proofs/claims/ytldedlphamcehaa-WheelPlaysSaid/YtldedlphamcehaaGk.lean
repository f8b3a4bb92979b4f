/- What the laws ask: ints, has, awake. -/
import Derived.Test.YtldedlphamcehaaGg
import Derived.Test.YtldedlphamcehaaGi
namespace Go.Proofs.Ytldedlphamcehaa
open Go.RowKit Go.Maps
set_option linter.unusedVariables false
set_option maxRecDepth 100000
set_option maxHeartbeats 4000000

theorem qints_in (a b : Option Addr) (c d n m : Nat) (xs : List Int) (w : World) (h1 : OwnAt w 3 (.slice a n c) (iv xs)) (h2 : OwnAt w 3 (.slice b m d) (iv xs)) (hx : xs.length ≤ 4096) :
    Calls Try.prog 14 #[.slice a n c, .slice b m d] w fun e w' => e = .returned (.bool true) ∧ Fr (fun _ => False) w w' := by
  have H1 : Hid (OwnAt w 3 (.slice a n c) (iv xs)) := h1
  have H2 : Hid (OwnAt w 3 (.slice b m d) (iv xs)) := h2
  have hm := h2.lenI.1
  have hn := h1.lenI.1
  rw [← hn] at hm
  subst hm
  have HN : Hid (xs.length = m) := hn.symm
  rw [← hn] at hx
  clear h1 h2 hn
  go_enter Try.func14, Try.ntmps14
  go_wp2_with (fail)
  go_loopw [5] (fun x5 wr => ∃ i : Nat, x5 = .int .i64 (i : Int) ∧ i ≤ m ∧ Hid (Fr (fun _ => False) w wr)) (fun x5 _ => m - (intOf x5).toNat)
  case atStart => exact ⟨0, rfl, by omega, Fr.refl _ _⟩
  case round =>
    obtain ⟨i, rfl, hin, HF⟩ := hrel
    by_cases hlt : i < m
    · obtain ⟨x, hs⟩ : ∃ x, xs[i]? = some x := ⟨_, List.getElem?_eq_getElem (by rw [HN.out]; exact hlt)⟩
      obtain ⟨g1, o1, rfl, -, a0⟩ := (H1.out.fr HF.out (fun _ _ => id)).ints i x hs
      obtain ⟨g2, o2, rfl, -, b0⟩ := (H2.out.fr HF.out (fun _ _ => id)).ints i x hs
      have hlt2 : (i : Int) < (m : Int) := by omega
      clear hs
      go_wp2_with (fail)
      go_quiet (fail)
      go_wp2_with (fail)
      go_roundw
      case rel => exact ⟨i + 1, by go_num, by omega, HF.out.drewN _⟩
      case measure => simp [intOf]; omega
    · go_wp2_with (fail)
      go_ret
      exact ⟨rfl, HF.out⟩
theorem qhas_in (a : Option Addr) (c n : Nat) (d : Int) (xs : List Int) (w : World) (h : OwnAt w 3 (.slice a n c) (iv xs)) (hx : xs.length ≤ 4096) :
    Calls Try.prog 22 #[.slice a n c, .int .i64 d] w fun e w' => e = .returned (.bool (decide (d ∈ xs))) ∧ w = w' := by
  have H : Hid (OwnAt w 3 (.slice a n c) (iv xs)) := h
  have hn := h.lenI.1
  have HN : Hid (xs.length = n) := hn.symm
  rw [← hn] at hx
  obtain ⟨V, hV⟩ : ∃ V, decide (d ∈ xs) = V := ⟨_, rfl⟩
  rw [hV]
  have HV : Hid (decide (d ∈ xs) = V) := hV
  clear h hn hV
  go_enter Try.func22, Try.ntmps22
  go_wp2_with (fail)
  go_loopw [5] (fun x5 wr => ∃ i : Nat, x5 = .int .i64 (i : Int) ∧ i ≤ n ∧ w = wr ∧ Hid (d ∉ xs.take i)) (fun x5 _ => n - (intOf x5).toNat)
  case atStart => exact ⟨0, rfl, by omega, rfl, by show d ∉ _; simp⟩
  case round =>
    obtain ⟨i, rfl, hin, rfl, HM⟩ := hrel
    by_cases hlt : i < n
    · obtain ⟨x, hs⟩ : ∃ x, xs[i]? = some x := ⟨_, List.getElem?_eq_getElem (by rw [HN.out]; exact hlt)⟩
      obtain ⟨g1, o1, rfl, -, a0⟩ := H.out.ints i x hs
      have hlt2 : (i : Int) < (n : Int) := by omega
      have HT : Hid (xs.take (i + 1) = xs.take i ++ [x]) := by show _ = _; rw [List.take_add_one, hs]; rfl
      by_cases he : x = d
      · subst he
        have HV2 : Hid (V = true) := by show _ = _; rw [← HV.out, decide_eq_true]; exact List.mem_of_getElem? hs
        clear hs
        go_wp2_with (fail)
        go_ret
        exact ⟨by rw [HV2.out]; rfl, rfl⟩
      · have he2 : (x == d) = false := by rw [beq_eq_false_iff_ne]; exact he
        have HM2 : Hid (d ∉ xs.take (i + 1)) := by
          show d ∉ _
          rw [HT.out, List.mem_append, List.mem_singleton]
          rintro (e | e)
          · exact HM.out e
          · exact he e.symm
        clear hs
        go_wp2_with (fail)
        go_roundw
        case rel => exact ⟨i + 1, by go_num, by omega, trivial, HM2.out⟩
        case measure => simp [intOf]; omega
    · have HV2 : Hid (V = false) := by
        show _ = _
        have := HM.out
        rw [List.take_of_length_le (by rw [HN.out]; omega)] at this
        rw [← HV.out, decide_eq_false this]
      go_wp2_with (fail)
      go_ret
      exact ⟨by rw [HV2.out]; rfl, rfl⟩
theorem qawake_in (w : World) : Calls Try.prog 21 #[] w fun e w' => e = .returned (.bool true) ∧ Fr (fun _ => False) w w' := by
  have KN := qNew_in w.heap.size w (Nat.le_refl _)
  go_enter Try.func21, Try.ntmps21
  go_upto_region 2 with (go_at_call 8; refine KN.mono ?_; clear KN; rintro e w1 ⟨rfl, h1, f1, s1⟩)
  have H1 : Hid (WAt w.heap.size w1 (w.heap.size + 1) w.heap.size (List.replicate 64 nilS) 0 []) := h1
  have F1 : Hid (Fr (fun _ => False) w w1) := f1
  have KS := qSet_in h1 f1.size (by omega) 3 1 ⟨by decide, by decide⟩
  rw [show setT 0 [] 3 1 = (0, [(3, 1)]) by decide] at KS
  obtain ⟨g, hg⟩ : ∃ g, g = w.heap.size + 1 := ⟨_, rfl⟩
  have B1 : Hid (∀ k, WX g w.heap.size (List.replicate 64 nilS) k → w.heap.size ≤ k) := by rw [hg]; exact h1.1.base_le
  rw [← hg] at KS ⊢
  clear h1 f1 s1 hg H1
  go_wp2_with (first
    | (go_at_call 10; refine KS.mono ?_; clear KS; rintro e w2 ⟨rfl, sl2, h2, f2, -⟩; have KL := qLen_in h2; have HF2 : Hid (Fr (WX g w.heap.size (List.replicate 64 nilS)) w1 w2) := f2; clear f2 h2)
    | (go_at_call 20; refine KL.mono ?_; clear KL; rintro e w' ⟨rfl, rfl⟩))
  go_ret
  exact ⟨rfl, ((F1.out.mono (T := fun k => w.heap.size ≤ k) (fun _ _ e => e.elim)).trans (HF2.out.mono (fun k _ e => B1.out k e))).mono (fun k hk e => by have : w.heap.size ≤ k := e; omega)⟩
end Go.Proofs.Ytldedlphamcehaa
