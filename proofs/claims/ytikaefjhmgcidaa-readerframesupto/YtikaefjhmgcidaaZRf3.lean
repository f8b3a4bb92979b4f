/- What stands behind a head, by the document: settings. -/
import Derived.Test.YtikaefjhmgcidaaZRf1
namespace Go.Proofs.Ytikaefjhmgcidaa
open Go.RowKit
set_option linter.unusedVariables false
set_option maxRecDepth 100000
set_option maxHeartbeats 4000000

theorem body_4 (fl st : Int) (X : List UInt8) (pad : Int) (code : Nat) (last : Int) (inc : Int) (dep wt : Int) (only : Bool) (Y : List (Int × Nat)) (p q : Option Addr) (cp cq n : Nat) (w : World) (h0 : 0 ≤ fl) (h1 : fl ≤ 255) (hY : SetsAt w q cq Y) (hok : Y.all setOk = true) (hn : Y.length = n) :
    Calls Try.prog 27 #[.agg #[.int .i64 4, .int .i64 fl, .int .i64 st, .slice p X.length cp, .int .i64 pad, .int .u32 code, .int .i64 last, .int .i64 inc, .int .i64 dep, .bool only, .int .i64 wt, .slice q n cq]] w fun e w' => BodyAs w (setsB Y) e w' := by
  obtain ⟨W, hW⟩ : ∃ W, W = w.alloc (.cells #[.int .i64 4, .int .i64 fl, .int .i64 st, .slice p X.length cp, .int .i64 pad, .int .u32 code, .int .i64 last, .int .i64 inc, .int .i64 dep, .bool only, .int .i64 wt, .slice q n cq] 36) := ⟨_, rfl⟩
  have HF : Hid (Fr (fun _ => False) w W) := by rw [hW]; exact (Fr.refl _ _).alloc _
  have hA : W.heap[w.heap.size]? = some (.cells #[.int .i64 4, .int .i64 fl, .int .i64 st, .slice p X.length cp, .int .i64 pad, .int .u32 code, .int .i64 last, .int .i64 inc, .int .i64 dep, .bool only, .int .i64 wt, .slice q n cq] 36 (0, 0)) := by rw [hW]; exact heap_alloc_new w _
  have HA : Hid (∀ w', Fr (fun _ => False) W w' → w'.cell? ⟨w.heap.size, 11, none⟩ = some (.slice q n cq)) := fun w' hf => cell_of_heap ((hf.block _ (lt_of_heap hA) id).trans hA) rfl
  obtain ⟨c0, c1, c2, c3, c4, c5, c6, c7, c8, c9, c10, c11⟩ := cells12 hA
  have HS : Hid (SetsAt W q cq Y) := hY.later HF.out
  have hfew := hY.few
  rw [hn] at hfew
  have HN : Hid (Y.length = n) := hn
  have HB : Hid (∀ s ∈ Y, setOk s = true) := List.all_eq_true.1 hok
  have K3 := fun w => rpadded_in 4 w
  have K5 := fun w => prio_in 4 fl w h0 h1
  rw [show canP 4 = false by decide] at K3
  rw [show prioB 4 fl = false by simp [prioB]] at K5
  obtain ⟨j, J1, J2, J3, J4⟩ := info5
  have J1 : Hid _ := J1
  have J2 : Hid _ := J2
  have J3 : Hid _ := J3
  have J4 : Hid _ := J4
  clear hA hY hn hok
  go_enter Try.func27, Try.ntmps27
  go_wp2_with (fail)
  rw [← hW]
  clear hW
  go_wp2_with first
    | (go_at_call 39; refine (K3 _).mono ?_; rintro e w' ⟨rfl, rfl⟩)
    | (go_at_call 41; refine (K5 _).mono ?_; rintro e w' ⟨rfl, rfl⟩)
  clear K3 K5 c0 c1 c2 c3 c4 c5 c6 c7 c8 c9 c10 c11
  go_loopw [3, 5] (fun x3 x5 wr => ∃ (i na ca : Nat) (a : Option Addr), x3 = .slice a na ca ∧ x5 = .int .i64 (i : Int) ∧ i ≤ n ∧ Hid (Gath W wr (.slice a na ca) (setsB (Y.take i)))) (fun _ x5 _ => n - (intOf x5).toNat)
  case atStart => exact ⟨0, 0, 0, none, rfl, rfl, by omega, Gath.ofNil (Fr.refl _ _)⟩
  case round =>
    obtain ⟨i, na, ca, a, rfl, rfl, hi, HG⟩ := hrel
    have c11 := HA.out wr HG.out.2.2
    by_cases hin : i < n
    · obtain ⟨s, hsi⟩ : ∃ s, Y[i]? = some s := ⟨Y[i]'(by rw [HN.out]; exact hin), List.getElem?_eq_getElem _⟩
      obtain ⟨bb, o, rfl, hbb, d0, d1, wf0, wf1⟩ := (HS.out.later HG.out.2.2).cells i s hsi
      have HX : Hid (Y[i]? = some s) := hsi
      have hin2 : (i : Int) < (n : Int) := by omega
      have K1 := RPut16 s.1 wr wf0
      rw [putOut16 (HB.out s (List.mem_of_getElem? hsi))] at K1
      have K2 : Hid (∀ w, Calls Try.prog 43 #[.int .u32 (s.2 : Nat)] w fun e w' => (∃ sp, e = .returned (.slice sp 4 4) ∧ New w w' sp (be 4 s.2)) ∧ Fr (fun _ => False) w w') := fun w => RPut32 s.2 w wf1
      have HSZ : Hid ((setsB (Y.take i)).length = i * 6) := by
        show _ = _
        rw [setsB_len, List.length_take, HN.out, Nat.min_eq_left (by omega)]
      have HD : Hid (∀ w', Fr (fun _ => False) W w' → w'.cell? ⟨bb, o + i * 2 + 1, none⟩ = some (.int .u32 (s.2 : Nat))) := fun w' hf => by
        obtain ⟨b2, o2, e2, _, _, h2, _⟩ := (HS.out.later hf).cells i s hsi
        cases e2
        exact h2
      clear hsi hbb wf0 wf1
      go_wp2_with first
        | (go_at_call 44; refine K1.mono ?_; clear K1; rintro e w1 ⟨⟨sp, l, rfl, hl, hs⟩, hf⟩; have H1 : Hid (l = 2 ∧ SrcAt w1 sp (be 2 s.1.toNat) ∧ Fr (fun _ => False) wr w1) := ⟨by rw [← hl]; exact be_length _ _, hs.1, hf⟩; clear hl hs hf)
        | (refine wpList_gather (w0 := W) rfl (.tmp 66) (.tmp 67) 31 31 rfl j Try.underlying31 Try.underlying31 J1.out J2.out J3.out J4.out (.slice a na ca) (setsB (Y.take i)) (by go_simp) (HG.out.fr H1.out.2.2) sp l l (by go_simp) (be 2 s.1.toNat) H1.out.2.1 (by rw [be_length]; exact H1.out.1.symm) (by have := HSZ.out; have := H1.out.1; omega) ?_; intro a2 n2 c2 w2 Hn2 G2 F2; have e11 := HA.out w2 G2.2.2; have e1 := HD.out w2 G2.2.2)
        | (go_at_call 43; refine (K2.out _).mono ?_; rintro e w3 ⟨⟨sp3, rfl, hs3⟩, hf3⟩; have H3 : Hid (SrcAt w3 sp3 (be 4 s.2) ∧ Fr (fun _ => False) w2 w3) := ⟨hs3.1, hf3⟩; clear hs3 hf3)
        | (refine wpList_gather (w0 := W) rfl (.tmp 69) (.tmp 76) 31 31 rfl j Try.underlying31 Try.underlying31 J1.out J2.out J3.out J4.out (.slice a2 n2 c2) (setsB (Y.take i) ++ be 2 s.1.toNat) (by go_simp) (G2.fr H3.out.2) sp3 4 4 (by go_simp) (be 4 s.2) H3.out.1 (be_length _ _) (by have := HSZ.out; simp only [List.length_append, be_length]; omega) ?_; intro a4 n4 c4 w4 Hn4 G4 F4)
      go_roundw
      case rel =>
        refine ⟨i + 1, n4, c4, a4, rfl, by go_num, by omega, ?_⟩
        show Gath W w4 (.slice a4 n4 c4) (setsB (Y.take (i + 1)))
        rw [setsB_next HX.out, setB, ← List.append_assoc]
        exact G4
      case measure => simp [intOf]; omega
    · obtain rfl : i = n := by omega
      go_wp2_with (fail)
      go_ret
      have hG := HG.out
      rw [List.take_of_length_le (Nat.le_of_eq HN.out)] at hG
      exact ⟨a, na, ca, rfl, (own_len hG.1).1.symm, own_src hG.1, HF.out.trans hG.2.2⟩
end Go.Proofs.Ytikaefjhmgcidaa
