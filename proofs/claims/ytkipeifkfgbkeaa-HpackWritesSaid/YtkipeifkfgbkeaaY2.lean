/- The document's fall. -/
import Derived.Test.YtkipeifkfgbkeaaY1
import Derived.BigQuiet
namespace Go.Proofs.Ytkipeifkfgbkeaa
open Go.RowKit
set_option maxRecDepth 100000
set_option maxHeartbeats 8000000
set_option linter.unusedVariables false

def sliceLen : Option Value → Nat
  | some (.slice _ n _) => n
  | _ => 0
theorem fallen_keep {k : Int} {e : ByteArray × ByteArray} {r : List (ByteArray × ByteArray)} (h : ¬ k < ((total (e :: r) : Nat) : Int)) : fallen k (e :: r) = e :: r := by rw [fallen, if_neg h]
theorem Fr.of_below0 {S : Nat → Prop} {w w' : World} (h : Below w.heap.size w w') : Fr S w w' := ⟨h.os, h.tape, h.output, h.size, fun k hk _ => h.block k hk⟩
theorem RIs.drew {w : World} {t : Nat} {v : Value} {m : Nat} {F : List (ByteArray × ByteArray)} (h : RIs w t v m F) : RIs w.drew t v m F := h.kept (S := fun _ => False) ((Fr.refl _ w).drew) (fun _ _ => id)
theorem RIs.cut {w : World} {t g L cap m : Nat} {e : ByteArray × ByteArray} {r : List (ByteArray × ByteArray)} (h : RIs w t (.slice (some ⟨g, 0, none⟩) (L + 1) cap) m (e :: r).reverse) (hL : r.length = L) :
    RIs (w.setCell ⟨t, 1, none⟩ (.slice (some ⟨g, 0, none⟩) L cap)).drew t (.slice (some ⟨g, 0, none⟩) L cap) m r.reverse := by
  subst hL
  have hrow := h.row
  rw [show r.length + 1 = (e :: r).reverse.length by simp] at hrow
  have h2 := row_cut (n := r.length) hrow (by simp)
  rw [List.reverse_cons, List.take_left' (by simp)] at h2
  refine RIs.drew ⟨heap_set (i := 1) _ h.at_, h2.1, ?_⟩
  rcases h2.2 with ⟨e, _⟩ | ⟨g', cap', cur, hv, a1, a2, a3⟩
  · cases e
  · rw [List.length_reverse] at hv
    cases hv
    refine .inr ⟨g, cap, cur, by rw [List.length_reverse], a1, (heap_set_other (fun e => ?_) _).trans a2, a3⟩
    subst e
    rw [h.at_] at a2
    cases a2
theorem rfall_in (t m : Nat) (v : Value) (E : List (ByteArray × ByteArray)) (n : Nat) (w : World) (h : RIs w t v m E.reverse) (hm : m ≤ 65536) (hT : total E ≤ 65536) (hn : n < 2 ^ 50) :
    Calls Try.prog 27 #[.pointer (some ⟨t, 0, none⟩), .int .i64 (n : Int)] w fun e w' => e = .returned (.tuple #[]) ∧ ∃ v', RIs w' t v' m (fallen ((m : Int) - (n : Int)) E).reverse ∧ (∀ k, v'.ownBlock = some k → v.ownBlock = some k) ∧ Fr (fun k => k = t) w w' := by
  have HT : Hid (RIs w t v m E.reverse) := h
  have hmx : Try.prog.follows .mixedOrders = true := by kernel_rfl
  clear h
  go_enter Try.func27, Try.ntmps27
  go_wp2_with (fail)
  go_loopw [34] (fun x0 wr => ∃ (v' : Value) (D : List (ByteArray × ByteArray)), RIs wr t v' m D.reverse ∧ total D ≤ 65536 ∧ fallen ((m : Int) - (n : Int)) D = fallen ((m : Int) - (n : Int)) E ∧ (∀ k, v'.ownBlock = some k → v.ownBlock = some k) ∧ Fr (fun k => k = t) w wr)
    (fun x0 wr => sliceLen (wr.cell? ⟨t, 1, none⟩))
  case atStart => exact ⟨v, E, HT.out, hT, rfl, fun _ => id, Fr.refl _ _⟩
  case round =>
    obtain ⟨v', D, hR, hTD, hfal, hown, hfr⟩ := hrel
    have HR : Hid (RIs wr t v' m D.reverse) := hR
    have HF : Hid (fallen ((m : Int) - (n : Int)) D = fallen ((m : Int) - (n : Int)) E ∧ (∀ k, v'.ownBlock = some k → v.ownBlock = some k) ∧ Fr (fun k => k = t) w wr) := ⟨hfal, hown, hfr⟩
    clear hR hfal hown hfr HT hT
    cases D with
    | nil =>
      obtain ⟨q, cap, rfl⟩ := HR.out.form
      have c1 : wr.cell? ⟨t, 1, none⟩ = some (.slice q 0 cap) := cell_of_heap HR.out.at_ rfl
      go_wp2_with (fail)
      go_big_quiet (fail)
      go_wp2_with (fail)
      go_end0
      refine ⟨rfl, _, ?_, HF.out.2.1, HF.out.2.2.drewN nq⟩
      rw [← HF.out.1]
      exact HR.out.kept (S := fun _ => False) ((Fr.refl _ wr).drewN nq) (fun _ _ => id)
    | cons e r =>
      obtain ⟨g, cap, rfl, hcap⟩ : ∃ g cap, v' = .slice (some ⟨g, 0, none⟩) (e :: r).reverse.length cap ∧ r.length + 1 ≤ cap := by
        rcases HR.out.row.2 with ⟨rfl, h0⟩ | ⟨g, cap, cur, rfl, h1, h2, h3, _⟩
        · simp at h0
        · exact ⟨g, cap, rfl, by simpa using h3⟩
      have KB : Hid (∀ w', Below wr.heap.size wr w' → Calls Try.prog 11 #[.pointer (some ⟨t, 0, none⟩)] w' fun x w'' => x = .returned (.int .i64 ((total (e :: r) : Nat) : Int)) ∧ Hid (Below wr.heap.size wr w'')) := fun w' b => by
        refine (rBytes_in t m _ _ w' (HR.out.below b) (by rw [total_reverse]; omega)).mono ?_
        rintro x w'' ⟨rfl, b2⟩
        rw [total_reverse]
        exact ⟨rfl, b.trans (b2.mono b.size)⟩
      obtain ⟨L, hL⟩ : ∃ L, r.length = L := ⟨_, rfl⟩
      have HC : Hid (∀ w', Below wr.heap.size wr w' → w'.cell? ⟨t, 0, none⟩ = some (.int .i64 (m : Int)) ∧ w'.cell? ⟨t, 1, none⟩ = some (.slice (some ⟨g, 0, none⟩) (L + 1) cap)) := fun w' b => ⟨cell_of_heap (HR.out.below b).at_ rfl, cell_of_heap (HR.out.below b).at_ (by simp [hL])⟩
      obtain ⟨s0, s1⟩ := HC.out wr (Below.refl _ _)
      obtain ⟨T, hTt⟩ : ∃ T, total (e :: r) = T := ⟨_, rfl⟩
      rw [hTt] at KB hTD
      have HTt : Hid (total (e :: r) = T ∧ r.length = L) := ⟨hTt, hL⟩
      have hw1 : wrap64 ((T : Int) + (n : Int)) = (T : Int) + (n : Int) := by unfold wrap64; omega
      have hw2 : IntKind.i64.wrap ((T : Int) + (n : Int)) = (T : Int) + (n : Int) := by rw [IntWalk.i64_left]; exact hw1
      rw [hL] at hcap
      clear hTt hL
      have hLb : L ≤ 65536 := by have := total_len (e :: r); rw [HTt.out.1] at this; simp [HTt.out.2] at this; omega
      have hl1 : wrap64 (L : Int) = (L : Int) := by unfold wrap64; omega
      have hl2 : IntKind.i64.wrap (L : Int) = (L : Int) := by rw [IntWalk.i64_left]; exact hl1
      have hl3 : (L : Int) ≤ (cap : Int) := by omega
      have hl4 : (0 : Int) ≤ (L : Int) := by omega
      by_cases hgo : (m : Int) < (T : Int) + (n : Int)
      · have hgo2 : Hid ((m : Int) - (n : Int) < (T : Int)) := by show _ < _; omega
        go_wp2_with (fail)
        go_region_held_law (fun w' => w'.cell? ⟨t, 0, none⟩ = some (.int .i64 (m : Int)) ∧ w'.cell? ⟨t, 1, none⟩ = some (.slice (some ⟨g, 0, none⟩) (L + 1) cap)) (first | exact ⟨s0, s1⟩ | exact ⟨t0, t1⟩ | go_keep)
          (first | (go_at_call 11; refine (KB.out _ (Below.refl _ wr).drew).mono ?_; rintro x w4 ⟨rfl, b4⟩; obtain ⟨t0, t1⟩ := HC.out w4 b4.out))
        all_goals have HR4 : Hid (RIs w4 t (.slice (some ⟨g, 0, none⟩) (L + 1) cap) m (e :: r).reverse) := by have := HR.out.below b4.out; rwa [show (e :: r).reverse.length = L + 1 by simp [HTt.out.2]] at this
        all_goals have z1 : w4.frozen? ⟨t, 1, none⟩ = false := frozen_of_heap HR4.out.at_
        all_goals go_wp2_with (fail)
        all_goals go_region
        all_goals go_wp2_with (fail)
        all_goals refine ⟨⟨_, r, HR4.out.cut HTt.out.2, Nat.le_trans (by simp only [total]; omega) (HTt.out.1 ▸ hTD), ?_, HF.out.2.1, ((HF.out.2.2.trans (Fr.of_below0 b4.out)).setCell ⟨t, 1, none⟩ (fun _ => rfl) _).drew⟩, ?_⟩
        all_goals first
          | (rw [← HF.out.1, fallen_tail (by rw [HTt.out.1]; exact hgo2.out)])
          | (have q1 : (w4.setCell ⟨t, 1, none⟩ (.slice (some ⟨g, 0, none⟩) L cap)).drew.cell? ⟨t, 1, none⟩ = some (.slice (some ⟨g, 0, none⟩) L cap) := cell_of_heap (HR4.out.cut HTt.out.2).at_ rfl
             rw [q1, s1]
             simp only [sliceLen]
             omega)
      · have hgo2 : Hid (¬ (m : Int) - (n : Int) < (T : Int)) := by show ¬ _; omega
        go_wp2_with (fail)
        go_region_held_law (fun w' => w'.cell? ⟨t, 0, none⟩ = some (.int .i64 (m : Int)) ∧ w'.cell? ⟨t, 1, none⟩ = some (.slice (some ⟨g, 0, none⟩) (L + 1) cap)) (first | exact ⟨s0, s1⟩ | exact ⟨t0, t1⟩ | go_keep)
          (first | (go_at_call 11; refine (KB.out _ (Below.refl _ wr).drew).mono ?_; rintro x w4 ⟨rfl, b4⟩; obtain ⟨t0, t1⟩ := HC.out w4 b4.out))
        all_goals go_wp2_with (fail)
        all_goals go_end0
        all_goals refine ⟨rfl, _, ?_, HF.out.2.1, HF.out.2.2.trans (Fr.of_below0 b4.out)⟩
        all_goals rw [← HF.out.1, fallen_keep (by rw [HTt.out.1]; exact Int.not_lt.2 hgo2.out)]
        all_goals exact HR.out.below b4.out
end Go.Proofs.Ytkipeifkfgbkeaa
