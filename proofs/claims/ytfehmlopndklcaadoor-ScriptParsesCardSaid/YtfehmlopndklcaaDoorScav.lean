/- The program computes at all: words, a line of them. -/
import Derived.Test.YtfehmlopndklcaaDoorScaw
namespace Go.Proofs.YtfehmlopndklcaaDoor
open Go.RowKit
set_option maxRecDepth 100000
set_option maxHeartbeats 4000000
set_option linter.unusedVariables false

theorem words_in (w : World) : Calls Tryd.prog 22 #[.agg #[.int .i64 3, .int .i64 1, .int .i64 50, .int .i64 0, .slice none 0 0]] w fun e w' => ∃ a c, e = .returned (.slice a 3 c) ∧ OwnAt w' 68 (.slice a 3 c) [.iface 85 (.string ⟨#[98, 117, 100, 103, 101, 116]⟩), .iface 86 (.int .i64 1), .iface 86 (.int .i64 50)] ∧ Fr (fun _ => False) w w' := by
  obtain ⟨W4, hW4⟩ : ∃ W4, ((((w.alloc (.cells #[.int .i64 3, .int .i64 1, .int .i64 50, .int .i64 0, .slice none 0 0] 24)).alloc (.cells #[.string ⟨#[111, 112, 101, 110]⟩, .string ⟨#[98, 121, 116, 101, 115]⟩, .string ⟨#[99, 108, 111, 115, 101]⟩, .string ⟨#[98, 117, 100, 103, 101, 116]⟩, .string ⟨#[116, 105, 99, 107]⟩, .string ⟨#[112, 114, 111, 98, 101]⟩, .string ⟨#[98, 97, 99, 107]⟩, .string ⟨#[115, 116, 111, 112]⟩] 9)).alloc (.cells #[.iface 85 (.string ⟨#[98, 117, 100, 103, 101, 116]⟩)] 68)).alloc (.cells #[.int .i64 1, .int .i64 50, .int .i64 0] 77)).drew = W4 := ⟨_, rfl⟩
  have b3 : W4.heap[w.heap.size + 1 + 1]? = some (.cells #[.iface 85 (.string ⟨#[98, 117, 100, 103, 101, 116]⟩)] 68 (0, 0)) := by rw [← hW4]; exact heap_past _ _ (heap_last _ _ (by simp))
  have b4 : W4.heap[w.heap.size + 1 + 1 + 1]? = some (.cells #[.int .i64 1, .int .i64 50, .int .i64 0] 77 (0, 0)) := by rw [← hW4]; exact heap_last _ _ (by simp)
  have b5 : W4.heap[w.heap.size]? = some (.cells #[.int .i64 3, .int .i64 1, .int .i64 50, .int .i64 0, .slice none 0 0] 24 (0, 0)) := by rw [← hW4]; exact heap_past _ _ (heap_past _ _ (heap_past _ _ (heap_last _ _ rfl)))
  have HF4 : Hid (Fr (fun _ => False) w W4) := by show Fr _ _ _; rw [← hW4]; exact (((((Fr.refl _ _).alloc _).alloc _).alloc _).alloc _).drew
  have HO4 : Hid (OwnAt W4 68 (.slice (some ⟨w.heap.size + 1 + 1, 0, none⟩) 1 1) [.iface 85 (.string ⟨#[98, 117, 100, 103, 101, 116]⟩)]) := .inr ⟨_, 0, 1, _, rfl, b3, by decide, by decide, by decide, rfl⟩
  have HB4 : Hid (W4.heap[w.heap.size + 1 + 1 + 1]? = some (.cells #[.int .i64 1, .int .i64 50, .int .i64 0] 77 (0, 0)) ∧ W4.heap[w.heap.size]? = some (.cells #[.int .i64 3, .int .i64 1, .int .i64 50, .int .i64 0, .slice none 0 0] 24 (0, 0))) := ⟨b4, b5⟩
  have c40 : W4.cell? ⟨w.heap.size + 1 + 1 + 1, 0, none⟩ = some (.int .i64 1) := cell_of_heap b4 rfl
  have HS4 : Hid (w.heap.size + 4 = W4.heap.size) := by show _ = _; rw [← hW4]; simp
  have HE4 : Hid (((((w.alloc (.cells #[.int .i64 3, .int .i64 1, .int .i64 50, .int .i64 0, .slice none 0 0] 24)).alloc (.cells #[.string ⟨#[111, 112, 101, 110]⟩, .string ⟨#[98, 121, 116, 101, 115]⟩, .string ⟨#[99, 108, 111, 115, 101]⟩, .string ⟨#[98, 117, 100, 103, 101, 116]⟩, .string ⟨#[116, 105, 99, 107]⟩, .string ⟨#[112, 114, 111, 98, 101]⟩, .string ⟨#[98, 97, 99, 107]⟩, .string ⟨#[115, 116, 111, 112]⟩] 9)).alloc (.cells #[.iface 85 (.string ⟨#[98, 117, 100, 103, 101, 116]⟩)] 68)).alloc (.cells #[.int .i64 1, .int .i64 50, .int .i64 0] 77)).drew = W4) := hW4
  clear b3 b4 b5 hW4
  go_enter Tryd.func22, Tryd.ntmps22
  go_wp2
  go_region_with (go_at_call 29; refine (kinds2_in _).mono ?_; rintro e w' ⟨rfl, rfl⟩)
  all_goals
    go_wp2
    refine wp_loop_rounds 2 ?_
    rw [rounds_succ]
    go_wp2
    rw [rounds_succ]
    go_wp2
    rw [HE4.out]
    clear HE4
    refine wp_loop_rounds 3 ?_
    rw [rounds_succ]
    go_wp2_with (refine wpList_addW4 rfl (.tmp 40) (.tmp 43) rfl (.slice (some ⟨w.heap.size + 1 + 1, 0, none⟩) 1 1) [.iface 85 (.string ⟨#[98, 117, 100, 103, 101, 116]⟩)] (.iface 86 (.int .i64 1)) rfl (by go_simp) HO4.out (by go_simp) (by decide) ?_; intro a6 n6 c6 w6 N6 O6 F6 K6)
    have e6 : n6 = 2 := N6.out
    subst e6
    have f6 : Fr (fun _ => False) w w6 := fr_new HF4.out F6.out (fun j hj e => by
      have e' : some (w.heap.size + 1 + 1) = some j := e
      injection e' with e'
      omega)
    have c61 : w6.cell? ⟨w.heap.size + 1 + 1 + 1, 1, none⟩ = some (.int .i64 50) := cell_of_heap ((F6.out.block _ (lt_of_heap HB4.out.1) (fun e => by
      have e' : some (w.heap.size + 1 + 1) = some (w.heap.size + 1 + 1 + 1) := e
      injection e' with e'
      omega)).trans HB4.out.1) rfl
    have HF6 : Hid (Fr (fun _ => False) w w6) := f6
    have HX6 : Hid (w6.heap[w.heap.size]? = some (.cells #[.int .i64 3, .int .i64 1, .int .i64 50, .int .i64 0, .slice none 0 0] 24 (0, 0))) := (F6.out.block _ (lt_of_heap HB4.out.2) (fun e => by
      have e' : some (w.heap.size + 1 + 1) = some w.heap.size := e
      injection e' with e'
      omega)).trans HB4.out.2
    have HN6 : Hid (∀ k, (Value.slice a6 2 c6).ownBlock = some k → w.heap.size + 1 ≤ k) := fun k hk => by
      rcases K6.out with e | ⟨k', e, e2⟩
      · rw [e] at hk
        have e' : some (w.heap.size + 1 + 1) = some k := hk
        injection e' with e'
        omega
      · rw [e] at hk
        cases hk
        have := HS4.out
        omega
    clear f6 K6 F6 N6 c40
    rw [rounds_succ]
    go_wp2_with (refine wpList_addW4 rfl (.tmp 40) (.tmp 43) rfl (.slice a6 2 c6) [.iface 85 (.string ⟨#[98, 117, 100, 103, 101, 116]⟩), .iface 86 (.int .i64 1)] (.iface 86 (.int .i64 50)) rfl (by go_simp) O6.out (by go_simp) (by decide) ?_; intro a7 n7 c7 w7 N7 O7 F7 K7)
    have e7 : n7 = 3 := N7.out
    subst e7
    have HF7 : Hid (Fr (fun _ => False) w w7) := fr_new HF6.out F7.out (fun j hj e => by have := HN6.out j e; omega)
    have c74 : w7.cell? ⟨w.heap.size, 4, none⟩ = some (.slice none 0 0) := cell_of_heap ((F7.out.block _ (lt_of_heap HX6.out) (fun e => by have := HN6.out _ e; omega)).trans HX6.out) rfl
    clear c61 F7 K7 N7
    rw [rounds_succ]
    go_wp2
    go_ret
    exact ⟨_, _, rfl, O7.out, HF7.out⟩
end Go.Proofs.YtfehmlopndklcaaDoor
