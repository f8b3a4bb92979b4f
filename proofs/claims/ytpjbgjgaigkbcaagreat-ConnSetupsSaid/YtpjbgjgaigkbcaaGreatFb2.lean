/- Contracts of the program's small questions on frames. -/
import Derived.Test.YtpjbgjgaigkbcaaGreatFb
namespace Go.Proofs.YtpjbgjgaigkbcaaGreat
open Go.RowKit
set_option linter.unusedVariables false
set_option maxRecDepth 100000
set_option maxHeartbeats 4000000

theorem padFits_in (f : Fra) (p q : Option Addr) (cp cq : Nat) (w : World) (h0 : 0 ≤ f.fl) (h1 : f.fl ≤ 255) : Calls Tryz.prog 46 #[.agg #[.int .i64 f.k, .int .i64 f.fl, .int .i64 f.st, .slice p f.X.length cp, .int .i64 f.pad, .int .u32 f.code, .int .i64 f.last, .int .i64 f.inc, .int .i64 f.dep, .bool f.only, .int .i64 f.wt, .slice q f.Y.length cq]] w fun e w' => e = .returned (.bool (padOk f)) ∧ Fr (fun _ => False) w w' := by
  have hg : Fr (fun _ => False) w (w.alloc (.cells #[.int .i64 f.k, .int .i64 f.fl, .int .i64 f.st, .slice p f.X.length cp, .int .i64 f.pad, .int .u32 f.code, .int .i64 f.last, .int .i64 f.inc, .int .i64 f.dep, .bool f.only, .int .i64 f.wt, .slice q f.Y.length cq] 66)) := (Fr.refl _ _).alloc _
  have K1 := padded_in f p q cp cq (w.alloc (.cells #[.int .i64 f.k, .int .i64 f.fl, .int .i64 f.st, .slice p f.X.length cp, .int .i64 f.pad, .int .u32 f.code, .int .i64 f.last, .int .i64 f.inc, .int .i64 f.dep, .bool f.only, .int .i64 f.wt, .slice q f.Y.length cq] 66)) h0 h1
  have K2 := fun w => canPad_in f.k w
  have hc : ∀ w', Fr (fun _ => False) (w.alloc (.cells #[.int .i64 f.k, .int .i64 f.fl, .int .i64 f.st, .slice p f.X.length cp, .int .i64 f.pad, .int .u32 f.code, .int .i64 f.last, .int .i64 f.inc, .int .i64 f.dep, .bool f.only, .int .i64 f.wt, .slice q f.Y.length cq] 66)) w' → w'.cell? ⟨w.heap.size, 4, none⟩ = some (.int .i64 f.pad) ∧ w'.cell? ⟨w.heap.size, 0, none⟩ = some (.int .i64 f.k) := fun w' hf => by
    have h := hf.block w.heap.size (by simp) id
    rw [heap_alloc_new] at h
    exact ⟨cell_of_heap h rfl, cell_of_heap h rfl⟩
  cases hp : padd f
  · rw [hp] at K1
    cases h2 : (f.pad == 0)
    case' true =>
      have hd : padOk f = true := by simp at h2; simp [padOk, hp, h2]
      go_enter Tryz.func46, Tryz.ntmps46
      go_wp2_with (go_at_call 59; refine K1.mono ?_; rintro e w' ⟨rfl, hf⟩; obtain ⟨c1, c2⟩ := hc w' hf)
      go_ret
      exact ⟨by first | rfl | (rw [hd]; rfl), hg.trans hf⟩
    case' false =>
      have hd : padOk f = !canP f.k := by simp at h2; simp [padOk, hp, h2]
      go_enter Tryz.func46, Tryz.ntmps46
      go_wp2_with first
        | (go_at_call 59; refine K1.mono ?_; rintro e w' ⟨rfl, hf⟩; obtain ⟨c1, c2⟩ := hc w' hf)
        | (go_at_call 60; refine (K2 _).mono ?_; rintro e w' ⟨rfl, rfl⟩)
      go_ret
      exact ⟨by first | rfl | (rw [hd]; rfl), hg.trans hf⟩
  · rw [hp] at K1
    by_cases h2 : 0 ≤ f.pad
    · have hd : padOk f = decide (f.pad ≤ 255) := by simp [padOk, hp, h2]
      go_enter Tryz.func46, Tryz.ntmps46
      go_wp2_with (go_at_call 59; refine K1.mono ?_; rintro e w' ⟨rfl, hf⟩; obtain ⟨c1, c2⟩ := hc w' hf)
      go_ret
      exact ⟨by first | rfl | (rw [hd]; rfl), hg.trans hf⟩
    · have hd : padOk f = false := by simp [padOk, hp]; omega
      go_enter Tryz.func46, Tryz.ntmps46
      go_wp2_with (go_at_call 59; refine K1.mono ?_; rintro e w' ⟨rfl, hf⟩; obtain ⟨c1, c2⟩ := hc w' hf)
      go_ret
      exact ⟨by first | rfl | (rw [hd]; rfl), hg.trans hf⟩

end Go.Proofs.YtpjbgjgaigkbcaaGreat
