/- Contract of the law's comparison of frames. -/
import Derived.Test.YthcjgjmbicnklaaFh
import Derived.BigQuiet
namespace Go.Proofs.Ythcjgjmbicnklaa
open Go.RowKit
set_option linter.unusedVariables false
set_option maxRecDepth 100000
set_option maxHeartbeats 4000000

theorem same_in (f : Fra) (p q p' q' : Option Addr) (cp cq cp' cq' : Nat) (w : World) (h1 : SrcAt w p f.X) (h2 : SrcAt w p' f.X) (h3 : SetsAt w q cq f.Y) (h4 : SetsAt w q' cq' f.Y) :
    Calls Try.prog 14 #[.agg #[.int .i64 f.k, .int .i64 f.fl, .int .i64 f.st, .slice p f.X.length cp, .int .i64 f.pad, .int .u32 f.code, .int .i64 f.last, .int .i64 f.inc, .int .i64 f.dep, .bool f.only, .int .i64 f.wt, .slice q f.Y.length cq], .agg #[.int .i64 f.k, .int .i64 f.fl, .int .i64 f.st, .slice p' f.X.length cp', .int .i64 f.pad, .int .u32 f.code, .int .i64 f.last, .int .i64 f.inc, .int .i64 f.dep, .bool f.only, .int .i64 f.wt, .slice q' f.Y.length cq']] w fun e w' => e = .returned (.bool true) ∧ Fr (fun _ => False) w w' := by
  obtain ⟨W, hW⟩ : ∃ W, W = (w.alloc (.cells #[.int .i64 f.k, .int .i64 f.fl, .int .i64 f.st, .slice p f.X.length cp, .int .i64 f.pad, .int .u32 f.code, .int .i64 f.last, .int .i64 f.inc, .int .i64 f.dep, .bool f.only, .int .i64 f.wt, .slice q f.Y.length cq] 26)).alloc (.cells #[.int .i64 f.k, .int .i64 f.fl, .int .i64 f.st, .slice p' f.X.length cp', .int .i64 f.pad, .int .u32 f.code, .int .i64 f.last, .int .i64 f.inc, .int .i64 f.dep, .bool f.only, .int .i64 f.wt, .slice q' f.Y.length cq'] 26) := ⟨_, rfl⟩
  have hfw : Fr (fun _ => False) w W := by rw [hW]; exact ((Fr.refl _ _).alloc _).alloc _
  have s1 : (convert 22 9 (.slice p f.X.length cp)).run Try.prog W = .ok (.string ⟨f.X.toArray⟩) W := (h1.oldF hfw).str rfl cp
  have s2 : (convert 22 9 (.slice p' f.X.length cp')).run Try.prog W = .ok (.string ⟨f.X.toArray⟩) W := (h2.oldF hfw).str rfl cp'
  have A1 : Hid (FAt W w.heap.size f p cp q cq) := by rw [hW]; exact past_at _ (heap_alloc_new w _)
  have A2 : Hid (FAt W (w.heap.size + 1) f p' cp' q' cq') := by rw [hW]; exact last_at _ (by simp)
  have HFW : Hid (Fr (fun _ => False) w W) := hfw
  have H3 : Hid (SetsAt w q cq f.Y) := h3
  have H4 : Hid (SetsAt w q' cq' f.Y) := h4
  have hfew := h3.few
  clear h1 h2 h3 h4 hfw
  rw [hW] at s1 s2
  go_enter Try.func14, Try.ntmps14
  go_wp2_with (fail)
  rw [← hW]
  clear s1 s2 hW
  have c11 : W.cell? ⟨w.heap.size, 11, none⟩ = some (.slice q f.Y.length cq) := cell_of_heap A1.out rfl
  have d11 : W.cell? ⟨w.heap.size + 1, 11, none⟩ = some (.slice q' f.Y.length cq') := cell_of_heap A2.out rfl
  go_loopw [5] (fun x5 wr => ∃ (i n : Nat), x5 = .int .i64 (i : Int) ∧ i ≤ f.Y.length ∧ wr = W.drewN n) (fun x5 _ => f.Y.length - (intOf x5).toNat)
  case atStart => exact ⟨0, 0, rfl, by omega, rfl⟩
  case round =>
    obtain ⟨i, nd, rfl, hi, rfl⟩ := hrel
    have hF : Fr (fun _ => False) w (W.drewN nd) := HFW.out.drewN nd
    have e11 : (W.drewN nd).cell? ⟨w.heap.size, 11, none⟩ = some (.slice q f.Y.length cq) := c11
    have g11 : (W.drewN nd).cell? ⟨w.heap.size + 1, 11, none⟩ = some (.slice q' f.Y.length cq') := d11
    by_cases hin : i < f.Y.length
    · obtain ⟨s, hs⟩ : ∃ s, f.Y[i]? = some s := ⟨f.Y[i], List.getElem?_eq_getElem hin⟩
      obtain ⟨b1, o1, rfl, -, x0, x1, -⟩ := (H3.out.later HFW.out).cells i s hs
      obtain ⟨b2, o2, rfl, -, y0, y1, -⟩ := (H4.out.later HFW.out).cells i s hs
      have hin2 : (i : Int) < (f.Y.length : Int) := by omega
      clear hF hs
      go_wp2_with (fail)
      go_quiet (fail)
      go_wp2_with (fail)
      go_roundw
      case rel => exact ⟨i + 1, _, by go_num, by omega, rfl⟩
      case measure => simp [intOf]; omega
    · have hin2 : ¬ (i : Int) < (f.Y.length : Int) := by omega
      go_wp2_with (fail)
      go_ret
      exact ⟨rfl, hF⟩
end Go.Proofs.Ythcjgjmbicnklaa
