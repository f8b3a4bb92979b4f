/- The walk of FrameWrites. -/
import Derived.Test.YthcjgjmbicnklaaRi
namespace Go.Proofs.Ythcjgjmbicnklaa
open Go.RowKit
set_option linter.unusedVariables false
set_option maxRecDepth 100000
set_option maxHeartbeats 4000000

theorem writes_walk (f : Fra) (p q : Option Addr) (cp cq : Nat) (w : World) (hI : FrIn w f p q cq) :
    Calls Try.prog 3 #[.agg #[.int .i64 f.k, .int .i64 f.fl, .int .i64 f.st, .slice p f.X.length cp, .int .i64 f.pad, .int .u32 f.code, .int .i64 f.last, .int .i64 f.inc, .int .i64 f.dep, .bool f.only, .int .i64 f.wt, .slice q f.Y.length cq]] w fun e w' => e = .returned (.bool true) ∧ Below w.heap.size w w' := by
  obtain ⟨W, hW⟩ : ∃ W, W = w.alloc (.cells #[.int .i64 f.k, .int .i64 f.fl, .int .i64 f.st, .slice p f.X.length cp, .int .i64 f.pad, .int .u32 f.code, .int .i64 f.last, .int .i64 f.inc, .int .i64 f.dep, .bool f.only, .int .i64 f.wt, .slice q f.Y.length cq] 26) := ⟨_, rfl⟩
  have HFW : Hid (Fr (fun _ => False) w W) := by rw [hW]; exact (Fr.refl _ _).alloc _
  have HF : Hid (FAt W w.heap.size f p cp q cq) := by rw [hW]; exact heap_alloc_new w _
  have KW : Hid (Calls Try.prog 9 #[.agg #[.int .i64 f.k, .int .i64 f.fl, .int .i64 f.st, .slice p f.X.length cp, .int .i64 f.pad, .int .u32 f.code, .int .i64 f.last, .int .i64 f.inc, .int .i64 f.dep, .bool f.only, .int .i64 f.wt, .slice q f.Y.length cq]] W fun e w' => WroteAs W (writeO f) e w') := Write_in f p q cp cq W (hI.later HFW.out)
  have KR : Hid (∀ w', Fr (fun _ => False) W w' → Calls Try.prog 10 #[.agg #[.int .i64 f.k, .int .i64 f.fl, .int .i64 f.st, .slice p f.X.length cp, .int .i64 f.pad, .int .u32 f.code, .int .i64 f.last, .int .i64 f.inc, .int .i64 f.dep, .bool f.only, .int .i64 f.wt, .slice q f.Y.length cq]] w' fun e w2 => WroteAs w' (writeO f) e w2) := fun w' hf => rWrite_in f p q cp cq w' ((hI.later HFW.out).later hf)
  obtain ⟨E, hE⟩ : ∃ E, (writeO f).1 = E := ⟨_, rfl⟩
  obtain ⟨B, hB⟩ : ∃ B, (writeO f).2 = B := ⟨_, rfl⟩
  have hpair : writeO f = (E, B) := by rw [← hE, ← hB]
  rw [hpair] at KW KR
  clear hpair hE hB hI
  go_enter Try.func3, Try.ntmps3
  go_wp2_with (fail)
  rw [← hW]
  clear hW
  refine KW.out.mono ?_
  rintro e w1 ⟨a, n, d, rfl, hn, hG⟩
  dsimp only at hn hG ⊢
  have G1 : Hid (Gath W w1 (.slice a n d) B ∧ B.length = n) := ⟨hG, hn⟩
  clear hG hn
  obtain ⟨c0, c1, c2, c3, c4, c5, c6, c7, c8, c9, c10, c11⟩ := fcells (HF.out.later G1.out.1.2.2)
  go_wp2_with (fail)
  refine (KR.out _ G1.out.1.2.2).mono ?_
  rintro e w2 ⟨a2, n2, d2, rfl, hn2, hG2⟩
  dsimp only at hn2 hG2 ⊢
  have G2 : Hid (Gath w1 w2 (.slice a2 n2 d2) B ∧ B.length = n2) := ⟨hG2, hn2⟩
  clear hG2 hn2 c0 c1 c2 c3 c4 c5 c6 c7 c8 c9 c10 c11
  have s1 : (convert 22 9 (.slice a n d)).run Try.prog w2 = .ok (.string ⟨B.toArray⟩) w2 := ((own_src G1.out.1.1).oldF G2.out.1.2.2).str G1.out.2 d
  have s2 : (convert 22 9 (.slice a2 n2 d2)).run Try.prog w2 = .ok (.string ⟨B.toArray⟩) w2 := (own_src G2.out.1.1).str G2.out.2 d2
  go_wp2_with (fail)
  refine (fawake_in _).mono ?_
  rintro e w3 ⟨rfl, rfl⟩
  go_wp2
  go_ret
  exact ⟨rfl, (((HFW.out.trans G1.out.1.2.2).trans G2.out.1.2.2)).below (fun _ _ => id)⟩
end Go.Proofs.Ythcjgjmbicnklaa
