/- The walk of FrameShort. -/
import Derived.Test.YthcjgjmbicnklaaFj
import Derived.Test.YthcjgjmbicnklaaFp
import Derived.Test.YthcjgjmbicnklaaPm
import Derived.Test.YthcjgjmbicnklaaSm
namespace Go.Proofs.Ythcjgjmbicnklaa
open Go.RowKit
set_option linter.unusedVariables false
set_option maxRecDepth 100000
set_option maxHeartbeats 4000000

/-- A cut from the beginning. -/
theorem cutTo (a : Option Addr) (len cap hi : Nat) (h2 : hi ≤ cap) : ∀ w, (Instr.slice 22 (.slice a len cap) none (some (.int .i64 (hi : Int))) none).run Try.prog w = .ok (.slice a hi cap) w := by
  intro w
  have hsz : (Try.prog.info? 5).map (·.size) = some 1 := by kernel_rfl
  have hb1 := run_sliceBound (P := Try.prog) (w := w) .i64 (hi : Int) cap .sliceAcap (by omega) (by omega)
  have ha : ∀ ad : Addr, ad.add 0 = ad := fun ad => by simp [Addr.add]
  cases hi5 : Try.prog.info? 5 with
  | none => simp [hi5] at hsz
  | some i => cases a <;> simp [Instr.slice, run_underlying Try.underlying22, Instr.sliceBounds, hb1, sizeOf, typeInfo, hi5, ha]

theorem short_walk (f : Fra) (p q : Option Addr) (cp cq c : Nat) (w : World) (hI : FrIn w f p q cq) (hc : c ≤ 65535) :
    Calls Try.prog 6 #[.agg #[.int .i64 f.k, .int .i64 f.fl, .int .i64 f.st, .slice p f.X.length cp, .int .i64 f.pad, .int .u32 f.code, .int .i64 f.last, .int .i64 f.inc, .int .i64 f.dep, .bool f.only, .int .i64 f.wt, .slice q f.Y.length cq], .int .u16 (c : Int)] w fun e w' => e = .returned (.bool true) ∧ Below w.heap.size w w' := by
  obtain ⟨W, hW⟩ : ∃ W, W = w.alloc (.cells #[.int .i64 f.k, .int .i64 f.fl, .int .i64 f.st, .slice p f.X.length cp, .int .i64 f.pad, .int .u32 f.code, .int .i64 f.last, .int .i64 f.inc, .int .i64 f.dep, .bool f.only, .int .i64 f.wt, .slice q f.Y.length cq] 26) := ⟨_, rfl⟩
  have HFW : Hid (Fr (fun _ => False) w W) := by rw [hW]; exact (Fr.refl _ _).alloc _
  have KW : Hid (Calls Try.prog 9 #[.agg #[.int .i64 f.k, .int .i64 f.fl, .int .i64 f.st, .slice p f.X.length cp, .int .i64 f.pad, .int .u32 f.code, .int .i64 f.last, .int .i64 f.inc, .int .i64 f.dep, .bool f.only, .int .i64 f.wt, .slice q f.Y.length cq]] W fun e w' => WroteAs W (writeO f) e w') := Write_in f p q cp cq W (hI.later HFW.out)
  obtain ⟨E, hE⟩ : ∃ E, (writeO f).1 = E := ⟨_, rfl⟩
  obtain ⟨B, hB⟩ : ∃ B, (writeO f).2 = B := ⟨_, rfl⟩
  rw [show writeO f = (E, B) by rw [← hE, ← hB]] at KW
  clear hI
  by_cases h0 : E = 0
  case neg =>
    have hne : (E != 0) = true := by simpa using h0
    clear h0
    go_enter Try.func6, Try.ntmps6
    go_wp2_with (fail)
    rw [← hW]
    refine KW.out.mono ?_
    rintro e w1 ⟨a, n, d, rfl, hn, hG⟩
    have F1 : Hid (Fr (fun _ => False) w w1) := HFW.out.trans hG.2.2
    clear hG
    dsimp only
    go_wp2_with (fail)
    refine (fawake_in _).mono ?_
    rintro e w2 ⟨rfl, rfl⟩
    go_wp2
    go_ret
    exact ⟨rfl, F1.out.below (fun _ _ => id)⟩
  case pos =>
    subst h0
    obtain ⟨h1, h2, h3, h4, h5, h6⟩ := writeO_ok hE
    have hlen9 : 9 ≤ B.length := by rw [← hB, h6, List.length_append, headB_len]; omega
    have hlenb : B.length ≤ 16777224 := by rw [← hB, h6, List.length_append, headB_len]; omega
    obtain ⟨n, hn⟩ : ∃ n, B.length = n := ⟨_, rfl⟩
    obtain ⟨m, hm⟩ : ∃ m, c % n = m := ⟨_, rfl⟩
    have hmn : m < n := by rw [← hm]; exact Nat.mod_lt _ (by omega)
    have hps : parseO (B.take m) 16777215 = (zeroF, 0, ⟨false, 0, 0⟩, 3) := by
      rw [← hB]
      exact parse_short hE m (by rw [hB, hn]; exact hmn)
    have hr : (c : Int) % (n : Int) = (m : Int) := by rw [← hm]; simp
    have hnz : ((n : Int) == 0) = false := by simp; omega
    have hn0 : ¬ n = 0 := by omega
    have hnb : n ≤ 16777224 := by omega
    have KP : Hid (∀ a d w', Gath W w' (.slice a n d) B → Calls Try.prog 12 #[.slice a m d, .int .i64 16777215] w' fun e w2 => ∃ p9 k9 q9 d9, e = .returned (.tuple #[.agg #[.int .i64 0, .int .i64 0, .int .i64 0, .slice p9 0 k9, .int .i64 0, .int .u32 0, .int .i64 0, .int .i64 0, .int .i64 0, .bool false, .int .i64 0, .slice q9 0 d9], .int .i64 0, .agg #[.bool false, .int .i64 0, .int .i64 0], .int .i64 3]) ∧ SetsAt w2 q9 d9 [] ∧ Fr (fun _ => False) w' w2) := fun a d w' hG => by
      have hl := own_len hG.1
      have h := Parse_in a m d (B.take m) 16777215 w' ((own_src hG.1).take m) (by rw [List.length_take]; omega) (by omega) (by omega) (by decide)
      rw [hps] at h
      refine h.mono ?_
      rintro e w2 ⟨p9, k9, q9, d9, rfl, -, hY, hf⟩
      exact ⟨p9, k9, q9, d9, rfl, hY, hf⟩
    have HN : Hid (B.length = n) := hn
    clear hE hB h1 h2 h3 h4 h5 h6 hlen9 hlenb hps hn
    go_enter Try.func6, Try.ntmps6
    go_wp2_with (fail)
    rw [← hW]
    refine KW.out.mono ?_
    rintro e w1 ⟨a, n', d, rfl, hn', hG⟩
    dsimp only at hn' hG ⊢
    rw [HN.out] at hn'
    subst hn'
    have G1 : Hid (Gath W w1 (.slice a n d) B) := hG
    have hcut := cutTo a n d m (by have := (own_len hG.1).2; omega)
    clear hG
    go_wp2_with (fail)
    refine (KP.out a d w1 G1.out).mono ?_
    rintro e w2 ⟨p9, k9, q9, d9, rfl, hY9, hf2⟩
    have F2 : Hid (Fr (fun _ => False) w w2 ∧ SetsAt w2 q9 d9 []) := ⟨(HFW.out.trans G1.out.2.2).trans hf2, hY9⟩
    clear hY9 hf2
    have KS : Hid (∀ w', Fr (fun _ => False) w2 w' → Calls Try.prog 14 #[.agg #[.int .i64 0, .int .i64 0, .int .i64 0, .slice p9 0 k9, .int .i64 0, .int .u32 0, .int .i64 0, .int .i64 0, .int .i64 0, .bool false, .int .i64 0, .slice q9 0 d9], .agg #[.int .i64 0, .int .i64 0, .int .i64 0, .slice none 0 0, .int .i64 0, .int .u32 0, .int .i64 0, .int .i64 0, .int .i64 0, .bool false, .int .i64 0, .slice none 0 0]] w' fun e w3 => e = .returned (.bool true) ∧ Fr (fun _ => False) w' w3) := fun w' hf => same_in zeroF p9 q9 none none k9 d9 0 0 w' (SrcAt.nil _ _) (SrcAt.nil _ _) (F2.out.2.later hf) (SetsAt.nil _)
    go_wp2_with (fail)
    refine (KS.out _ (((Fr.refl _ _).alloc _).alloc _)).mono ?_
    rintro e w3 ⟨rfl, hf3⟩
    have F3 : Hid (Fr (fun _ => False) w w3) := F2.out.1.trans ((((Fr.refl _ _).alloc _).alloc _).trans hf3)
    clear hf3
    go_wp2_with (fail)
    refine (fawake_in _).mono ?_
    rintro e w4 ⟨rfl, rfl⟩
    go_wp2
    go_ret
    exact ⟨rfl, F3.out.below (fun _ _ => id)⟩
end Go.Proofs.Ythcjgjmbicnklaa
