/- Cuts of slices of bytes. -/
import Derived.Test.YtdndhidinbmpdaaGf
namespace Go.Proofs.Ytdndhidinbmpdaa
open Go.RowKit
set_option linter.unusedVariables false
set_option maxRecDepth 100000
set_option maxHeartbeats 4000000

theorem addr_add (a : Addr) (k j : Nat) : (a.add k).add j = a.add (k + j) := by
  unfold Addr.add
  by_cases h1 : k = 0
  · subst h1; simp
  · by_cases h2 : j = 0
    · subst h2; simp [h1]
    · simp [h1, h2, Nat.add_assoc]
/-- A cut from the beginning. -/
theorem cutUpto (a : Option Addr) (len cap hi : Nat) (h2 : hi ≤ cap) : ∀ w, (Instr.slice 22 (.slice a len cap) none (some (.int .i64 (hi : Int))) none).run Try.prog w = .ok (.slice a hi cap) w := by
  intro w
  have hsz : (Try.prog.info? 5).map (·.size) = some 1 := by kernel_rfl
  have hb1 := run_sliceBound (P := Try.prog) (w := w) .i64 (hi : Int) cap .sliceAcap (by omega) (by omega)
  have ha : ∀ ad : Addr, ad.add 0 = ad := fun ad => by simp [Addr.add]
  cases hi5 : Try.prog.info? 5 with
  | none => simp [hi5] at hsz
  | some i => cases a <;> simp [Instr.slice, run_underlying Try.underlying22, Instr.sliceBounds, hb1, sizeOf, typeInfo, hi5, ha]
/-- A cut from lo on. -/
theorem cutF (a : Option Addr) (len cap lo : Nat) (b : List UInt8) (hl : b.length = len) (hc : len ≤ cap) (h1 : lo ≤ len) : ∃ dp : Option Addr,
    (∀ w, (Instr.slice 22 (.slice a len cap) (some (.int .i64 (lo : Int))) none none).run Try.prog w = .ok (.slice dp (len - lo) (cap - lo)) w) ∧
    (∀ w, SrcAt w a b → SrcAt w dp (b.drop lo)) := by
  have hsz : (Try.prog.info? 5).map (·.size) = some 1 := by kernel_rfl
  have hb3 := fun w => run_sliceBound (P := Try.prog) (w := w) .i64 (lo : Int) len .sliceB (by omega) (by omega)
  cases hi5 : Try.prog.info? 5 with
  | none => simp [hi5] at hsz
  | some i =>
  have h1' : i.size = 1 := by simpa [hi5] using hsz
  cases a with
  | none =>
    refine ⟨none, fun w => ?_, fun w hs => ?_⟩
    · simp [Instr.slice, run_underlying Try.underlying22, Instr.sliceBounds, hb3, sizeOf, typeInfo, hi5]
    · have h0 : b = [] := by
        cases b with
        | nil => rfl
        | cons x r => obtain ⟨ad, e, _⟩ := hs 0 x rfl; cases e
      subst h0
      simpa using SrcAt.nil w none
  | some ad =>
    refine ⟨if cap = lo then some ad else some (ad.add lo), fun w => ?_, fun w hs => ?_⟩
    · simp [Instr.slice, run_underlying Try.underlying22, Instr.sliceBounds, hb3, sizeOf, typeInfo, hi5, h1']
    · by_cases he : cap = lo
      · rw [if_pos he, List.drop_of_length_le (by omega)]
        exact SrcAt.nil _ _
      · rw [if_neg he]
        intro j c hj
        rw [List.getElem?_drop] at hj
        obtain ⟨ad', e, hcell⟩ := hs (lo + j) c hj
        cases e
        exact ⟨_, rfl, by rw [addr_add]; exact hcell⟩
/-- A cut from lo to hi. -/
theorem cutM (a : Option Addr) (len cap lo hi : Nat) (b : List UInt8) (hl : b.length = len) (hc : len ≤ cap) (h1 : lo ≤ hi) (h2 : hi ≤ len) : ∃ dp : Option Addr,
    (∀ w, (Instr.slice 22 (.slice a len cap) (some (.int .i64 (lo : Int))) (some (.int .i64 (hi : Int))) none).run Try.prog w = .ok (.slice dp (hi - lo) (cap - lo)) w) ∧
    (∀ w, SrcAt w a b → SrcAt w dp ((b.drop lo).take (hi - lo))) := by
  have hsz : (Try.prog.info? 5).map (·.size) = some 1 := by kernel_rfl
  have hb1 := fun w => run_sliceBound (P := Try.prog) (w := w) .i64 (hi : Int) cap .sliceAcap (by omega) (by omega)
  have hb3 := fun w => run_sliceBound (P := Try.prog) (w := w) .i64 (lo : Int) hi .sliceB (by omega) (by omega)
  cases hi5 : Try.prog.info? 5 with
  | none => simp [hi5] at hsz
  | some i =>
  have h1' : i.size = 1 := by simpa [hi5] using hsz
  cases a with
  | none =>
    refine ⟨none, fun w => ?_, fun w hs => ?_⟩
    · simp [Instr.slice, run_underlying Try.underlying22, Instr.sliceBounds, hb1, hb3, sizeOf, typeInfo, hi5]
    · have h0 : b = [] := by
        cases b with
        | nil => rfl
        | cons x r => obtain ⟨ad, e, _⟩ := hs 0 x rfl; cases e
      subst h0
      simpa using SrcAt.nil w none
  | some ad =>
    refine ⟨if cap = lo then some ad else some (ad.add lo), fun w => ?_, fun w hs => ?_⟩
    · simp [Instr.slice, run_underlying Try.underlying22, Instr.sliceBounds, hb1, hb3, sizeOf, typeInfo, hi5, h1']
    · by_cases he : cap = lo
      · rw [if_pos he, List.drop_of_length_le (by omega)]
        simpa using SrcAt.nil w (some ad)
      · rw [if_neg he]
        refine SrcAt.take (X := b.drop lo) ?_ _
        intro j c hj
        rw [List.getElem?_drop] at hj
        obtain ⟨ad', e, hcell⟩ := hs (lo + j) c hj
        cases e
        exact ⟨_, rfl, by rw [addr_add]; exact hcell⟩
end Go.Proofs.Ytdndhidinbmpdaa
