/- A joiner of header blocks, plainly and in memory; contracts of its small questions. -/
import Derived.Test.YtdndhidinbmpdaaFy
import Derived.Test.YtdndhidinbmpdaaCl
import Derived.Test.YtdndhidinbmpdaaSt
import Derived.Test.YtdndhidinbmpdaaAv
import Derived.BigQuiet
import Derived.Deep.Upon
import Derived.Deep.Cut
import Derived.Deep.RegionHeldLaw
namespace Go.Proofs.Ytdndhidinbmpdaa
open Go.RowKit
set_option linter.unusedVariables false
set_option maxRecDepth 100000
set_option maxHeartbeats 4000000

/-- What is open: has it an end, of which stream. -/
abbrev Opn := Option (Bool × Int)
def opK : Opn → Int | none => 0 | some _ => 1
def opF : Opn → Int | none => 0 | some (e, _) => if e then 5 else 4
def opS : Opn → Int | none => 0 | some (_, s) => s
def endB (fl : Int) : Bool := decide (bits .and .i64 fl 1 = 1)
def doneB (fl : Int) : Bool := !decide (bits .and .i64 fl 4 = 0)
def follB (o : Opn) (f : Fra) : Bool := match o with | none => !decide (f.k = 9) | some (_, s) => decide (f.k = 9) && decide (f.st = s)
/-- The block that is told. -/
def wholeF (o : Opn) (H : List UInt8) : Fra := { zeroF with k := 1, fl := opF o, st := opS o, X := H }
/-- What In answers: a frame, is it told, the fault's code; and what is open and held behind it. -/
structure InO where
  f : Fra
  is : Bool
  code : Int
  o : Opn
  H : List UInt8
def inJ (m : Int) (o : Opn) (H : List UInt8) (f : Fra) : InO :=
  if follB o f = false then ⟨zeroF, false, 1, none, []⟩
  else if f.k ≠ 1 ∧ f.k ≠ 9 then ⟨f, true, 0, o, H⟩
  else if m - H.length < f.X.length then ⟨zeroF, false, 11, none, []⟩
  else
    let o' : Opn := if f.k = 1 then some (endB f.fl, f.st) else o
    if doneB f.fl = false then ⟨zeroF, false, 0, o', H ++ f.X⟩ else ⟨wholeF o' (H ++ f.X), true, 0, none, []⟩

def JC (w : World) (g : Nat) (m : Int) (o : Opn) (v : Value) : Prop := w.heap[g]? = some (.cells #[.bool true, .int .i64 m, .int .i64 (opK o), .int .i64 (opF o), .int .i64 (opS o), v] 56 (0, 0))
theorem JC.fr {S : Nat → Prop} {w w' : World} {g : Nat} {m : Int} {o : Opn} {v : Value} (h : JC w g m o v) (hf : Fr S w w') (hs : ¬ S g) : JC w' g m o v := (hf.block g (lt_of_heap h) hs).trans h
theorem jcells {w : World} {g : Nat} {m : Int} {o : Opn} {v : Value} (h : JC w g m o v) : w.cell? ⟨g, 0, none⟩ = some (.bool true) ∧ w.cell? ⟨g, 1, none⟩ = some (.int .i64 m) ∧ w.cell? ⟨g, 2, none⟩ = some (.int .i64 (opK o)) ∧ w.cell? ⟨g, 3, none⟩ = some (.int .i64 (opF o)) ∧ w.cell? ⟨g, 4, none⟩ = some (.int .i64 (opS o)) ∧ w.cell? ⟨g, 5, none⟩ = some v :=
  ⟨cell_of_heap h rfl, cell_of_heap h rfl, cell_of_heap h rfl, cell_of_heap h rfl, cell_of_heap h rfl, cell_of_heap h rfl⟩
theorem jfroz {w : World} {g : Nat} {m : Int} {o : Opn} {v : Value} (h : JC w g m o v) (i : Nat) : w.frozen? ⟨g, i, none⟩ = false := frozen_of_heap h
theorem heap_set {w : World} {g j : Nat} {cs : Array Value} {t : TypeId} (v : Value) (h : w.heap[g]? = some (.cells cs t (0, 0))) : (w.setCell ⟨g, j, none⟩ v).heap[g]? = some (.cells (cs.setIfInBounds j v) t (0, 0)) := by
  have hl := lt_of_heap h
  simp [World.setCell]
  rw [Array.getElem?_eq_getElem hl] at h
  simp at h
  simp [Array.modify, Array.modifyM, hl, h]

theorem made_cell (g : Nat) (b : Bool) (w : World) (h : w.cell? ⟨g, 0, none⟩ = some (.bool b)) : Calls Try.prog 20 #[.pointer (some ⟨g, 0, none⟩)] w fun e w' => e = .returned (.bool b) ∧ w = w' := by
  go_enter Try.func20, Try.ntmps20
  go_wp2_with (fail)
  go_ret
  exact ⟨rfl, rfl⟩
theorem made_nil (w : World) : Calls Try.prog 20 #[.pointer none] w fun e w' => e = .returned (.bool false) ∧ w = w' := by
  go_enter Try.func20, Try.ntmps20
  go_wp2_with (fail)
  go_ret
  exact ⟨rfl, rfl⟩

theorem drop_in (g : Nat) (m : Int) (o : Opn) (v : Value) (w : World) (h : JC w g m o v) : Calls Try.prog 28 #[.pointer (some ⟨g, 0, none⟩)] w fun e w' => e = .returned (.tuple #[]) ∧ JC w' g m none (.slice none 0 0) ∧ Fr (fun k => k = g) w w' := by
  obtain ⟨c0, c1, c2, c3, c4, c5⟩ := jcells h
  have z2 := jfroz h 2
  have z3 := jfroz h 3
  have z4 := jfroz h 4
  have z5 := jfroz h 5
  have HJ : Hid (JC w g m o v) := h
  clear h
  go_enter Try.func28, Try.ntmps28
  go_wp2_with (fail)
  go_end0
  refine ⟨rfl, ?_, ((((Fr.refl _ _).setB _ _).setB _ _).setB _ _).setB _ _⟩
  have h1 := heap_set (j := 2) (.int .i64 0) HJ.out
  have h2 := heap_set (j := 3) (.int .i64 0) h1
  have h3 := heap_set (j := 4) (.int .i64 0) h2
  have h4 := heap_set (j := 5) (.slice none 0 0) h3
  simpa [JC, opK, opF, opS] using h4

theorem Stream_in (g : Nat) (m : Int) (o : Opn) (v : Value) (w : World) (h : JC w g m o v) : Calls Try.prog 17 #[.pointer (some ⟨g, 0, none⟩)] w fun e w' => e = .returned (.int .i64 (opS o)) ∧ w = w' := by
  obtain ⟨c0, c1, c2, c3, c4, c5⟩ := jcells h
  have K := made_cell g true w c0
  go_enter Try.func17, Try.ntmps17
  go_wp2_with (fail)
  refine K.mono ?_
  rintro e w' ⟨rfl, rfl⟩
  go_wp2_with (fail)
  go_ret
  exact ⟨rfl, rfl⟩
theorem Held_in (g : Nat) (m : Int) (o : Opn) (p : Option Addr) (n c : Nat) (w : World) (h : JC w g m o (.slice p n c)) : Calls Try.prog 18 #[.pointer (some ⟨g, 0, none⟩)] w fun e w' => e = .returned (.int .i64 (n : Int)) ∧ w = w' := by
  obtain ⟨c0, c1, c2, c3, c4, c5⟩ := jcells h
  have K := made_cell g true w c0
  go_enter Try.func18, Try.ntmps18
  go_wp2_with (fail)
  refine K.mono ?_
  rintro e w' ⟨rfl, rfl⟩
  go_wp2_with (fail)
  go_ret
  exact ⟨rfl, rfl⟩
theorem Stream_nil (w : World) : Calls Try.prog 17 #[.pointer none] w fun e w' => e = .returned (.int .i64 0) ∧ w = w' := by
  have K := made_nil w
  go_enter Try.func17, Try.ntmps17
  go_wp2_with (fail)
  refine K.mono ?_
  rintro e w' ⟨rfl, rfl⟩
  go_wp2_with (fail)
  go_ret
  exact ⟨rfl, rfl⟩
theorem Held_zero (g : Nat) (w : World) (h : w.cell? ⟨g, 0, none⟩ = some (.bool false)) : Calls Try.prog 18 #[.pointer (some ⟨g, 0, none⟩)] w fun e w' => e = .returned (.int .i64 0) ∧ w = w' := by
  have K := made_cell g false w h
  go_enter Try.func18, Try.ntmps18
  go_wp2_with (fail)
  refine K.mono ?_
  rintro e w' ⟨rfl, rfl⟩
  go_wp2_with (fail)
  go_ret
  exact ⟨rfl, rfl⟩

theorem follows_in (g : Nat) (m : Int) (o : Opn) (v : Value) (f : Fra) (p q : Option Addr) (cp cq : Nat) (w : World) (h : JC w g m o v) :
    Calls Try.prog 21 #[.pointer (some ⟨g, 0, none⟩), .agg #[.int .i64 f.k, .int .i64 f.fl, .int .i64 f.st, .slice p f.X.length cp, .int .i64 f.pad, .int .u32 f.code, .int .i64 f.last, .int .i64 f.inc, .int .i64 f.dep, .bool f.only, .int .i64 f.wt, .slice q f.Y.length cq]] w fun e w' => e = .returned (.bool (follB o f)) ∧ Fr (fun _ => False) w w' := by
  obtain ⟨W, hW⟩ : ∃ W, W = w.alloc (.cells #[.int .i64 f.k, .int .i64 f.fl, .int .i64 f.st, .slice p f.X.length cp, .int .i64 f.pad, .int .u32 f.code, .int .i64 f.last, .int .i64 f.inc, .int .i64 f.dep, .bool f.only, .int .i64 f.wt, .slice q f.Y.length cq] 34) := ⟨_, rfl⟩
  have hfw : Fr (fun _ => False) w W := by rw [hW]; exact (Fr.refl _ _).alloc _
  have A1 : FAt W w.heap.size f p cp q cq := by rw [hW]; exact heap_alloc_new w _
  obtain ⟨c0, c1, c2, c3, c4, c5⟩ := jcells (h.fr hfw id)
  obtain ⟨d0, d1, d2, d3, d4, d5, d6, d7, d8, d9, d10, d11⟩ := fcells A1
  have HFW : Hid (Fr (fun _ => False) w W) := hfw
  clear hfw A1 h
  cases o with
  | none =>
    dsimp only [opK, opF, opS, follB] at c2 c3 c4 ⊢
    go_enter Try.func21, Try.ntmps21
    go_upto_region 1 with (fail)
    rw [← hW]
    clear hW
    by_cases hk : f.k = 9
    · have hk2 : decide (f.k = 9) = true := by simpa using hk
      go_wp2_with (fail)
      go_ret
      exact ⟨by simp [hk], HFW.out⟩
    · have hk2 : decide (f.k = 9) = false := by simpa using hk
      go_wp2_with (fail)
      go_ret
      exact ⟨by simp [hk], HFW.out⟩
  | some x =>
    obtain ⟨en, s⟩ := x
    dsimp only [opK, opF, opS, follB] at c2 c3 c4 ⊢
    generalize (if en = true then (5 : Int) else 4) = F at c3
    go_enter Try.func21, Try.ntmps21
    go_upto_region 1 with (fail)
    rw [← hW]
    clear hW
    by_cases hk : f.k = 9
    · have hk2 : decide (f.k = 9) = true := by simpa using hk
      go_wp2_with (fail)
      go_quiet (fail)
      go_wp2_with (fail)
      go_ret
      exact ⟨by simp [hk] <;> rfl, HFW.out.drewN _⟩
    · have hk2 : decide (f.k = 9) = false := by simpa using hk
      go_wp2_with (fail)
      go_quiet (fail)
      go_wp2_with (fail)
      go_ret
      exact ⟨by simp [hk] <;> rfl, HFW.out.drewN _⟩
end Go.Proofs.Ytdndhidinbmpdaa
