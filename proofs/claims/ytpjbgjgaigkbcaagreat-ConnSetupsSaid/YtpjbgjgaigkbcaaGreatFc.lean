/- Contract of the program's list of a frame's parts. -/
import Derived.Test.YtpjbgjgaigkbcaaGreatFb
import Derived.Laws.EntriesVeiled
namespace Go.Proofs.YtpjbgjgaigkbcaaGreat
open Go.RowKit
set_option linter.unusedVariables false
set_option maxRecDepth 100000
set_option maxHeartbeats 4000000

/-- The functions that write and read a part. -/
def wfn (j : Nat) : Nat := if j = 0 then 67 else if j = 1 then 69 else if j = 2 then 71 else if j = 3 then 73 else if j = 4 then 75 else if j = 5 then 77 else 78
def rfn (j : Nat) : Nat := if j = 0 then 68 else if j = 1 then 70 else if j = 2 then 72 else if j = 3 then 74 else if j = 4 then 76 else if j = 5 then 74 else 79
def partCells (j : Nat) : List Value := [.int .i64 (sizeP j : Nat), .func (.func (wfn j)) #[] #[], .func (.func (rfn j)) #[] #[]]
/-- Parts in memory. -/
def PartsAt (w : World) (sp : Option Addr) (js : List Nat) : Prop := js = [] ∨ ∃ g, sp = some ⟨g, 0, none⟩ ∧ w.heap[g]? = some (.cells ((js.map partCells).flatten).toArray 152 (0, 0))
theorem PartsAt.later {w w' : World} {sp : Option Addr} {js : List Nat} (h : PartsAt w sp js) (hf : Fr (fun _ => False) w w') : PartsAt w' sp js := by
  rcases h with h | ⟨g, h1, h2⟩
  · exact .inl h
  · exact .inr ⟨g, h1, (hf.block g (lt_of_heap h2) id).trans h2⟩

theorem parts_in (f : Fra) (p q : Option Addr) (cp cq : Nat) (w : World) (h0 : 0 ≤ f.fl) (h1 : f.fl ≤ 255) : Calls Tryz.prog 61 #[.agg #[.int .i64 f.k, .int .i64 f.fl, .int .i64 f.st, .slice p f.X.length cp, .int .i64 f.pad, .int .u32 f.code, .int .i64 f.last, .int .i64 f.inc, .int .i64 f.dep, .bool f.only, .int .i64 f.wt, .slice q f.Y.length cq]] w fun e w' => (∃ sp, e = .returned (.slice sp (partsOf f).length (partsOf f).length) ∧ PartsAt w' sp (partsOf f)) ∧ Fr (fun _ => False) w w' := by
  have hb := and32 h0 h1
  rcases kinds f.k with h | h | h | h | h | h | h | h | h | h | ⟨n0, n1, n2, n3, n4, n5, n6, n7, n8, n9⟩
  case' inr.inl =>
    cases hh : has f.fl 32
    case' false =>
      rw [hh] at hb
      have hb : bits .and .i64 f.fl 32 = 0 := hb
      have hd : partsOf f = [3] := by simp [partsOf, h, hh]
    case' true =>
      rw [hh] at hb
      have hb : bits .and .i64 f.fl 32 = 32 := hb
      have hd : partsOf f = [2, 3] := by simp [partsOf, h, hh]
  case' inl => have hd : partsOf f = [3] := by simp [partsOf, h]
  case' inr.inr.inl => have hd : partsOf f = [2] := by simp [partsOf, h]
  case' inr.inr.inr.inl => have hd : partsOf f = [1] := by simp [partsOf, h]
  case' inr.inr.inr.inr.inl => have hd : partsOf f = [4] := by simp [partsOf, h]
  case' inr.inr.inr.inr.inr.inl => have hd : partsOf f = [0, 3] := by simp [partsOf, h]
  case' inr.inr.inr.inr.inr.inr.inl => have hd : partsOf f = [5] := by simp [partsOf, h]
  case' inr.inr.inr.inr.inr.inr.inr.inl => have hd : partsOf f = [0, 1, 3] := by simp [partsOf, h]
  case' inr.inr.inr.inr.inr.inr.inr.inr.inl => have hd : partsOf f = [6] := by simp [partsOf, h]
  case' inr.inr.inr.inr.inr.inr.inr.inr.inr.inl => have hd : partsOf f = [3] := by simp [partsOf, h]
  case' inr.inr.inr.inr.inr.inr.inr.inr.inr.inr => have hd : partsOf f = [] := by simp [partsOf, *]
  all_goals
    rw [hd]
    clear hd
    go_enter Tryz.func61, Tryz.ntmps61
    go_wp2
    go_ret
    refine ⟨⟨_, rfl, ?_⟩, ?_⟩
    · first
        | exact .inl rfl
        | exact .inr ⟨_, rfl, (last_at _ (by simp)).trans rfl⟩
    · repeat (first | exact Fr.refl _ _ | refine Fr.alloc ?_ _)
end Go.Proofs.YtpjbgjgaigkbcaaGreat
