/- Frames, plainly, and frames in memory. -/
import Derived.Test.YtpjbgjgaigkbcaaGreatGf
import Derived.Test.YtpjbgjgaigkbcaaGreatFs
import Derived.Test.YtpjbgjgaigkbcaaGreatRx
import Derived.Deep.DeepAppendWide
namespace Go.Proofs.YtpjbgjgaigkbcaaGreat
open Go.RowKit
set_option linter.unusedVariables false
set_option maxRecDepth 100000
set_option maxHeartbeats 4000000

/-- A frame. -/
structure Fra where
  k : Int
  fl : Int
  st : Int
  X : List UInt8
  pad : Int
  code : Nat
  last : Int
  inc : Int
  dep : Int
  only : Bool
  wt : Int
  Y : List (Int × Nat)
/-- A frame's numbers are such as fit, and its payload and settings lie in memory. -/
structure FrIn (w : World) (f : Fra) (p : Option Addr) (q : Option Addr) (cq : Nat) : Prop where
  src : SrcAt w p f.X
  sets : SetsAt w q cq f.Y
  few : f.X.length < 2 ^ 47
  code : f.code < 4294967296
  k : (Lit.int .i64 f.k).wf = true
  fl : (Lit.int .i64 f.fl).wf = true
  st : (Lit.int .i64 f.st).wf = true
  pad : (Lit.int .i64 f.pad).wf = true
  last : (Lit.int .i64 f.last).wf = true
  inc : (Lit.int .i64 f.inc).wf = true
  dep : (Lit.int .i64 f.dep).wf = true
  wt : (Lit.int .i64 f.wt).wf = true
theorem FrIn.later {w w' : World} {f : Fra} {p q : Option Addr} {cq : Nat} (h : FrIn w f p q cq) (hf : Fr (fun _ => False) w w') : FrIn w' f p q cq :=
  { h with src := h.src.oldF hf, sets := h.sets.later hf }
def zeroF : Fra := ⟨0, 0, 0, [], 0, 0, 0, 0, 0, false, 0, []⟩
/-- What is wrong: is anything, of which stream, by which code. -/
structure Flt where
  is : Bool
  st : Int
  code : Int
theorem i64r {v : Int} (hv : (Lit.int .i64 v).wf = true) : -9223372036854775808 ≤ v ∧ v ≤ 9223372036854775807 := by
  have h2 : IntKind.i64.min ≤ v ∧ v ≤ IntKind.i64.max := by simpa [Lit.wf] using hv
  exact h2
theorem i64w {v : Int} (h : -9223372036854775808 ≤ v) (h' : v ≤ 9223372036854775807) : (Lit.int .i64 v).wf = true := by
  have h2 : IntKind.i64.min ≤ v ∧ v ≤ IntKind.i64.max := ⟨h, h'⟩
  simpa [Lit.wf] using h2
/-- A frame lies in the block g. -/
def FAt (w : World) (g : Nat) (f : Fra) (p : Option Addr) (cp : Nat) (q : Option Addr) (cq : Nat) : Prop := w.heap[g]? = some (.cells #[.int .i64 f.k, .int .i64 f.fl, .int .i64 f.st, .slice p f.X.length cp, .int .i64 f.pad, .int .u32 f.code, .int .i64 f.last, .int .i64 f.inc, .int .i64 f.dep, .bool f.only, .int .i64 f.wt, .slice q f.Y.length cq] 66 (0, 0))
theorem FAt.later {w w' : World} {g : Nat} {f : Fra} {p q : Option Addr} {cp cq : Nat} (h : FAt w g f p cp q cq) (hf : Fr (fun _ => False) w w') : FAt w' g f p cp q cq := (hf.block g (lt_of_heap h) id).trans h
theorem fcells {w : World} {g : Nat} {f : Fra} {p q : Option Addr} {cp cq : Nat} (h : FAt w g f p cp q cq) : w.cell? ⟨g, 0, none⟩ = some (.int .i64 f.k) ∧ w.cell? ⟨g, 1, none⟩ = some (.int .i64 f.fl) ∧ w.cell? ⟨g, 2, none⟩ = some (.int .i64 f.st) ∧ w.cell? ⟨g, 3, none⟩ = some (.slice p f.X.length cp) ∧ w.cell? ⟨g, 4, none⟩ = some (.int .i64 f.pad) ∧ w.cell? ⟨g, 5, none⟩ = some (.int .u32 f.code) ∧ w.cell? ⟨g, 6, none⟩ = some (.int .i64 f.last) ∧ w.cell? ⟨g, 7, none⟩ = some (.int .i64 f.inc) ∧ w.cell? ⟨g, 8, none⟩ = some (.int .i64 f.dep) ∧ w.cell? ⟨g, 9, none⟩ = some (.bool f.only) ∧ w.cell? ⟨g, 10, none⟩ = some (.int .i64 f.wt) ∧ w.cell? ⟨g, 11, none⟩ = some (.slice q f.Y.length cq) :=
  ⟨cell_of_heap h rfl, cell_of_heap h rfl, cell_of_heap h rfl, cell_of_heap h rfl, cell_of_heap h rfl, cell_of_heap h rfl, cell_of_heap h rfl, cell_of_heap h rfl, cell_of_heap h rfl, cell_of_heap h rfl, cell_of_heap h rfl, cell_of_heap h rfl⟩
theorem srcB_lt {w : World} {p : Option Addr} {X : List UInt8} (hs : SrcAt w p X) : ∀ ad, p = some ad → 0 < X.length → ad.block < w.heap.size := by
  intro ad e hl
  obtain ⟨ad', e', hc⟩ := hs 0 X[0] (by simp)
  rw [e] at e'
  cases e'
  have := World.block_lt_of_cell? _ _ hc
  have hb : (ad.add 0).block = ad.block := by unfold Addr.add; split <;> rfl
  omega
theorem sets_lt {w : World} {q : Option Addr} {cq : Nat} {Y : List (Int × Nat)} (hs : SetsAt w q cq Y) : ∀ ad, q = some ad → 0 < Y.length → ad.block < w.heap.size := by
  intro ad e hl
  obtain ⟨b, o, e', hb, -⟩ := hs.cells 0 Y[0] (by simp)
  rw [e] at e'
  cases e'
  exact hb
/-- A frame, and where its payload and its settings lie. -/
abbrev FM := Fra × Option Addr × Nat × Option Addr × Nat
def fcl (z : FM) : List Value := [.int .i64 z.1.k, .int .i64 z.1.fl, .int .i64 z.1.st, .slice z.2.1 z.1.X.length z.2.2.1, .int .i64 z.1.pad, .int .u32 z.1.code, .int .i64 z.1.last, .int .i64 z.1.inc, .int .i64 z.1.dep, .bool z.1.only, .int .i64 z.1.wt, .slice z.2.2.2.1 z.1.Y.length z.2.2.2.2]
def xcl (x : Flt) : List Value := [.bool x.is, .int .i64 x.st, .int .i64 x.code]
def frows (ls : List FM) : List Value := (ls.map fcl).flatten
theorem frows_snoc (ls : List FM) (z : FM) : frows (ls ++ [z]) = frows ls ++ fcl z := by simp [frows]
theorem fcl_one (z : FM) : ∀ u ∈ fcl z, u.oneCell' = true := by intro u hu; simp [fcl] at hu; rcases hu with h | h | h | h | h | h | h | h | h | h | h | h <;> subst h <;> rfl
theorem xcl_one (z : Flt) : ∀ u ∈ xcl z, u.oneCell' = true := by intro u hu; simp [xcl] at hu; rcases hu with h | h | h <;> subst h <;> rfl
/-- A frame's bytes lie in memory, and in none of the blocks that S names. -/
def FOk (w : World) (S : Nat → Prop) (z : FM) : Prop := SrcAt w z.2.1 z.1.X ∧ SetsAt w z.2.2.2.1 z.2.2.2.2 z.1.Y ∧ (∀ ad, z.2.1 = some ad → 0 < z.1.X.length → ¬ S ad.block) ∧ (∀ ad, z.2.2.2.1 = some ad → 0 < z.1.Y.length → ¬ S ad.block)
theorem FOk.next {S T : Nat → Prop} {w w' : World} {z : FM} (h : FOk w S z) (hf : Fr S w w') (ht : ∀ k, k < w.heap.size → ¬ S k → ¬ T k) : FOk w' T z :=
  ⟨h.1.fr hf h.2.2.1, h.2.1.fr hf h.2.2.2, fun ad e hl => ht _ (srcB_lt h.1 ad e hl) (h.2.2.1 ad e hl), fun ad e hl => ht _ (sets_lt h.2.1 ad e hl) (h.2.2.2 ad e hl)⟩
theorem FOk.mono {S T : Nat → Prop} {w : World} {z : FM} (h : FOk w S z) (ht : ∀ k, T k → S k) : FOk w T z := ⟨h.1, h.2.1, fun ad e hl k => h.2.2.1 ad e hl (ht _ k), fun ad e hl k => h.2.2.2 ad e hl (ht _ k)⟩
theorem row_fr {S : Nat → Prop} {w w' : World} {e : TypeId} {s n : Nat} {v : Value} {xs : List Value} (h : w.ownsRow 0 e s v n xs) (hf : Fr S w w') (hs : ∀ k, v.ownBlock = some k → ¬ S k) : w'.ownsRow 0 e s v n xs := by
  refine ⟨h.1, ?_⟩
  rcases h.2 with h2 | ⟨g, cap, cur, rfl, h3, h4, h5⟩
  · exact .inl h2
  · exact .inr ⟨g, cap, cur, rfl, h3, (hf.block g (lt_of_heap h4) (hs g rfl)).trans h4, h5⟩
theorem row_lt {w : World} {e : TypeId} {s n : Nat} {v : Value} {xs : List Value} (h : w.ownsRow 0 e s v n xs) : ∀ k, v.ownBlock = some k → k < w.heap.size ∧ ∃ cur, w.heap[k]? = some (.cells cur e (0, 0)) := by
  intro k hk
  rcases h.2 with ⟨rfl, -⟩ | ⟨g, cap, cur, rfl, h3, h4, h5⟩
  · simp [Value.ownBlock] at hk
  · simp [Value.ownBlock] at hk
    subst hk
    exact ⟨lt_of_heap h4, cur, h4⟩
end Go.Proofs.YtpjbgjgaigkbcaaGreat
