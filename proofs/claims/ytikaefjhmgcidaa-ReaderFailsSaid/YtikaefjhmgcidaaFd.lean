/- Contracts of what writes a part. -/
import Derived.Test.YtikaefjhmgcidaaFb
namespace Go.Proofs.Ytikaefjhmgcidaa
open Go.RowKit
set_option linter.unusedVariables false
set_option maxRecDepth 100000
set_option maxHeartbeats 4000000

/-- A frame lies in the block g. -/
def FAt (w : World) (g : Nat) (f : Fra) (p : Option Addr) (cp : Nat) (q : Option Addr) (cq : Nat) : Prop := w.heap[g]? = some (.cells #[.int .i64 f.k, .int .i64 f.fl, .int .i64 f.st, .slice p f.X.length cp, .int .i64 f.pad, .int .u32 f.code, .int .i64 f.last, .int .i64 f.inc, .int .i64 f.dep, .bool f.only, .int .i64 f.wt, .slice q f.Y.length cq] 36 (0, 0))
theorem FAt.later {w w' : World} {g : Nat} {f : Fra} {p q : Option Addr} {cp cq : Nat} (h : FAt w g f p cp q cq) (hf : Fr (fun _ => False) w w') : FAt w' g f p cp q cq := (hf.block g (lt_of_heap h) id).trans h

/-- What a part's writer answers. -/
def PieceAs (w : World) (p : Option Addr) (X : List UInt8) (o : Int × List UInt8) (e : Ending) (w' : World) : Prop := ∃ sp l c, e = .returned (.tuple #[.slice sp l c, .int .i64 o.1]) ∧ o.2.length = l ∧ SrcAt w' sp o.2 ∧ ((sp = p ∧ o.2 = X) ∨ ∀ ad, sp = some ad → w.heap.size ≤ ad.block)
theorem putOut31 {n : Int} (h : idOk n = true) : putOut 4 2147483648 n = (0, be 4 n.toNat) := by
  simp [idOk] at h
  exact if_neg (by omega)

theorem writeLast_in (f : Fra) (p q : Option Addr) (cp cq g : Nat) (w : World) (h : FAt w g f p cp q cq) (hl : (Lit.int .i64 f.last).wf = true) :
    Calls Try.prog 69 #[.pointer (some ⟨g, 0, none⟩)] w fun e w' => PieceAs w p f.X (pieceO 0 f) e w' ∧ Fr (fun _ => False) w w' := by
  have c6 : w.cell? ⟨g, 6, none⟩ = some (.int .i64 f.last) := cell_of_heap h rfl
  have K1 := isStream_in f.last w
  cases hi : idOk f.last
  · rw [hi] at K1
    have hd : pieceO 0 f = (1, []) := by simp [pieceO, hi]
    rw [hd]
    clear h
    go_enter Try.func69, Try.ntmps69
    go_wp2_with (go_at_call 83; refine K1.mono ?_; rintro e w' ⟨rfl, rfl⟩)
    go_ret2
    exact ⟨⟨_, _, _, rfl, rfl, SrcAt.nil _ _, .inr (fun _ h => by cases h)⟩, Fr.refl _ _⟩
  · rw [hi] at K1
    have K2 := Put31 f.last w hl
    rw [putOut31 hi] at K2
    have hd : pieceO 0 f = (0, be 4 f.last.toNat) := by simp [pieceO, hi]
    rw [hd]
    clear h
    go_enter Try.func69, Try.ntmps69
    go_wp2_with first
      | (go_at_call 83; refine K1.mono ?_; rintro e w' ⟨rfl, rfl⟩)
      | (go_at_call 84; refine K2.mono ?_; rintro e w' ⟨⟨sp, l, rfl, hl, hs⟩, hf⟩)
    go_ret2
    exact ⟨⟨_, _, _, rfl, hl, hs.1, .inr hs.2⟩, hf⟩

theorem writeCode_in (f : Fra) (p q : Option Addr) (cp cq g : Nat) (w : World) (h : FAt w g f p cp q cq) (hl : f.code < 4294967296) :
    Calls Try.prog 71 #[.pointer (some ⟨g, 0, none⟩)] w fun e w' => PieceAs w p f.X (pieceO 1 f) e w' ∧ Fr (fun _ => False) w w' := by
  have c5 : w.cell? ⟨g, 5, none⟩ = some (.int .u32 f.code) := cell_of_heap h rfl
  have K2 := Put32 f.code w hl
  have hd : pieceO 1 f = (0, be 4 f.code) := by simp [pieceO]
  rw [hd]
  clear h
  go_enter Try.func71, Try.ntmps71
  go_wp2_with (go_at_call 85; refine K2.mono ?_; rintro e w' ⟨⟨sp, rfl, hs⟩, hf⟩)
  go_ret2
  exact ⟨⟨_, _, _, rfl, be_length _ _, hs.1, .inr hs.2⟩, hf⟩

theorem writeInc_in (f : Fra) (p q : Option Addr) (cp cq g : Nat) (w : World) (h : FAt w g f p cp q cq) (hl : (Lit.int .i64 f.inc).wf = true) :
    Calls Try.prog 80 #[.pointer (some ⟨g, 0, none⟩)] w fun e w' => PieceAs w p f.X (pieceO 6 f) e w' ∧ Fr (fun _ => False) w w' := by
  have c7 : w.cell? ⟨g, 7, none⟩ = some (.int .i64 f.inc) := cell_of_heap h rfl
  clear h
  by_cases h1 : f.inc < 1
  · have hd : pieceO 6 f = (1, []) := by simp [pieceO]; omega
    rw [hd]
    go_enter Try.func80, Try.ntmps80
    go_wp2
    go_ret2
    exact ⟨⟨_, _, _, rfl, rfl, SrcAt.nil _ _, .inr (fun _ h => by cases h)⟩, Fr.refl _ _⟩
  · by_cases h2 : 2147483647 < f.inc
    · have hd : pieceO 6 f = (1, []) := by simp [pieceO]; omega
      rw [hd]
      go_enter Try.func80, Try.ntmps80
      go_wp2
      go_ret2
      exact ⟨⟨_, _, _, rfl, rfl, SrcAt.nil _ _, .inr (fun _ h => by cases h)⟩, Fr.refl _ _⟩
    · have hd : pieceO 6 f = (0, be 4 f.inc.toNat) := by simp [pieceO]; omega
      rw [hd]
      have K2 := Put31 f.inc w hl
      rw [putOut31 (by simp [idOk]; omega)] at K2
      go_enter Try.func80, Try.ntmps80
      go_wp2_with (go_at_call 84; refine K2.mono ?_; rintro e w' ⟨⟨sp, l, rfl, hl, hs⟩, hf⟩)
      go_ret2
      exact ⟨⟨_, _, _, rfl, hl, hs.1, .inr hs.2⟩, hf⟩

theorem writeRest_in (f : Fra) (p q : Option Addr) (cp cq g : Nat) (w : World) (h : FAt w g f p cp q cq) (hs : SrcAt w p f.X) :
    Calls Try.prog 75 #[.pointer (some ⟨g, 0, none⟩)] w fun e w' => PieceAs w p f.X (pieceO 3 f) e w' ∧ Fr (fun _ => False) w w' := by
  have c3 : w.cell? ⟨g, 3, none⟩ = some (.slice p f.X.length cp) := cell_of_heap h rfl
  have hd : pieceO 3 f = (0, f.X) := by simp [pieceO]
  rw [hd]
  clear h
  go_enter Try.func75, Try.ntmps75
  go_wp2
  go_ret2
  exact ⟨⟨_, _, _, rfl, rfl, hs, .inl ⟨rfl, rfl⟩⟩, Fr.refl _ _⟩

theorem writePing_in (f : Fra) (p q : Option Addr) (cp cq g : Nat) (w : World) (h : FAt w g f p cp q cq) (hs : SrcAt w p f.X) (hx : f.X.length < 2 ^ 47) :
    Calls Try.prog 79 #[.pointer (some ⟨g, 0, none⟩)] w fun e w' => PieceAs w p f.X (pieceO 5 f) e w' ∧ Fr (fun _ => False) w w' := by
  have c3 : w.cell? ⟨g, 3, none⟩ = some (.slice p f.X.length cp) := cell_of_heap h rfl
  clear h
  by_cases h8 : f.X.length = 8
  · have hd : pieceO 5 f = (0, f.X) := by simp [pieceO, h8]
    rw [hd]
    have h8' : ((f.X.length : Int) != 8) = false := by simp; omega
    go_enter Try.func79, Try.ntmps79
    go_wp2
    go_ret2
    exact ⟨⟨_, _, _, rfl, h8, hs, .inl ⟨rfl, rfl⟩⟩, Fr.refl _ _⟩
  · have hd : pieceO 5 f = (1, []) := by simp [pieceO, h8]
    rw [hd]
    have h8' : ((f.X.length : Int) != 8) = true := by simp; omega
    go_enter Try.func79, Try.ntmps79
    go_wp2
    go_ret2
    exact ⟨⟨_, _, _, rfl, rfl, SrcAt.nil _ _, .inr (fun _ h => by cases h)⟩, Fr.refl _ _⟩
end Go.Proofs.Ytikaefjhmgcidaa
