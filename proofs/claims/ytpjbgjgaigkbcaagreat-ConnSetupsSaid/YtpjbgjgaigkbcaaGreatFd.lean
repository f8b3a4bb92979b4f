/- Contracts of what writes a part. -/
import Derived.Test.YtpjbgjgaigkbcaaGreatFb
import Derived.Test.YtpjbgjgaigkbcaaGreatFy
namespace Go.Proofs.YtpjbgjgaigkbcaaGreat
open Go.RowKit
set_option linter.unusedVariables false
set_option maxRecDepth 100000
set_option maxHeartbeats 4000000

/-- What a part's writer answers. -/
def PieceAs (w : World) (p : Option Addr) (X : List UInt8) (o : Int × List UInt8) (e : Ending) (w' : World) : Prop := ∃ sp l c, e = .returned (.tuple #[.slice sp l c, .int .i64 o.1]) ∧ o.2.length = l ∧ SrcAt w' sp o.2 ∧ ((sp = p ∧ o.2 = X) ∨ ∀ ad, sp = some ad → w.heap.size ≤ ad.block)
theorem putOut31 {n : Int} (h : idOk n = true) : putOut 4 2147483648 n = (0, be 4 n.toNat) := by
  simp [idOk] at h
  exact if_neg (by omega)

theorem writeLast_in (f : Fra) (p q : Option Addr) (cp cq g : Nat) (w : World) (h : FAt w g f p cp q cq) (hl : (Lit.int .i64 f.last).wf = true) :
    Calls Tryz.prog 67 #[.pointer (some ⟨g, 0, none⟩)] w fun e w' => PieceAs w p f.X (pieceO 0 f) e w' ∧ Fr (fun _ => False) w w' := by
  have c6 : w.cell? ⟨g, 6, none⟩ = some (.int .i64 f.last) := cell_of_heap h rfl
  have K1 := isStream_in f.last w
  cases hi : idOk f.last
  · rw [hi] at K1
    have hd : pieceO 0 f = (1, []) := by simp [pieceO, hi]
    rw [hd]
    clear h
    go_enter Tryz.func67, Tryz.ntmps67
    go_wp2_with (go_at_call 58; refine K1.mono ?_; rintro e w' ⟨rfl, rfl⟩)
    go_ret2
    exact ⟨⟨_, _, _, rfl, rfl, SrcAt.nil _ _, .inr (fun _ h => by cases h)⟩, Fr.refl _ _⟩
  · rw [hi] at K1
    have K2 := Put31 f.last w hl
    rw [putOut31 hi] at K2
    have hd : pieceO 0 f = (0, be 4 f.last.toNat) := by simp [pieceO, hi]
    rw [hd]
    clear h
    go_enter Tryz.func67, Tryz.ntmps67
    go_wp2_with first
      | (go_at_call 58; refine K1.mono ?_; rintro e w' ⟨rfl, rfl⟩)
      | (go_at_call 63; refine K2.mono ?_; rintro e w' ⟨⟨sp, l, rfl, hl, hs⟩, hf⟩)
    go_ret2
    exact ⟨⟨_, _, _, rfl, hl, hs.1, .inr hs.2⟩, hf⟩

theorem writeCode_in (f : Fra) (p q : Option Addr) (cp cq g : Nat) (w : World) (h : FAt w g f p cp q cq) (hl : f.code < 4294967296) :
    Calls Tryz.prog 69 #[.pointer (some ⟨g, 0, none⟩)] w fun e w' => PieceAs w p f.X (pieceO 1 f) e w' ∧ Fr (fun _ => False) w w' := by
  have c5 : w.cell? ⟨g, 5, none⟩ = some (.int .u32 f.code) := cell_of_heap h rfl
  have K2 := Put32 f.code w hl
  have hd : pieceO 1 f = (0, be 4 f.code) := by simp [pieceO]
  rw [hd]
  clear h
  go_enter Tryz.func69, Tryz.ntmps69
  go_wp2_with (go_at_call 93; refine K2.mono ?_; rintro e w' ⟨⟨sp, rfl, hs⟩, hf⟩)
  go_ret2
  exact ⟨⟨_, _, _, rfl, be_length _ _, hs.1, .inr hs.2⟩, hf⟩

theorem writeInc_in (f : Fra) (p q : Option Addr) (cp cq g : Nat) (w : World) (h : FAt w g f p cp q cq) (hl : (Lit.int .i64 f.inc).wf = true) :
    Calls Tryz.prog 78 #[.pointer (some ⟨g, 0, none⟩)] w fun e w' => PieceAs w p f.X (pieceO 6 f) e w' ∧ Fr (fun _ => False) w w' := by
  have c7 : w.cell? ⟨g, 7, none⟩ = some (.int .i64 f.inc) := cell_of_heap h rfl
  clear h
  by_cases h1 : f.inc < 1
  · have hd : pieceO 6 f = (1, []) := by simp [pieceO]; omega
    rw [hd]
    go_enter Tryz.func78, Tryz.ntmps78
    go_wp2
    go_ret2
    exact ⟨⟨_, _, _, rfl, rfl, SrcAt.nil _ _, .inr (fun _ h => by cases h)⟩, Fr.refl _ _⟩
  · by_cases h2 : 2147483647 < f.inc
    · have hd : pieceO 6 f = (1, []) := by simp [pieceO]; omega
      rw [hd]
      go_enter Tryz.func78, Tryz.ntmps78
      go_wp2
      go_ret2
      exact ⟨⟨_, _, _, rfl, rfl, SrcAt.nil _ _, .inr (fun _ h => by cases h)⟩, Fr.refl _ _⟩
    · have hd : pieceO 6 f = (0, be 4 f.inc.toNat) := by simp [pieceO]; omega
      rw [hd]
      have K2 := Put31 f.inc w hl
      rw [putOut31 (by simp [idOk]; omega)] at K2
      go_enter Tryz.func78, Tryz.ntmps78
      go_wp2_with (go_at_call 63; refine K2.mono ?_; rintro e w' ⟨⟨sp, l, rfl, hl, hs⟩, hf⟩)
      go_ret2
      exact ⟨⟨_, _, _, rfl, hl, hs.1, .inr hs.2⟩, hf⟩

theorem writeRest_in (f : Fra) (p q : Option Addr) (cp cq g : Nat) (w : World) (h : FAt w g f p cp q cq) (hs : SrcAt w p f.X) :
    Calls Tryz.prog 73 #[.pointer (some ⟨g, 0, none⟩)] w fun e w' => PieceAs w p f.X (pieceO 3 f) e w' ∧ Fr (fun _ => False) w w' := by
  have c3 : w.cell? ⟨g, 3, none⟩ = some (.slice p f.X.length cp) := cell_of_heap h rfl
  have hd : pieceO 3 f = (0, f.X) := by simp [pieceO]
  rw [hd]
  clear h
  go_enter Tryz.func73, Tryz.ntmps73
  go_wp2
  go_ret2
  exact ⟨⟨_, _, _, rfl, rfl, hs, .inl ⟨rfl, rfl⟩⟩, Fr.refl _ _⟩

theorem writePing_in (f : Fra) (p q : Option Addr) (cp cq g : Nat) (w : World) (h : FAt w g f p cp q cq) (hs : SrcAt w p f.X) (hx : f.X.length < 2 ^ 47) :
    Calls Tryz.prog 77 #[.pointer (some ⟨g, 0, none⟩)] w fun e w' => PieceAs w p f.X (pieceO 5 f) e w' ∧ Fr (fun _ => False) w w' := by
  have c3 : w.cell? ⟨g, 3, none⟩ = some (.slice p f.X.length cp) := cell_of_heap h rfl
  clear h
  by_cases h8 : f.X.length = 8
  · have hd : pieceO 5 f = (0, f.X) := by simp [pieceO, h8]
    rw [hd]
    have h8' : ((f.X.length : Int) != 8) = false := by simp; omega
    go_enter Tryz.func77, Tryz.ntmps77
    go_wp2
    go_ret2
    exact ⟨⟨_, _, _, rfl, h8, hs, .inl ⟨rfl, rfl⟩⟩, Fr.refl _ _⟩
  · have hd : pieceO 5 f = (1, []) := by simp [pieceO, h8]
    rw [hd]
    have h8' : ((f.X.length : Int) != 8) = true := by simp; omega
    go_enter Tryz.func77, Tryz.ntmps77
    go_wp2
    go_ret2
    exact ⟨⟨_, _, _, rfl, rfl, SrcAt.nil _ _, .inr (fun _ h => by cases h)⟩, Fr.refl _ _⟩
end Go.Proofs.YtpjbgjgaigkbcaaGreat
