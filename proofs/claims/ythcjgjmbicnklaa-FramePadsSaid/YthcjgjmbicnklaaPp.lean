/- Plain facts: padding is no data. -/
import Derived.Test.YthcjgjmbicnklaaPn
namespace Go.Proofs.Ythcjgjmbicnklaa
open Go.RowKit
set_option linter.unusedVariables false
set_option maxRecDepth 100000
set_option maxHeartbeats 4000000

/-- A frame of data with padding. -/
def padF (X : List UInt8) (id pd : Nat) : Fra := ⟨0, 8, (id : Int), X, (pd : Int), 0, 0, 0, 0, false, 0, []⟩
theorem padF_padd (X : List UInt8) (id pd : Nat) : padd (padF X id pd) = true := by simp [padd, padF, canP, has]
theorem padF_parts (X : List UInt8) (id pd : Nat) : partsOf (padF X id pd) = [3] := by simp [partsOf, padF]
theorem padF_all (X : List UInt8) (id pd : Nat) : allP (padF X id pd) = (0, [[UInt8.ofNat pd], X, List.replicate pd 0]) := by
  have hp : pieceO 3 (padF X id pd) = (0, X) := by simp [pieceO, padF]
  have h1 : padsB (padF X id pd) = [[UInt8.ofNat pd]] := by simp [padsB, padF_padd]; rfl
  have h2 : padsE (padF X id pd) = [List.replicate pd 0] := by simp [padsE, padF_padd]; rfl
  rw [allP, padF_parts, pieces_ok (fun j hj => by simp at hj; subst hj; rw [hp]), h1, h2]
  simp [pieceL, hp]
theorem padF_write (X : List UInt8) (id pd : Nat) (h1 : 1 ≤ id) (h2 : id ≤ 2147483647) (h3 : pd ≤ 255) (h4 : X.length ≤ 65536) :
    writeO (padF X id pd) = (0, headB (padF X id pd) (1 + X.length + pd) ++ (UInt8.ofNat pd :: (X ++ List.replicate pd 0))) := by
  have e1 : headOk (padF X id pd) = true := by simp [headOk, knownB, idOk, padF]; omega
  have e2 : placedB (padF X id pd).k (padF X id pd).st = true := by simp [placedB, padF]; omega
  have e3 : padOk (padF X id pd) = true := by simp only [padOk, padF_padd, if_true]; simp [padF]; omega
  have e4 : ([[UInt8.ofNat pd], X, List.replicate pd 0] : List (List UInt8)).flatten = UInt8.ofNat pd :: (X ++ List.replicate pd 0) := by simp
  have e5 : (UInt8.ofNat pd :: (X ++ List.replicate pd (0 : UInt8))).length = 1 + X.length + pd := by simp; omega
  rw [writeO, e1, e2, e3, padF_all]
  simp only [e4, e5]
  rw [if_pos (by rfl), if_pos trivial, if_pos (by omega)]
theorem padF_nf (X : List UInt8) (id pd : Nat) : nf (padF X id pd) = padF X id pd := by
  rw [nf, padF_parts, baseF, padF_padd]
  rfl
theorem padF_bad (X : List UInt8) (id pd : Nat) (h1 : 1 ≤ id) (h2 : id ≤ 2147483647) (h3 : X.length + pd < 255) (v : UInt8) (hv : v.toNat = X.length + pd + 1) :
    parseO ((headB (padF X id pd) (1 + X.length + pd) ++ (UInt8.ofNat pd :: (X ++ List.replicate pd 0))).set 9 v) 16777215 = (zeroF, 10 + X.length + pd, ⟨true, 0, 1⟩, 0) := by
  have hset : (headB (padF X id pd) (1 + X.length + pd) ++ (UInt8.ofNat pd :: (X ++ List.replicate pd 0))).set 9 v = headB (padF X id pd) (1 + X.length + pd) ++ (v :: (X ++ List.replicate pd 0)) := by
    rw [List.set_append_right _ _ (by rw [headB_len]; omega), headB_len]
    rfl
  obtain ⟨body, hb⟩ : ∃ body, v :: (X ++ List.replicate pd (0 : UInt8)) = body := ⟨_, rfl⟩
  have hbl : body.length = 1 + X.length + pd := by rw [← hb]; simp; omega
  have e1 : headOk (padF X id pd) = true := by simp [headOk, knownB, idOk, padF]; omega
  have hl := headB_len (padF X id pd) (1 + X.length + pd)
  rw [hset, hb, parseO, if_neg (by omega), if_neg (by simp [hl]), head_num _ _ _ (by omega), if_neg (by omega), if_neg (by rw [List.length_append, hl, hbl]; omega), head_frame _ _ _ e1, head_drop, List.take_of_length_le (by omega)]
  have hr : readO (headOf (padF X id pd)) body = (zeroF, ⟨true, 0, 1⟩) := by
    have p1 : padd (headOf (padF X id pd)) = true := padF_padd X id pd
    have p2 : placedB (headOf (padF X id pd)).k (headOf (padF X id pd)).st = true := by simp [placedB, headOf, padF]; omega
    have p3 : sizedB (headOf (padF X id pd)) body.length = true := sized_any (padF_padd X id pd) _
    have p4 : partsOf (headOf (padF X id pd)) = [3] := padF_parts X id pd
    have p5 : padC (headOf (padF X id pd)) body = X ++ List.replicate pd 0 := by simp only [padC, p1, if_true]; rw [← hb]; rfl
    have p6 : padN (headOf (padF X id pd)) body = X.length + pd + 1 := by simp only [padN, p1, if_true]; rw [← hb]; exact hv
    rw [readO, if_neg (by rw [p2]; simp), if_neg (by rw [p3]; simp), if_neg (by rw [hbl]; omega), p5, p4, if_neg (by simp [leastP, sizeP]), p6, if_pos (by simp [leastP, sizeP])]
  rw [hr]
  simp
  omega
end Go.Proofs.Ythcjgjmbicnklaa
