/- Frames, plainly: what they are, what is written of them, what is read of bytes. -/
import Derived.Test.YtpjbgjgaigkbcaaGreatFU5
import Derived.Test.YtpjbgjgaigkbcaaGreatFs
import Derived.Test.YtpjbgjgaigkbcaaGreatFy
namespace Go.Proofs.YtpjbgjgaigkbcaaGreat
open Go.RowKit
set_option linter.unusedVariables false

def has (fl b : Int) : Bool := decide (fl / b % 2 = 1)
def idOk (n : Int) : Bool := decide (0 ≤ n ∧ n ≤ 2147483647)
def knownB (k : Int) : Bool := decide (0 ≤ k ∧ k ≤ 9)
def canP (k : Int) : Bool := decide (k = 0 ∨ k = 1 ∨ k = 5)
def padd (f : Fra) : Bool := canP f.k && has f.fl 8
def placedB (k st : Int) : Bool := if k = 4 ∨ k = 6 ∨ k = 7 then decide (st = 0) else if k = 0 ∨ k = 1 ∨ k = 2 ∨ k = 3 ∨ k = 5 ∨ k = 9 then decide (st ≠ 0) else true
def headOk (f : Fra) : Bool := knownB f.k && decide (0 ≤ f.fl ∧ f.fl ≤ 255) && idOk f.st
def padOk (f : Fra) : Bool := if padd f then decide (0 ≤ f.pad ∧ f.pad ≤ 255) else decide (f.pad = 0) || !canP f.k
/-- Which parts stand in a frame: 0 Last, 1 Code, 2 a priority, 3 what is left, 4 settings, 5 eight bytes, 6 Inc. -/
def partsOf (f : Fra) : List Nat :=
  if f.k = 1 then (if has f.fl 32 then [2, 3] else [3]) else if f.k = 0 ∨ f.k = 9 then [3] else if f.k = 2 then [2] else if f.k = 3 then [1] else if f.k = 4 then [4]
  else if f.k = 5 then [0, 3] else if f.k = 6 then [5] else if f.k = 7 then [0, 1, 3] else if f.k = 8 then [6] else []
def setB (s : Int × Nat) : List UInt8 := be 2 s.1.toNat ++ be 4 s.2
def setsB (Y : List (Int × Nat)) : List UInt8 := (Y.map setB).flatten
def setOk (s : Int × Nat) : Bool := decide (0 ≤ s.1 ∧ s.1 < 65536)
def depW (f : Fra) : Nat := f.dep.toNat + if f.only then 2147483648 else 0
/-- What is written of a part: the error and the bytes. -/
def pieceO (j : Nat) (f : Fra) : Int × List UInt8 :=
  if j = 0 then (if idOk f.last then (0, be 4 f.last.toNat) else (1, []))
  else if j = 1 then (0, be 4 f.code)
  else if j = 2 then (if idOk f.dep && decide (1 ≤ f.wt ∧ f.wt ≤ 256) then (0, be 4 (depW f) ++ [UInt8.ofNat (f.wt - 1).toNat]) else (1, []))
  else if j = 3 then (0, f.X)
  else if j = 4 then (if decide (0 < f.Y.length) && has f.fl 1 then (1, []) else if f.Y.all setOk then (0, setsB f.Y) else (1, []))
  else if j = 5 then (if f.X.length = 8 then (0, f.X) else (1, []))
  else (if decide (1 ≤ f.inc ∧ f.inc ≤ 2147483647) then (0, be 4 f.inc.toNat) else (1, []))
/-- What is written of parts. -/
def piecesO (f : Fra) : List Nat → Int × List (List UInt8)
  | [] => (0, [])
  | j :: js => if (pieceO j f).1 = 0 then ((piecesO f js).1, (pieceO j f).2 :: (piecesO f js).2) else (1, [])
def padsB (f : Fra) : List (List UInt8) := if padd f then [[UInt8.ofNat f.pad.toNat]] else []
def padsE (f : Fra) : List (List UInt8) := if padd f then [List.replicate f.pad.toNat 0] else []
/-- A frame's pieces behind its head. -/
def allP (f : Fra) : Int × List (List UInt8) := if (piecesO f (partsOf f)).1 = 0 then (0, padsB f ++ (piecesO f (partsOf f)).2 ++ padsE f) else (1, [])
def headB (f : Fra) (n : Nat) : List UInt8 := be 3 n ++ [UInt8.ofNat f.k.toNat, UInt8.ofNat f.fl.toNat] ++ be 4 f.st.toNat
/-- What is written of a frame: the error and the bytes. -/
def writeO (f : Fra) : Int × List UInt8 :=
  if headOk f && placedB f.k f.st && padOk f then
    (if (allP f).1 = 0 then (if (allP f).2.flatten.length ≤ 16777215 then (0, headB f (allP f).2.flatten.length ++ (allP f).2.flatten) else (2, [])) else (1, []))
  else (1, [])

def sizeP (j : Nat) : Nat := if j = 0 then 4 else if j = 1 then 4 else if j = 2 then 5 else if j = 3 then 0 else if j = 4 then 0 else if j = 5 then 8 else 4
def leastP (js : List Nat) : Nat := (js.map sizeP).sum
def sizedB (f : Fra) (n : Nat) : Bool :=
  if f.k = 2 then decide (n = 5) else if f.k = 3 ∨ f.k = 8 then decide (n = 4) else if f.k = 4 then decide (n = 0 ∨ (n % 6 = 0 ∧ has f.fl 1 = false)) else if f.k = 6 then decide (n = 8) else if f.k = 7 then decide (8 ≤ n) else true
/-- The settings that so many bytes tell. -/
def setsOf : Nat → List UInt8 → List (Int × Nat)
  | 0, _ => []
  | n + 1, b => (((num (b.take 2) : Nat) : Int), num ((b.drop 2).take 4)) :: setsOf n (b.drop 6)
/-- A part is read. -/
def rdP (j : Nat) (f : Fra) (b : List UInt8) : Fra :=
  if j = 0 then { f with last := ((num (b.take 4) % 2147483648 : Nat) : Int) }
  else if j = 1 then { f with code := num (b.take 4) }
  else if j = 2 then { f with dep := ((num (b.take 4) % 2147483648 : Nat) : Int), only := decide (128 ≤ (b.getD 0 0).toNat), wt := (((b.getD 4 0).toNat : Nat) : Int) + 1 }
  else if j = 3 ∨ j = 5 then { f with X := b }
  else if j = 4 then { f with Y := f.Y ++ setsOf (b.length / 6) b }
  else { f with inc := ((num (b.take 4) % 2147483648 : Nat) : Int) }
def cutP (j : Nat) (b : List UInt8) : Nat := if sizeP j = 0 then b.length else sizeP j
def rd : List Nat → Fra → List UInt8 → Fra
  | [], f, _ => f
  | j :: js, f, b => rd js (rdP j f (b.take (cutP j b))) (b.drop (cutP j b))
def padN (f : Fra) (b : List UInt8) : Nat := if padd f then (b.getD 0 0).toNat else 0
def padC (f : Fra) (b : List UInt8) : List UInt8 := if padd f then b.drop 1 else b
/-- What stands behind a head is read. -/
def readO (f : Fra) (b : List UInt8) : Fra × Flt :=
  if placedB f.k f.st = false then (zeroF, ⟨true, 0, 1⟩)
  else if sizedB f b.length = false then (zeroF, ⟨true, if f.k = 2 then f.st else 0, 6⟩)
  else if padd f = true ∧ b.length = 0 then (zeroF, ⟨true, 0, 6⟩)
  else if (padC f b).length < leastP (partsOf f) then (zeroF, ⟨true, 0, 6⟩)
  else if (padC f b).length - leastP (partsOf f) < padN f b then (zeroF, ⟨true, 0, 1⟩)
  else let g := rd (partsOf f) { f with pad := padN f b } ((padC f b).take ((padC f b).length - padN f b))
    if g.k = 8 ∧ g.inc = 0 then (zeroF, ⟨true, g.st, 1⟩) else (g, ⟨false, 0, 0⟩)
def headF (B : List UInt8) : Fra := { zeroF with k := (B.getD 3 0).toNat, fl := (B.getD 4 0).toNat, st := ((num ((B.drop 5).take 4) % 2147483648 : Nat) : Int) }
/-- The frame that bytes begin with: it, how many bytes it has, what is wrong, the error. -/
def parseO (B : List UInt8) (most : Int) : Fra × Nat × Flt × Int :=
  if most < 0 then (zeroF, 0, ⟨false, 0, 0⟩, 1)
  else if B.length < 9 then (zeroF, 0, ⟨false, 0, 0⟩, 3)
  else if most < (num (B.take 3) : Nat) then (zeroF, 9, ⟨true, 0, 6⟩, 0)
  else if B.length < 9 + num (B.take 3) then (zeroF, 0, ⟨false, 0, 0⟩, 3)
  else ((readO (headF B) ((B.drop 9).take (num (B.take 3)))).1, 9 + num (B.take 3), (readO (headF B) ((B.drop 9).take (num (B.take 3)))).2, 0)

end Go.Proofs.YtpjbgjgaigkbcaaGreat
