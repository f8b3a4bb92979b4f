/- What lay below lies there. -/
import Derived.Test.YtpnbpglmcaglfabT6
import Derived.BigQuiet
import Derived.Deep.RegionHeldLaw
namespace Go.Proofs.Ytpnbpglmcaglfab
open Go.RowKit

theorem heap_below {B : Nat} {w w' : World} {b : Nat} {o : Obj} (hB : Below B w w') (hb : b < B) (h : w.heap[b]? = some o) : w'.heap[b]? = some o := (hB.block b hb).trans h
end Go.Proofs.Ytpnbpglmcaglfab
