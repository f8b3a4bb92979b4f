/- What stands in a frame, by the document: what lies where. -/
import Derived.Test.YtikaefjhmgcidaaZMRk
namespace Go.Proofs.Ytikaefjhmgcidaa
open Go.RowKit
set_option linter.unusedVariables false
set_option maxRecDepth 100000
set_option maxHeartbeats 4000000

theorem src_lt {w : World} {a : Option Addr} {b : List UInt8} (hs : SrcAt w a b) {ad : Addr} (e : a = some ad) (h : 0 < b.length) : ad.block < w.heap.size := by
  obtain ⟨ad', e', hc⟩ := hs 0 _ (getD_some b 0 h)
  rw [e] at e'
  cases e'
  have := World.block_lt_of_cell? _ _ hc
  simpa [Addr.add] using this
theorem src_ge {w w' : World} {a : Option Addr} {b : List UInt8} (hs : SrcAt w a b) (hf : Fr (fun k => w.heap.size ≤ k) w w') : SrcAt w' a b :=
  hs.fr hf (fun ad e hl => Nat.not_le.2 (src_lt hs e hl))

end Go.Proofs.Ytikaefjhmgcidaa
