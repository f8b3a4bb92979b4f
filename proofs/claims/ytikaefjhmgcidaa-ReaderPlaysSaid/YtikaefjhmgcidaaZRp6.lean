/- The frame at the beginning of bytes, by the document: what lies where. -/
import Derived.Test.YtikaefjhmgcidaaZMRn
import Derived.Deep.Cut
namespace Go.Proofs.Ytikaefjhmgcidaa
open Go.RowKit
set_option linter.unusedVariables false
set_option maxRecDepth 100000
set_option maxHeartbeats 40000000

theorem src_not {w : World} {g : Nat} {cs : Array Value} {t : TypeId} {fr : Nat × Nat} (h : w.heap[g]? = some (.cells cs t fr)) (hn : ∀ v ∈ cs, ∀ c, v ≠ .int .u8 c) {a : Option Addr} {b : List UInt8} (hs : SrcAt w a b) {ad : Addr} (e : a = some ad) (hl : 0 < b.length) : ad.block ≠ g := by
  obtain ⟨ad', e', hc⟩ := hs 0 _ (getD_some b 0 hl)
  rw [e] at e'
  cases e'
  intro heq
  have h0 : ad.add 0 = ad := by simp [Addr.add]
  rw [h0] at hc
  unfold World.cell? at hc
  rw [heq, h] at hc
  simp at hc
  obtain ⟨_, hc⟩ := hc
  exact hn _ (Array.mem_of_getElem? hc) _ rfl

end Go.Proofs.Ytikaefjhmgcidaa
