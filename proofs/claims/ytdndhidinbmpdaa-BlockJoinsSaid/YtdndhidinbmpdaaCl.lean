/- Contract of bytes.Clone. -/
import Derived.Test.YtdndhidinbmpdaaGf
import Derived.Laws.Cover3
namespace Go.Proofs.Ytdndhidinbmpdaa
open Go.RowKit
set_option linter.unusedVariables false
set_option maxRecDepth 100000
set_option maxHeartbeats 4000000

theorem Clone_in (a : Option Addr) (len cap : Nat) (b : List UInt8) (w : World) (hs : SrcAt w a b) (hl : b.length = len) (hm : len ≤ 225179981368371) :
    Calls Try.prog 27 #[.slice a len cap] w fun e w' => ∃ a' c', e = .returned (.slice a' len c') ∧ Gath w w' (.slice a' len c') b := by
  have hnil : ∀ (a : Option Addr) (l c : Nat) (w : World), Sem.run Try.prog (binOp .eql 22 (.slice a l c) (.slice none 0 0)) w = .ok (.bool a.isNone) w := fun a l c w => by
    simp [binOp, run_equal_slice_nil w _ _ a l c Try.underlying22]
  cases a with
  | none =>
    have h0 : b = [] := by
      cases b with
      | nil => rfl
      | cons x r => obtain ⟨ad, e, _⟩ := hs 0 x rfl; cases e
    subst h0
    subst hl
    go_enter Try.func27, Try.ntmps27
    go_wp2
    go_ret
    exact ⟨none, 0, rfl, Gath.ofNil (Fr.refl _ _)⟩
  | some ad =>
    have HS : Hid (SrcAt w (some ad) b) := hs
    have HL : Hid (b.length = len) := hl
    obtain ⟨j, J1, J2, J3, J4⟩ := info5
    have J1 : Hid _ := J1
    have J2 : Hid _ := J2
    have J3 : Hid _ := J3
    have J4 : Hid _ := J4
    clear hs hl
    go_enter Try.func27, Try.ntmps27
    go_wp2_with (refine wpList_gather (w0 := w) rfl (.tmp 5) (.tmp 6) 22 22 rfl j Try.underlying22 Try.underlying22 J1.out J2.out J3.out J4.out (.slice (some ⟨w.heap.size, 0, none⟩) 0 0) [] (by go_simp) (Gath.start (Fr.refl _ _)) (some ad) len cap (by go_simp) b (HS.out.oldF ((Fr.refl _ _).alloc _)) HL.out (by simpa using hm) ?_; intro a1 n1 c1 w1 Hn1 G1 F1)
    go_ret
    obtain rfl : n1 = len := by rw [Hn1.out]; simp
    exact ⟨a1, c1, rfl, G1⟩
end Go.Proofs.Ytdndhidinbmpdaa
