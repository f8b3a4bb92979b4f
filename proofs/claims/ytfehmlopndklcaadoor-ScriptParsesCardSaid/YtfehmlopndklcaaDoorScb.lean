/- One digit, whatever the rune. -/
import Derived.Test.YtfehmlopndklcaaDoorOc
import Derived.Test.YtfehmlopndklcaaDoorSca
namespace Go.Proofs.YtfehmlopndklcaaDoor
open Go.RowKit
set_option maxRecDepth 100000
set_option maxHeartbeats 4000000
set_option linter.unusedVariables false

def digS10 : ByteArray := ⟨#[48, 49, 50, 51, 52, 53, 54, 55, 56, 57]⟩
def digS16 : ByteArray := ⟨#[48, 49, 50, 51, 52, 53, 54, 55, 56, 57, 97, 98, 99, 100, 101, 102]⟩
theorem idx10 : ((List.range 128).all fun n => decide (Lib.indexByte digS10.data.toList n.toUInt8 = dgI 10 n.toUInt8)) = true := by decide +kernel
theorem idx16 : ((List.range 128).all fun n => decide (Lib.indexByte digS16.data.toList n.toUInt8 = dgI 16 n.toUInt8)) = true := by decide +kernel
/-- What the program's digit answers. -/
def dR (b : Nat) (r : Int) : Int := if r < 128 then dgI b r.toNat.toUInt8 else -1
theorem dR_low (b : Nat) (c : UInt8) (h : c.toNat < 128) : dR b (c.toNat : Int) = dgI b c := by
  unfold dR
  rw [if_pos (by omega)]
  congr 1
  simp
theorem dR_high (b : Nat) (r : Int) (h : 128 ≤ r) : dR b r = -1 := by unfold dR; rw [if_neg (by omega)]
theorem dR_byte (b : Nat) (c : UInt8) : dR b (c.toNat : Int) = dgI b c := by
  by_cases h : c.toNat < 128
  · exact dR_low b c h
  · rw [dR_high b _ (by omega)]
    unfold dgI
    rw [dg_high (by omega)]
theorem rune_far (s : ByteArray) (r : Int) (w : World) (hs : ∀ b ∈ tx s, b.toNat < 128) (hb : s.size ≤ 1000) (h4 : 4 ≤ s.size) (h : 128 ≤ r) :
    Calls Tryd.prog 47 #[.string s, .int .i32 r] w fun e w' => e = .returned (.int .i64 (-1)) ∧ Fr (fun _ => False) w w' := by
  by_cases h2 : r = 65533
  · subst h2; exact Rune_error s w hs hb
  · cases hv : validRune r with
    | false => exact Rune_bad s r w (by omega) hv
    | true => exact Rune_far s r w hs hb h4 (by omega) h2 hv
theorem digit10_in (r : Int) (w : World) (h0 : 0 ≤ r) : Calls Tryd.prog 36 #[.int .i32 r, .int .i64 10] w fun e w' => e = .returned (.int .i64 (dR 10 r)) ∧ Fr (fun _ => False) w w' := by
  have K : Calls Tryd.prog 47 #[.string ⟨#[48, 49, 50, 51, 52, 53, 54, 55, 56, 57]⟩, .int .i32 r] w fun e w' => e = .returned (.int .i64 (dR 10 r)) ∧ Fr (fun _ => False) w w' := by
    by_cases h1 : r < 128
    · refine (Rune_low digS10 r w h0 h1).mono fun e w' h => ⟨?_, by rw [← h.2]; exact Fr.refl _ _⟩
      have := List.all_eq_true.1 idx10 r.toNat (List.mem_range.2 (by omega))
      rw [h.1, of_decide_eq_true this]
      unfold dR
      rw [if_pos h1]
    · rw [dR_high 10 r (by omega)]
      exact rune_far digS10 r w (by decide) (by decide) (by decide) (by omega)
  go_enter Tryd.func36, Tryd.ntmps36
  go_wp2_with (go_at_call 47; refine K.mono ?_; rintro e w' ⟨rfl, hf⟩)
  go_ret
  exact ⟨rfl, hf⟩
theorem digit16_in (r : Int) (w : World) (h0 : 0 ≤ r) : Calls Tryd.prog 36 #[.int .i32 r, .int .i64 16] w fun e w' => e = .returned (.int .i64 (dR 16 r)) ∧ Fr (fun _ => False) w w' := by
  have K : Calls Tryd.prog 47 #[.string ⟨#[48, 49, 50, 51, 52, 53, 54, 55, 56, 57, 97, 98, 99, 100, 101, 102]⟩, .int .i32 r] w fun e w' => e = .returned (.int .i64 (dR 16 r)) ∧ Fr (fun _ => False) w w' := by
    by_cases h1 : r < 128
    · refine (Rune_low digS16 r w h0 h1).mono fun e w' h => ⟨?_, by rw [← h.2]; exact Fr.refl _ _⟩
      have := List.all_eq_true.1 idx16 r.toNat (List.mem_range.2 (by omega))
      rw [h.1, of_decide_eq_true this]
      unfold dR
      rw [if_pos h1]
    · rw [dR_high 16 r (by omega)]
      exact rune_far digS16 r w (by decide) (by decide) (by decide) (by omega)
  go_enter Tryd.func36, Tryd.ntmps36
  go_wp2_with (go_at_call 47; refine K.mono ?_; rintro e w' ⟨rfl, hf⟩)
  go_ret
  exact ⟨rfl, hf⟩
/-- How a round of a range over a text reads a rune: what it says as a digit. -/
theorem rune_digit (s : ByteArray) (pos b : Nat) (h : pos < s.size) : ∃ (r k : Nat), Utf8.decode s pos = (r, k) ∧ dR b (r : Int) = dgI b (s[pos]'h) ∧ (dg b (s[pos]'h) ≠ none → k = 1) := by
  obtain ⟨⟨r, k⟩, hrk⟩ : ∃ x, Utf8.decode s pos = x := ⟨_, rfl⟩
  refine ⟨r, k, hrk, ?_, ?_⟩
  · by_cases ha : (s[pos]'h).toNat < 128
    · have e := decode_ascii s pos h ha
      rw [hrk] at e
      cases e
      exact dR_low b _ ha
    · have e := (decode_high s pos h (by omega)).1
      rw [hrk] at e
      have e2 : 128 ≤ r := by simpa using e
      rw [dR_high b _ (by omega)]
      unfold dgI
      rw [dg_high (by omega)]
  · intro hn
    by_cases ha : (s[pos]'h).toNat < 128
    · have e := decode_ascii s pos h ha
      rw [hrk] at e
      cases e
      rfl
    · exact absurd (dg_high (by omega)) hn
end Go.Proofs.YtfehmlopndklcaaDoor
