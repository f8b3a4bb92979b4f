/- A reader's contracts in the words of what it has. -/
import Derived.Test.YtikaefjhmgcidaaTe
namespace Go.Proofs.Ytikaefjhmgcidaa
open Go.RowKit
set_option linter.unusedVariables false
set_option maxRecDepth 100000
set_option maxHeartbeats 4000000

theorem Rdr.lt {w : World} {g : Nat} {most : Int} {B : List UInt8} {X : Flt} {ob : Option Nat} {M : Nat} (h : Rdr w g most B X ob M) : g < w.heap.size ∧ (∀ k, ob = some k → k < w.heap.size ∧ k ≠ g) := by
  obtain ⟨a, n, c, at_, D, hr, ho, hat, hD, rfl, hM⟩ := h
  exact ⟨hr.lt, fun k hk => ⟨ho.lt k hk, own_ne hr ho k hk⟩⟩
theorem Rdr.fr {S : Nat → Prop} {w w' : World} {g : Nat} {most : Int} {B : List UInt8} {X : Flt} {ob : Option Nat} {M : Nat} (h : Rdr w g most B X ob M) (hf : Fr S w w') (hg : ¬ S g) (hs : ∀ k, ob = some k → ¬ S k) : Rdr w' g most B X ob M := by
  obtain ⟨a, n, c, at_, D, hr, ho, hat, hD, rfl, hM⟩ := h
  exact ⟨a, n, c, at_, D, hr.fr hf hg, ho.fr hf hs, hat, hD, rfl, hM⟩
theorem Rdr.later {w w' : World} {g : Nat} {most : Int} {B : List UInt8} {X : Flt} {ob : Option Nat} {M : Nat} (h : Rdr w g most B X ob M) (hf : Fr (fun _ => False) w w') : Rdr w' g most B X ob M := h.fr hf id (fun _ _ => id)
theorem Rdr.mono {w : World} {g : Nat} {most : Int} {B : List UInt8} {X : Flt} {ob : Option Nat} {M N : Nat} (h : Rdr w g most B X ob M) (hN : M ≤ N) : Rdr w g most B X ob N := by
  obtain ⟨a, n, c, at_, D, hr, ho, hat, hD, ho2, hM⟩ := h
  exact ⟨a, n, c, at_, D, hr, ho, hat, hD, ho2, fun hx => Nat.le_trans (hM hx) hN⟩
theorem New_rdr (most : Int) (w : World) (h0 : 16384 ≤ most) (h1 : most ≤ 16777215) :
    Calls Try.prog 8 #[.int .i64 most] w fun e w' => e = .returned (.tuple #[.pointer (some ⟨w.heap.size, 0, none⟩), .int .i64 0]) ∧ Rdr w' w.heap.size most [] ⟨false, 0, 0⟩ none 0 ∧ Fr (fun _ => False) w w' :=
  (nNew_in most w h0 h1).mono (by
    rintro e w' ⟨rfl, hr, hf, -⟩
    exact ⟨rfl, ⟨none, 0, 0, 0, [], hr, OwnAt.nil _ _, by simp, rfl, rfl, by simp⟩, hf⟩)
/-- What Feed leaves, in these words. -/
def FedR (w : World) (g : Nat) (most : Int) (B : List UInt8) (X : Flt) (ob : Option Nat) (M : Nat) (e : Ending) (w' : World) : Prop :=
  e = .returned (.int .i64 0) ∧ ∃ ob', Rdr w' g most B X ob' M ∧ Fr (fun k => k = g ∨ ob = some k) w w' ∧ (ob' = ob ∨ ∃ k, ob' = some k ∧ w.heap.size ≤ k)
theorem Feed_rdr (g : Nat) (most : Int) (B : List UInt8) (X : Flt) (ob : Option Nat) (M : Nat) (sp : Option Addr) (m cb : Nat) (b : List UInt8) (w : World) (h : Rdr w g most B X ob M) (hm : 0 < most) (hX : X.is = false) (hs : SrcAt w sp b) (hb : b.length = m) (hbig : M + m ≤ 225179981368371) :
    Calls Try.prog 10 #[.pointer (some ⟨g, 0, none⟩), .slice sp m cb] w fun e w' => FedR w g most (B ++ b) X ob (M + m) e w' := by
  obtain ⟨a, n, c, at_, D, hr, ho, hat, hD, rfl, hM⟩ := h
  have hM := hM hX
  refine (Feed_in g most a n c at_ X D sp m cb b w hr ho hm hX hs hb (by omega)).mono ?_
  rintro e w' ⟨rfl, a', n', c', hr', ho', hf, hob⟩
  exact ⟨rfl, _, ⟨a', n', c', at_, D ++ b, hr', ho', by simp; omega, by rw [List.drop_append_of_le_length hat, hD], rfl, fun _ => by simp; omega⟩, hf, hob⟩
theorem Feed_rdr_failed (g : Nat) (most : Int) (B : List UInt8) (X : Flt) (ob : Option Nat) (M : Nat) (v : Value) (w : World) (h : Rdr w g most B X ob M) (hm : 0 < most) (hX : X.is = true) :
    Calls Try.prog 10 #[.pointer (some ⟨g, 0, none⟩), v] w fun e w' => e = .returned (.int .i64 5) ∧ w = w' := by
  obtain ⟨a, n, c, at_, D, hr, ho, hat, hD, rfl, hM⟩ := h
  exact Feed_failed g most _ at_ X v w hr hm hX
theorem Rest_any (g : Nat) (most : Int) (a : Option Addr) (n c at_ : Nat) (X : Flt) (w : World) (h : RdC w g most (.slice a n c) at_ X) (hm : 0 < most) (hat : at_ ≤ n) (hn : n ≤ 9223372036854775807) :
    Calls Try.prog 16 #[.pointer (some ⟨g, 0, none⟩)] w fun e w' => e = .returned (.int .i64 ((n - at_ : Nat) : Int)) ∧ ∃ k, w' = w.drewN k := by
  obtain ⟨c0, c1, c2, c3, c4, c5⟩ := rcells h
  have KM := made_in g most _ at_ X w h hm
  have hsub : ((n - at_ : Nat) : Int) = (n : Int) - (at_ : Int) := by omega
  rw [hsub]
  clear hsub
  go_enter Try.func16, Try.ntmps16
  go_wp2_with (go_at_call 21; refine KM.mono ?_; clear KM; rintro e w' ⟨rfl, rfl⟩)
  go_quiet (fail)
  go_wp2_with (fail)
  go_ret
  exact ⟨rfl, _, rfl⟩
theorem Rest_rdr (g : Nat) (most : Int) (B : List UInt8) (X : Flt) (ob : Option Nat) (M : Nat) (w : World) (h : Rdr w g most B X ob M) (hm : 0 < most) :
    Calls Try.prog 16 #[.pointer (some ⟨g, 0, none⟩)] w fun e w' => e = .returned (.int .i64 (B.length : Int)) ∧ Fr (fun _ => False) w w' := by
  obtain ⟨a, n, c, at_, D, hr, ho, hat, rfl, rfl, hM⟩ := h
  have hn := (own_len ho).1
  have hbig : n ≤ 9223372036854775807 := by
    rcases ho with ⟨hv, -⟩ | ⟨g', off, cap, cur, hv, hg, h1, h2, h3, h4⟩
    · cases hv; simp
    · cases hv; rw [bv_length] at hn ⊢; unfold maxLen at h3; rw [bv_length] at h2; omega
  refine (Rest_any g most a n c at_ X w hr hm (by omega) hbig).mono ?_
  rintro e w' ⟨rfl, k, rfl⟩
  exact ⟨by rw [List.length_drop, hn], (Fr.refl _ _).drewN _⟩
theorem Failed_rdr (g : Nat) (most : Int) (B : List UInt8) (X : Flt) (ob : Option Nat) (M : Nat) (w : World) (h : Rdr w g most B X ob M) (hm : 0 < most) :
    Calls Try.prog 15 #[.pointer (some ⟨g, 0, none⟩)] w fun e w' => e = .returned (.bool X.is) ∧ w = w' := by
  obtain ⟨a, n, c, at_, D, hr, ho, hat, hD, rfl, hM⟩ := h
  exact Failed_in g most _ at_ X w hr hm
/-- Fewer bytes than a head has: nothing is told. -/
theorem next_short (most : Int) (h0 : 0 ≤ most) (B : List UInt8) (h : B.length < 9) : nextR most B ⟨false, 0, 0⟩ = ((zeroF, false, ⟨false, 0, 0⟩), B, ⟨false, 0, 0⟩) := by
  rw [nextR_eq, if_neg (by simp), if_pos (by rw [parseO, if_neg (by omega), if_pos h]; simp)]
theorem next_failed (most : Int) (B : List UInt8) (X : Flt) (h : X.is = true) : nextR most B X = ((zeroF, false, X), B, X) := by
  rw [nextR_eq, if_pos h]
/-- A head that tells more bytes than may be. -/
theorem next_long (most : Int) (h0 : 0 ≤ most) (B : List UInt8) (h : 9 ≤ B.length) (hb : most < (num (B.take 3) : Nat)) : nextR most B ⟨false, 0, 0⟩ = ((zeroF, false, ⟨true, 0, 6⟩), B, ⟨true, 0, 6⟩) := by
  have e : parseO B most = (zeroF, 9, ⟨true, 0, 6⟩, 0) := by rw [parseO, if_neg (by omega), if_neg (by omega), if_pos hb]
  rw [nextR_eq, if_neg (by simp), e, if_neg (by simp), if_pos ⟨rfl, rfl⟩]
end Go.Proofs.Ytikaefjhmgcidaa
