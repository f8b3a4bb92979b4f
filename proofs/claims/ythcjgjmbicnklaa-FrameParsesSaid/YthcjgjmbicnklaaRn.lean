/- Contracts of the document's parts and fields. -/
import Derived.Test.YthcjgjmbicnklaaRl1
import Derived.Test.YthcjgjmbicnklaaRl2
import Derived.Test.YthcjgjmbicnklaaRl3
import Derived.Test.YthcjgjmbicnklaaRm1
import Derived.Test.YthcjgjmbicnklaaRm2
import Derived.Test.YthcjgjmbicnklaaRm3
import Derived.Test.YthcjgjmbicnklaaRm4
namespace Go.Proofs.Ythcjgjmbicnklaa
open Go.RowKit
set_option linter.unusedVariables false
set_option maxRecDepth 100000
set_option maxHeartbeats 4000000

def F0 (k fl st : Int) (x : Nat) : Fra := ⟨k, fl, st, [], x, 0, 0, 0, 0, false, 0, []⟩
def leastD (k fl : Int) : Nat := if k = 1 ∧ has fl 32 = true then 5 else if k = 5 then 4 else 0
def padH (k fl : Int) : Bool := canP k && has fl 8
/-- The padding's number, the fault's code (0: none), what is left. -/
def ptX (k fl : Int) (b : List UInt8) : Nat × Int × List UInt8 :=
  if padH k fl = true then
    (if b.length < 1 + leastD k fl then (0, 6, []) else if b.length - 1 - leastD k fl < (b.getD 0 0).toNat then ((b.getD 0 0).toNat, 1, []) else ((b.getD 0 0).toNat, 0, (b.drop 1).take (b.length - 1 - (b.getD 0 0).toNat)))
  else if b.length < leastD k fl then (0, 6, []) else (0, 0, b)
theorem ptX_s {k fl : Int} {b : List UInt8} {L : Nat} (hp : padH k fl = true) (hL : leastD k fl = L) (h : b.length < 1 + L) : ptX k fl b = (0, 6, []) := by
  rw [ptX, if_pos hp, if_pos (by rw [hL]; exact h)]
theorem ptX_o {k fl : Int} {b : List UInt8} {L : Nat} (hp : padH k fl = true) (hL : leastD k fl = L) (h : ¬ b.length < 1 + L) (h2 : b.length - 1 - L < (b.getD 0 0).toNat) : ptX k fl b = ((b.getD 0 0).toNat, 1, []) := by
  rw [ptX, if_pos hp, if_neg (by rw [hL]; exact h), if_pos (by rw [hL]; exact h2)]
theorem ptX_k {k fl : Int} {b : List UInt8} {L : Nat} (hp : padH k fl = true) (hL : leastD k fl = L) (h : ¬ b.length < 1 + L) (h2 : ¬ b.length - 1 - L < (b.getD 0 0).toNat) : ptX k fl b = ((b.getD 0 0).toNat, 0, (b.drop 1).take (b.length - 1 - (b.getD 0 0).toNat)) := by
  rw [ptX, if_pos hp, if_neg (by rw [hL]; exact h), if_neg (by rw [hL]; exact h2)]
theorem ptX_ns {k fl : Int} {b : List UInt8} {L : Nat} (hp : padH k fl = false) (hL : leastD k fl = L) (h : b.length < L) : ptX k fl b = (0, 6, []) := by
  rw [ptX, if_neg (by rw [hp]; simp), if_pos (by rw [hL]; exact h)]
theorem ptX_n {k fl : Int} {b : List UInt8} {L : Nat} (hp : padH k fl = false) (hL : leastD k fl = L) (h : ¬ b.length < L) : ptX k fl b = (0, 0, b) := by
  rw [ptX, if_neg (by rw [hp]; simp), if_neg (by rw [hL]; exact h)]

theorem rparts_in (k fl st : Int) (a : Option Addr) (len cap : Nat) (b : List UInt8) (w : World) (hk : knownB k = true) (h0 : 0 ≤ fl) (h1 : fl ≤ 255) (hs : SrcAt w a b) (hl : b.length = len) (hc : len ≤ cap) (hm : len ≤ 16777215) :
    Calls Try.prog 32 #[.agg #[.int .i64 k, .int .i64 fl, .int .i64 st, .slice none 0 0, .int .i64 0, .int .u32 0, .int .i64 0, .int .i64 0, .int .i64 0, .bool false, .int .i64 0, .slice none 0 0], .slice a len cap] w fun e w' => PtAs w k fl st (ptX k fl b).1 (ptX k fl b).2.1 (ptX k fl b).2.2 e w' := by
  have hother : canP k = false → (k == 1) = false → (k == 5) = false → Calls Try.prog 32 #[.agg #[.int .i64 k, .int .i64 fl, .int .i64 st, .slice none 0 0, .int .i64 0, .int .u32 0, .int .i64 0, .int .i64 0, .int .i64 0, .bool false, .int .i64 0, .slice none 0 0], .slice a len cap] w fun e w' => PtAs w k fl st (ptX k fl b).1 (ptX k fl b).2.1 (ptX k fl b).2.2 e w' := fun hc0 hk1 hk5 => by
    have e1 : ¬ k = 1 := by simpa using hk1
    have e5 : ¬ k = 5 := by simpa using hk5
    rw [ptX_n (L := 0) (by simp [padH, hc0]) (by simp [leastD, e1, e5]) (by omega)]
    exact pt_k k fl st a len cap b w h0 h1 hs hl hc hm hc0 hk1 hk5
  rcases kinds k with h | h | h | h | h | h | h | h | h | h | h
  · subst h
    clear hother
    cases h8 : has fl 8
    · rw [ptX_n (L := 0) (by simp [padH, h8]) (by simp [leastD]) (by omega)]
      exact pt_0n fl st a len cap b w h0 h1 hs hl hc hm h8
    · have hp : padH 0 fl = true := by simp only [padH, h8]; decide
      have hL : leastD 0 fl = 0 := by simp [leastD]
      by_cases g1 : b.length < 1 + 0
      · rw [ptX_s hp hL g1]
        exact pt_0p_s fl st a len cap b w h0 h1 hs hl hc hm h8 (by omega)
      · by_cases g2 : b.length - 1 - 0 < (b.getD 0 0).toNat
        · rw [ptX_o hp hL g1 g2]
          exact pt_0p_o fl st a len cap b w h0 h1 hs hl hc hm h8 (by omega) (by omega)
        · rw [ptX_k hp hL g1 g2, hl]
          exact pt_0p fl st a len cap b w h0 h1 hs hl hc hm h8 (by omega) (by omega)
  · subst h
    clear hother
    cases hq : has fl 32
    · have hL : leastD 1 fl = 0 := by simp [leastD, hq]
      cases h8 : has fl 8
      · rw [ptX_n (L := 0) (by simp [padH, h8]) hL (by omega)]
        exact pt_1n fl st a len cap b w h0 h1 hs hl hc hm h8 hq
      · have hp : padH 1 fl = true := by simp only [padH, h8]; decide
        by_cases g1 : b.length < 1 + 0
        · rw [ptX_s hp hL g1]
          exact pt_1p_s fl st a len cap b w h0 h1 hs hl hc hm h8 hq (by omega)
        · by_cases g2 : b.length - 1 - 0 < (b.getD 0 0).toNat
          · rw [ptX_o hp hL g1 g2]
            exact pt_1p_o fl st a len cap b w h0 h1 hs hl hc hm h8 hq (by omega) (by omega)
          · rw [ptX_k hp hL g1 g2, hl]
            exact pt_1p fl st a len cap b w h0 h1 hs hl hc hm h8 hq (by omega) (by omega)
    · have hL : leastD 1 fl = 5 := by simp [leastD, hq]
      cases h8 : has fl 8
      · have hp : padH 1 fl = false := by simp [padH, h8]
        by_cases g1 : b.length < 5
        · rw [ptX_ns hp hL g1]
          exact pt_1qn_s fl st a len cap b w h0 h1 hs hl hc hm h8 hq (by omega)
        · rw [ptX_n hp hL g1]
          exact pt_1qn fl st a len cap b w h0 h1 hs hl hc hm h8 hq (by omega)
      · have hp : padH 1 fl = true := by simp only [padH, h8]; decide
        by_cases g1 : b.length < 1 + 5
        · rw [ptX_s hp hL g1]
          exact pt_1qp_s fl st a len cap b w h0 h1 hs hl hc hm h8 hq (by omega)
        · by_cases g2 : b.length - 1 - 5 < (b.getD 0 0).toNat
          · rw [ptX_o hp hL g1 g2]
            exact pt_1qp_o fl st a len cap b w h0 h1 hs hl hc hm h8 hq (by omega) (by omega)
          · rw [ptX_k hp hL g1 g2, hl]
            exact pt_1qp fl st a len cap b w h0 h1 hs hl hc hm h8 hq (by omega) (by omega)
  · subst h; exact hother (by decide) (by decide) (by decide)
  · subst h; exact hother (by decide) (by decide) (by decide)
  · subst h; exact hother (by decide) (by decide) (by decide)
  · subst h
    clear hother
    have hL : leastD 5 fl = 4 := by simp [leastD]
    cases h8 : has fl 8
    · have hp : padH 5 fl = false := by simp [padH, h8]
      by_cases g1 : b.length < 4
      · rw [ptX_ns hp hL g1]
        exact pt_5n_s fl st a len cap b w h0 h1 hs hl hc hm h8 (by omega)
      · rw [ptX_n hp hL g1]
        exact pt_5n fl st a len cap b w h0 h1 hs hl hc hm h8 (by omega)
    · have hp : padH 5 fl = true := by simp only [padH, h8]; decide
      by_cases g1 : b.length < 1 + 4
      · rw [ptX_s hp hL g1]
        exact pt_5p_s fl st a len cap b w h0 h1 hs hl hc hm h8 (by omega)
      · by_cases g2 : b.length - 1 - 4 < (b.getD 0 0).toNat
        · rw [ptX_o hp hL g1 g2]
          exact pt_5p_o fl st a len cap b w h0 h1 hs hl hc hm h8 (by omega) (by omega)
        · rw [ptX_k hp hL g1 g2, hl]
          exact pt_5p fl st a len cap b w h0 h1 hs hl hc hm h8 (by omega) (by omega)
  · subst h; exact hother (by decide) (by decide) (by decide)
  · subst h; exact hother (by decide) (by decide) (by decide)
  · subst h; exact hother (by decide) (by decide) (by decide)
  · subst h; exact hother (by decide) (by decide) (by decide)
  · simp [knownB] at hk
    omega

/-- What is read, and what is wrong with it. -/
def fdO (k fl st : Int) (x : Nat) (b : List UInt8) : Fra × Flt :=
  (rd (partsOf (F0 k fl st x)) (F0 k fl st x) b, if k = 8 ∧ (rd (partsOf (F0 k fl st x)) (F0 k fl st x) b).inc = 0 then ⟨true, st, 1⟩ else ⟨false, 0, 0⟩)
theorem getD_take5 (b : List UInt8) (i : Nat) (h : i < 5) : (b.take 5).getD i 0 = b.getD i 0 := by
  simp only [List.getD_eq_getElem?_getD, List.getElem?_take, h, if_true]
theorem rdP2_take (f : Fra) (b : List UInt8) : rdP 2 f (b.take 5) = rdP 2 f b := by
  have h0 := getD_take5 b 0 (by omega)
  have h4 := getD_take5 b 4 (by omega)
  simp only [rdP, h0, h4, List.take_take]
  simp
/-- The sizes that the table asks for. -/
def fitsB (k fl : Int) (n : Nat) : Prop := (k = 2 → n = 5) ∧ (k = 3 → n = 4) ∧ (k = 8 → n = 4) ∧ (k = 4 → n % 6 = 0) ∧ (k = 6 → n = 8) ∧ (k = 7 → 8 ≤ n) ∧ (k = 5 → 4 ≤ n) ∧ (k = 1 → has fl 32 = true → 5 ≤ n)

theorem fields_in (k fl st : Int) (x : Nat) (a : Option Addr) (len cap : Nat) (b : List UInt8) (w : World) (hk : knownB k = true) (h0 : 0 ≤ fl) (h1 : fl ≤ 255) (hs : SrcAt w a b) (hl : b.length = len) (hc : len ≤ cap) (hm : len ≤ 16777215) (hf : fitsB k fl len) :
    Calls Try.prog 33 #[.agg #[.int .i64 k, .int .i64 fl, .int .i64 st, .slice none 0 0, .int .i64 (x : Int), .int .u32 0, .int .i64 0, .int .i64 0, .int .i64 0, .bool false, .int .i64 0, .slice none 0 0], .slice a len cap] w fun e w' => RdAs w (fdO k fl st x b) e w' := by
  obtain ⟨f2, f3, f8, f4, f6, f7, f5, f1⟩ := hf
  rcases kinds k with h | h | h | h | h | h | h | h | h | h | h
  · subst h
    rw [show fdO 0 fl st x b = (⟨0, fl, st, b, x, 0, 0, 0, 0, false, 0, []⟩, ⟨false, 0, 0⟩) by simp [fdO, F0, partsOf, rd, rdP, cutP, sizeP]]
    exact fd_0 fl st x a len cap b w h0 h1 hs hl hc hm
  · subst h
    cases hq : has fl 32
    · rw [show fdO 1 fl st x b = (⟨1, fl, st, b, x, 0, 0, 0, 0, false, 0, []⟩, ⟨false, 0, 0⟩) by simp [fdO, F0, partsOf, rd, rdP, cutP, sizeP, hq]]
      exact fd_1 fl st x a len cap b w h0 h1 hs hl hc hm hq
    · rw [show fdO 1 fl st x b = ({ (rdP 2 ⟨1, fl, st, [], x, 0, 0, 0, 0, false, 0, []⟩ b) with X := b.drop 5 }, ⟨false, 0, 0⟩) by
        have e1 : partsOf (F0 1 fl st x) = [2, 3] := by simp [partsOf, F0, hq]
        rw [fdO, e1]
        simp only [rd, show cutP 2 b = 5 from rfl, rdP2_take]
        have e2 : ∀ f c, rdP 3 f c = { f with X := c } := fun f c => by simp [rdP]
        rw [e2, show cutP 3 (b.drop 5) = (b.drop 5).length from rfl, List.take_length, if_neg (by simp)]
        rfl]
      exact fd_1q fl st x a len cap b w h0 h1 hs hl hc hm (f1 rfl hq) hq
  · subst h
    rw [show fdO 2 fl st x b = (rdP 2 ⟨2, fl, st, [], x, 0, 0, 0, 0, false, 0, []⟩ b, ⟨false, 0, 0⟩) by
      have e1 : partsOf (F0 2 fl st x) = [2] := by simp [partsOf, F0]
      rw [fdO, e1]
      simp only [rd, show cutP 2 b = 5 from rfl, rdP2_take]
      rw [if_neg (by simp)]
      rfl]
    exact fd_2 fl st x a len cap b w h0 h1 hs hl hc hm (by have := f2 rfl; omega)
  · subst h
    rw [show fdO 3 fl st x b = (⟨3, fl, st, [], x, num (b.take 4), 0, 0, 0, false, 0, []⟩, ⟨false, 0, 0⟩) by simp [fdO, F0, partsOf, rd, rdP, cutP, sizeP, List.take_take]]
    exact fd_3 fl st x a len cap b w h0 h1 hs hl hc hm (by have := f3 rfl; omega)
  · subst h
    rw [show fdO 4 fl st x b = (⟨4, fl, st, [], x, 0, 0, 0, 0, false, 0, setsOf (len / 6) b⟩, ⟨false, 0, 0⟩) by simp [fdO, F0, partsOf, rd, rdP, cutP, sizeP, hl]; rw [List.take_of_length_le (by omega)]]
    exact fd_4 fl st x a len cap b w hs hl (f4 rfl) hm
  · subst h
    rw [show fdO 5 fl st x b = (⟨5, fl, st, b.drop 4, x, 0, ((num (b.take 4) % 2147483648 : Nat) : Int), 0, 0, false, 0, []⟩, ⟨false, 0, 0⟩) by simp [fdO, F0, partsOf, rd, rdP, cutP, sizeP, List.take_take]; exact List.take_of_length_le (by simp)]
    exact fd_5 fl st x a len cap b w h0 h1 hs hl hc hm (f5 rfl)
  · subst h
    rw [show fdO 6 fl st x b = (⟨6, fl, st, b, x, 0, 0, 0, 0, false, 0, []⟩, ⟨false, 0, 0⟩) by
      have e1 : b.take 8 = b := List.take_of_length_le (by have := f6 rfl; omega)
      simp [fdO, F0, partsOf, rd, rdP, cutP, sizeP, e1]]
    exact fd_6 fl st x a len cap b w h0 h1 hs hl hc hm
  · subst h
    rw [show fdO 7 fl st x b = (⟨7, fl, st, b.drop 8, x, num ((b.drop 4).take 4), ((num (b.take 4) % 2147483648 : Nat) : Int), 0, 0, false, 0, []⟩, ⟨false, 0, 0⟩) by simp [fdO, F0, partsOf, rd, rdP, cutP, sizeP, List.take_take]; exact List.take_of_length_le (by simp)]
    exact fd_7 fl st x a len cap b w h0 h1 hs hl hc hm (f7 rfl)
  · subst h
    have e1 : rd (partsOf (F0 8 fl st x)) (F0 8 fl st x) b = ⟨8, fl, st, [], x, 0, 0, ((num (b.take 4) % 2147483648 : Nat) : Int), 0, false, 0, []⟩ := by simp [F0, partsOf, rd, rdP, cutP, sizeP, List.take_take]
    cases hz : (num (b.take 4) % 2147483648 == 0)
    · rw [show fdO 8 fl st x b = (⟨8, fl, st, [], x, 0, 0, ((num (b.take 4) % 2147483648 : Nat) : Int), 0, false, 0, []⟩, ⟨false, 0, 0⟩) by
        rw [fdO, e1, if_neg (fun h => by simp at hz; simp at h; omega)]]
      exact fd_8 fl st x a len cap b w h0 h1 hs hl hc hm (by have := f8 rfl; omega) hz
    · rw [show fdO 8 fl st x b = (⟨8, fl, st, [], x, 0, 0, ((num (b.take 4) % 2147483648 : Nat) : Int), 0, false, 0, []⟩, ⟨true, st, 1⟩) by
        rw [fdO, e1, if_pos ⟨rfl, by simp at hz; simp; omega⟩]]
      exact fd_8z fl st x a len cap b w h0 h1 hs hl hc hm (by have := f8 rfl; omega) hz
  · subst h
    rw [show fdO 9 fl st x b = (⟨9, fl, st, b, x, 0, 0, 0, 0, false, 0, []⟩, ⟨false, 0, 0⟩) by simp [fdO, F0, partsOf, rd, rdP, cutP, sizeP]]
    exact fd_9 fl st x a len cap b w h0 h1 hs hl hc hm
  · simp [knownB] at hk
    omega
end Go.Proofs.Ythcjgjmbicnklaa
