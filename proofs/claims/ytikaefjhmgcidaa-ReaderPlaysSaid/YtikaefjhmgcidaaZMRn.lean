/- Contracts of the document's parts and fields. -/
import Derived.Test.YtikaefjhmgcidaaZRl1
import Derived.Test.YtikaefjhmgcidaaZRl2
import Derived.Test.YtikaefjhmgcidaaZRl3
import Derived.Test.YtikaefjhmgcidaaZRm1
import Derived.Test.YtikaefjhmgcidaaZRm2
import Derived.Test.YtikaefjhmgcidaaZRm3
import Derived.Test.YtikaefjhmgcidaaZRm4
namespace Go.Proofs.Ytikaefjhmgcidaa
open Go.RowKit
set_option linter.unusedVariables false
set_option maxRecDepth 100000
set_option maxHeartbeats 4000000

def F0 (k fl st : Int) (x : Nat) : Fra := ⟨k, fl, st, [], x, 0, 0, 0, 0, false, 0, []⟩
def leastD (k fl : Int) : Nat := if k = 1 ∧ has fl 32 = true then 5 else if k = 5 then 4 else 0
def padH (k fl : Int) : Bool := canP k && has fl 8
/-- The padding's number, the fault's code (0: none), what is left. -/
def ptX (k fl : Int) (b : List UInt8) : Nat × Int × List UInt8 :=
  if padH k fl = true then
    (if b.length < 1 + leastD k fl then (0, 6, []) else if b.length - 1 - leastD k fl < (b.getD 0 0).toNat then ((b.getD 0 0).toNat, 1, []) else ((b.getD 0 0).toNat, 0, (b.drop 1).take (b.length - 1 - (b.getD 0 0).toNat)))
  else if b.length < leastD k fl then (0, 6, []) else (0, 0, b)
theorem ptX_s {k fl : Int} {b : List UInt8} {L : Nat} (hp : padH k fl = true) (hL : leastD k fl = L) (h : b.length < 1 + L) : ptX k fl b = (0, 6, []) := by
  rw [ptX, if_pos hp, if_pos (by rw [hL]; exact h)]
theorem ptX_o {k fl : Int} {b : List UInt8} {L : Nat} (hp : padH k fl = true) (hL : leastD k fl = L) (h : ¬ b.length < 1 + L) (h2 : b.length - 1 - L < (b.getD 0 0).toNat) : ptX k fl b = ((b.getD 0 0).toNat, 1, []) := by
  rw [ptX, if_pos hp, if_neg (by rw [hL]; exact h), if_pos (by rw [hL]; exact h2)]
theorem ptX_k {k fl : Int} {b : List UInt8} {L : Nat} (hp : padH k fl = true) (hL : leastD k fl = L) (h : ¬ b.length < 1 + L) (h2 : ¬ b.length - 1 - L < (b.getD 0 0).toNat) : ptX k fl b = ((b.getD 0 0).toNat, 0, (b.drop 1).take (b.length - 1 - (b.getD 0 0).toNat)) := by
  rw [ptX, if_pos hp, if_neg (by rw [hL]; exact h), if_neg (by rw [hL]; exact h2)]
theorem ptX_ns {k fl : Int} {b : List UInt8} {L : Nat} (hp : padH k fl = false) (hL : leastD k fl = L) (h : b.length < L) : ptX k fl b = (0, 6, []) := by
  rw [ptX, if_neg (by rw [hp]; simp), if_pos (by rw [hL]; exact h)]
theorem ptX_n {k fl : Int} {b : List UInt8} {L : Nat} (hp : padH k fl = false) (hL : leastD k fl = L) (h : ¬ b.length < L) : ptX k fl b = (0, 0, b) := by
  rw [ptX, if_neg (by rw [hp]; simp), if_neg (by rw [hL]; exact h)]

theorem rparts_in (k fl st : Int) (a : Option Addr) (len cap : Nat) (b : List UInt8) (w : World) (hk : knownB k = true) (h0 : 0 ≤ fl) (h1 : fl ≤ 255) (hs : SrcAt w a b) (hl : b.length = len) (hc : len ≤ cap) (hm : len ≤ 16777215) :
    Calls Try.prog 36 #[.agg #[.int .i64 k, .int .i64 fl, .int .i64 st, .slice none 0 0, .int .i64 0, .int .u32 0, .int .i64 0, .int .i64 0, .int .i64 0, .bool false, .int .i64 0, .slice none 0 0], .slice a len cap] w fun e w' => PtAs w k fl st (ptX k fl b).1 (ptX k fl b).2.1 (ptX k fl b).2.2 e w' := by
  have hother : canP k = false → (k == 1) = false → (k == 5) = false → Calls Try.prog 36 #[.agg #[.int .i64 k, .int .i64 fl, .int .i64 st, .slice none 0 0, .int .i64 0, .int .u32 0, .int .i64 0, .int .i64 0, .int .i64 0, .bool false, .int .i64 0, .slice none 0 0], .slice a len cap] w fun e w' => PtAs w k fl st (ptX k fl b).1 (ptX k fl b).2.1 (ptX k fl b).2.2 e w' := fun hc0 hk1 hk5 => by
    have e1 : ¬ k = 1 := by simpa using hk1
    have e5 : ¬ k = 5 := by simpa using hk5
    rw [ptX_n (L := 0) (by simp [padH, hc0]) (by simp [leastD, e1, e5]) (by omega)]
    exact pt_k k fl st a len cap b w h0 h1 hs hl hc hm hc0 hk1 hk5
  rcases kinds k with h | h | h | h | h | h | h | h | h | h | h
  · subst h
    clear hother
    cases h8 : has fl 8
    · rw [ptX_n (L := 0) (by simp [padH, h8]) (by simp [leastD]) (by omega)]
      exact pt_0n fl st a len cap b w h0 h1 hs hl hc hm h8
    · have hp : padH 0 fl = true := by simp only [padH, h8]; decide
      have hL : leastD 0 fl = 0 := by simp [leastD]
      by_cases g1 : b.length < 1 + 0
      · rw [ptX_s hp hL g1]
        exact pt_0p_s fl st a len cap b w h0 h1 hs hl hc hm h8 (by omega)
      · by_cases g2 : b.length - 1 - 0 < (b.getD 0 0).toNat
        · rw [ptX_o hp hL g1 g2]
          exact pt_0p_o fl st a len cap b w h0 h1 hs hl hc hm h8 (by omega) (by omega)
        · rw [ptX_k hp hL g1 g2, hl]
          exact pt_0p fl st a len cap b w h0 h1 hs hl hc hm h8 (by omega) (by omega)
  · subst h
    clear hother
    cases hq : has fl 32
    · have hL : leastD 1 fl = 0 := by simp [leastD, hq]
      cases h8 : has fl 8
      · rw [ptX_n (L := 0) (by simp [padH, h8]) hL (by omega)]
        exact pt_1n fl st a len cap b w h0 h1 hs hl hc hm h8 hq
      · have hp : padH 1 fl = true := by simp only [padH, h8]; decide
        by_cases g1 : b.length < 1 + 0
        · rw [ptX_s hp hL g1]
          exact pt_1p_s fl st a len cap b w h0 h1 hs hl hc hm h8 hq (by omega)
        · by_cases g2 : b.length - 1 - 0 < (b.getD 0 0).toNat
          · rw [ptX_o hp hL g1 g2]
            exact pt_1p_o fl st a len cap b w h0 h1 hs hl hc hm h8 hq (by omega) (by omega)
          · rw [ptX_k hp hL g1 g2, hl]
            exact pt_1p fl st a len cap b w h0 h1 hs hl hc hm h8 hq (by omega) (by omega)
    · have hL : leastD 1 fl = 5 := by simp [leastD, hq]
      cases h8 : has fl 8
      · have hp : padH 1 fl = false := by simp [padH, h8]
        by_cases g1 : b.length < 5
        · rw [ptX_ns hp hL g1]
          exact pt_1qn_s fl st a len cap b w h0 h1 hs hl hc hm h8 hq (by omega)
        · rw [ptX_n hp hL g1]
          exact pt_1qn fl st a len cap b w h0 h1 hs hl hc hm h8 hq (by omega)
      · have hp : padH 1 fl = true := by simp only [padH, h8]; decide
        by_cases g1 : b.length < 1 + 5
        · rw [ptX_s hp hL g1]
          exact pt_1qp_s fl st a len cap b w h0 h1 hs hl hc hm h8 hq (by omega)
        · by_cases g2 : b.length - 1 - 5 < (b.getD 0 0).toNat
          · rw [ptX_o hp hL g1 g2]
            exact pt_1qp_o fl st a len cap b w h0 h1 hs hl hc hm h8 hq (by omega) (by omega)
          · rw [ptX_k hp hL g1 g2, hl]
            exact pt_1qp fl st a len cap b w h0 h1 hs hl hc hm h8 hq (by omega) (by omega)
  · subst h; exact hother (by decide) (by decide) (by decide)
  · subst h; exact hother (by decide) (by decide) (by decide)
  · subst h; exact hother (by decide) (by decide) (by decide)
  · subst h
    clear hother
    have hL : leastD 5 fl = 4 := by simp [leastD]
    cases h8 : has fl 8
    · have hp : padH 5 fl = false := by simp [padH, h8]
      by_cases g1 : b.length < 4
      · rw [ptX_ns hp hL g1]
        exact pt_5n_s fl st a len cap b w h0 h1 hs hl hc hm h8 (by omega)
      · rw [ptX_n hp hL g1]
        exact pt_5n fl st a len cap b w h0 h1 hs hl hc hm h8 (by omega)
    · have hp : padH 5 fl = true := by simp only [padH, h8]; decide
      by_cases g1 : b.length < 1 + 4
      · rw [ptX_s hp hL g1]
        exact pt_5p_s fl st a len cap b w h0 h1 hs hl hc hm h8 (by omega)
      · by_cases g2 : b.length - 1 - 4 < (b.getD 0 0).toNat
        · rw [ptX_o hp hL g1 g2]
          exact pt_5p_o fl st a len cap b w h0 h1 hs hl hc hm h8 (by omega) (by omega)
        · rw [ptX_k hp hL g1 g2, hl]
          exact pt_5p fl st a len cap b w h0 h1 hs hl hc hm h8 (by omega) (by omega)
  · subst h; exact hother (by decide) (by decide) (by decide)
  · subst h; exact hother (by decide) (by decide) (by decide)
  · subst h; exact hother (by decide) (by decide) (by decide)
  · subst h; exact hother (by decide) (by decide) (by decide)
  · simp [knownB] at hk
    omega

/-- What is read, and what is wrong with it. -/
def fdO (k fl st : Int) (x : Nat) (b : List UInt8) : Fra × Flt :=
  (rd (partsOf (F0 k fl st x)) (F0 k fl st x) b, if k = 8 ∧ (rd (partsOf (F0 k fl st x)) (F0 k fl st x) b).inc = 0 then ⟨true, st, 1⟩ else ⟨false, 0, 0⟩)
theorem getD_take5 (b : List UInt8) (i : Nat) (h : i < 5) : (b.take 5).getD i 0 = b.getD i 0 := by
  simp only [List.getD_eq_getElem?_getD, List.getElem?_take, h, if_true]
theorem rdP2_take (f : Fra) (b : List UInt8) : rdP 2 f (b.take 5) = rdP 2 f b := by
  have h0 := getD_take5 b 0 (by omega)
  have h4 := getD_take5 b 4 (by omega)
  simp only [rdP, h0, h4, List.take_take]
  simp
/-- The sizes that the table asks for. -/
def fitsB (k fl : Int) (n : Nat) : Prop := (k = 2 → n = 5) ∧ (k = 3 → n = 4) ∧ (k = 8 → n = 4) ∧ (k = 4 → n % 6 = 0) ∧ (k = 6 → n = 8) ∧ (k = 7 → 8 ≤ n) ∧ (k = 5 → 4 ≤ n) ∧ (k = 1 → has fl 32 = true → 5 ≤ n)

theorem fields_in (k fl st : Int) (x : Nat) (a : Option Addr) (len cap : Nat) (b : List UInt8) (w : World) (hk : knownB k = true) (h0 : 0 ≤ fl) (h1 : fl ≤ 255) (hs : SrcAt w a b) (hl : b.length = len) (hc : len ≤ cap) (hm : len ≤ 16777215) (hf : fitsB k fl len) :
    Calls Try.prog 37 #[.agg #[.int .i64 k, .int .i64 fl, .int .i64 st, .slice none 0 0, .int .i64 (x : Int), .int .u32 0, .int .i64 0, .int .i64 0, .int .i64 0, .bool false, .int .i64 0, .slice none 0 0], .slice a len cap] w fun e w' => RdAs w (fdO k fl st x b) e w' := by
  obtain ⟨f2, f3, f8, f4, f6, f7, f5, f1⟩ := hf
  rcases kinds k with h | h | h | h | h | h | h | h | h | h | h
  · subst h
    rw [show fdO 0 fl st x b = (⟨0, fl, st, b, x, 0, 0, 0, 0, false, 0, []⟩, ⟨false, 0, 0⟩) by simp [fdO, F0, partsOf, rd, rdP, cutP, sizeP]]
    exact fd_0 fl st x a len cap b w h0 h1 hs hl hc hm
  · subst h
    cases hq : has fl 32
    · rw [show fdO 1 fl st x b = (⟨1, fl, st, b, x, 0, 0, 0, 0, false, 0, []⟩, ⟨false, 0, 0⟩) by simp [fdO, F0, partsOf, rd, rdP, cutP, sizeP, hq]]
      exact fd_1 fl st x a len cap b w h0 h1 hs hl hc hm hq
    · rw [show fdO 1 fl st x b = ({ (rdP 2 ⟨1, fl, st, [], x, 0, 0, 0, 0, false, 0, []⟩ b) with X := b.drop 5 }, ⟨false, 0, 0⟩) by
        have e1 : partsOf (F0 1 fl st x) = [2, 3] := by simp [partsOf, F0, hq]
        rw [fdO, e1]
        simp only [rd, show cutP 2 b = 5 from rfl, rdP2_take]
        have e2 : ∀ f c, rdP 3 f c = { f with X := c } := fun f c => by simp [rdP]
        rw [e2, show cutP 3 (b.drop 5) = (b.drop 5).length from rfl, List.take_length, if_neg (by simp)]
        rfl]
      exact fd_1q fl st x a len cap b w h0 h1 hs hl hc hm (f1 rfl hq) hq
  · subst h
    rw [show fdO 2 fl st x b = (rdP 2 ⟨2, fl, st, [], x, 0, 0, 0, 0, false, 0, []⟩ b, ⟨false, 0, 0⟩) by
      have e1 : partsOf (F0 2 fl st x) = [2] := by simp [partsOf, F0]
      rw [fdO, e1]
      simp only [rd, show cutP 2 b = 5 from rfl, rdP2_take]
      rw [if_neg (by simp)]
      rfl]
    exact fd_2 fl st x a len cap b w h0 h1 hs hl hc hm (by have := f2 rfl; omega)
  · subst h
    rw [show fdO 3 fl st x b = (⟨3, fl, st, [], x, num (b.take 4), 0, 0, 0, false, 0, []⟩, ⟨false, 0, 0⟩) by simp [fdO, F0, partsOf, rd, rdP, cutP, sizeP, List.take_take]]
    exact fd_3 fl st x a len cap b w h0 h1 hs hl hc hm (by have := f3 rfl; omega)
  · subst h
    rw [show fdO 4 fl st x b = (⟨4, fl, st, [], x, 0, 0, 0, 0, false, 0, setsOf (len / 6) b⟩, ⟨false, 0, 0⟩) by simp [fdO, F0, partsOf, rd, rdP, cutP, sizeP, hl]; rw [List.take_of_length_le (by omega)]]
    exact fd_4 fl st x a len cap b w hs hl (f4 rfl) hm
  · subst h
    rw [show fdO 5 fl st x b = (⟨5, fl, st, b.drop 4, x, 0, ((num (b.take 4) % 2147483648 : Nat) : Int), 0, 0, false, 0, []⟩, ⟨false, 0, 0⟩) by simp [fdO, F0, partsOf, rd, rdP, cutP, sizeP, List.take_take]; exact List.take_of_length_le (by simp)]
    exact fd_5 fl st x a len cap b w h0 h1 hs hl hc hm (f5 rfl)
  · subst h
    rw [show fdO 6 fl st x b = (⟨6, fl, st, b, x, 0, 0, 0, 0, false, 0, []⟩, ⟨false, 0, 0⟩) by
      have e1 : b.take 8 = b := List.take_of_length_le (by have := f6 rfl; omega)
      simp [fdO, F0, partsOf, rd, rdP, cutP, sizeP, e1]]
    exact fd_6 fl st x a len cap b w h0 h1 hs hl hc hm
  · subst h
    rw [show fdO 7 fl st x b = (⟨7, fl, st, b.drop 8, x, num ((b.drop 4).take 4), ((num (b.take 4) % 2147483648 : Nat) : Int), 0, 0, false, 0, []⟩, ⟨false, 0, 0⟩) by simp [fdO, F0, partsOf, rd, rdP, cutP, sizeP, List.take_take]; exact List.take_of_length_le (by simp)]
    exact fd_7 fl st x a len cap b w h0 h1 hs hl hc hm (f7 rfl)
  · subst h
    have e1 : rd (partsOf (F0 8 fl st x)) (F0 8 fl st x) b = ⟨8, fl, st, [], x, 0, 0, ((num (b.take 4) % 2147483648 : Nat) : Int), 0, false, 0, []⟩ := by simp [F0, partsOf, rd, rdP, cutP, sizeP, List.take_take]
    cases hz : (num (b.take 4) % 2147483648 == 0)
    · rw [show fdO 8 fl st x b = (⟨8, fl, st, [], x, 0, 0, ((num (b.take 4) % 2147483648 : Nat) : Int), 0, false, 0, []⟩, ⟨false, 0, 0⟩) by
        rw [fdO, e1, if_neg (fun h => by simp at hz; simp at h; omega)]]
      exact fd_8 fl st x a len cap b w h0 h1 hs hl hc hm (by have := f8 rfl; omega) hz
    · rw [show fdO 8 fl st x b = (⟨8, fl, st, [], x, 0, 0, ((num (b.take 4) % 2147483648 : Nat) : Int), 0, false, 0, []⟩, ⟨true, st, 1⟩) by
        rw [fdO, e1, if_pos ⟨rfl, by simp at hz; simp; omega⟩]]
      exact fd_8z fl st x a len cap b w h0 h1 hs hl hc hm (by have := f8 rfl; omega) hz
  · subst h
    rw [show fdO 9 fl st x b = (⟨9, fl, st, b, x, 0, 0, 0, 0, false, 0, []⟩, ⟨false, 0, 0⟩) by simp [fdO, F0, partsOf, rd, rdP, cutP, sizeP]]
    exact fd_9 fl st x a len cap b w h0 h1 hs hl hc hm
  · simp [knownB] at hk
    omega
end Go.Proofs.Ytikaefjhmgcidaa
/- Plain facts: the document's reading is the program's. -/
namespace Go.Proofs.Ytikaefjhmgcidaa
open Go.RowKit
set_option linter.unusedVariables false
set_option maxRecDepth 100000
set_option maxHeartbeats 4000000

theorem rdP_same (j : Nat) (f : Fra) (b : List UInt8) : (rdP j f b).k = f.k ∧ (rdP j f b).st = f.st := by
  unfold rdP
  repeat' split
  all_goals exact ⟨rfl, rfl⟩
theorem rd_same (js : List Nat) : ∀ (f : Fra) (b : List UInt8), (rd js f b).k = f.k ∧ (rd js f b).st = f.st := by
  induction js with
  | nil => intro f b; exact ⟨rfl, rfl⟩
  | cons j js ih =>
    intro f b
    have h1 := ih (rdP j f (b.take (cutP j b))) (b.drop (cutP j b))
    have h2 := rdP_same j f (b.take (cutP j b))
    exact ⟨h1.1.trans h2.1, h1.2.trans h2.2⟩
theorem leastP_F0 (k fl st : Int) : leastP (partsOf (F0 k fl st 0)) = if k = 1 then (if has fl 32 = true then 5 else 0) else if k = 2 then 5 else if k = 3 ∨ k = 8 then 4 else if k = 5 then 4 else if k = 6 ∨ k = 7 then 8 else 0 := by
  rcases kinds k with h | h | h | h | h | h | h | h | h | h | h
  case inr.inl =>
    subst h
    cases hq : has fl 32 <;> simp [partsOf, F0, hq, leastP, sizeP]
  case inr.inr.inr.inr.inr.inr.inr.inr.inr.inr => simp [partsOf, F0, leastP, h]
  all_goals
    subst h
    simp [partsOf, F0, leastP, sizeP]
theorem short_eq {k fl st : Int} {n : Nat} (hz : sizedB (F0 k fl st 0) n = true) : n < leastP (partsOf (F0 k fl st 0)) ↔ n < leastD k fl := by
  rw [leastP_F0]
  unfold leastD
  rcases kinds k with h | h | h | h | h | h | h | h | h | h | h
  case inr.inl =>
    subst h
    cases hq : has fl 32 <;> simp
  case inr.inr.inr.inr.inr.inr.inr.inr.inr.inr => simp [h]
  all_goals
    subst h
    simp [sizedB, F0] at hz
    simp
  all_goals omega
theorem pad_least {k fl st : Int} (hp : padH k fl = true) : leastP (partsOf (F0 k fl st 0)) = leastD k fl := by
  rw [leastP_F0]
  unfold leastD
  simp only [padH, canP, Bool.and_eq_true, decide_eq_true_eq] at hp
  rcases hp.1 with h | h | h
  · subst h; simp
  · subst h; cases has fl 32 <;> simp
  · subst h; simp
/-- What stands behind a head, by the document. -/
def docO (k fl st : Int) (b : List UInt8) : Fra × Flt :=
  if (ptX k fl b).2.1 = 0 then
    (if (fdO k fl st (ptX k fl b).1 (ptX k fl b).2.2).2.is = true then (zeroF, (fdO k fl st (ptX k fl b).1 (ptX k fl b).2.2).2) else fdO k fl st (ptX k fl b).1 (ptX k fl b).2.2)
  else (zeroF, ⟨true, 0, (ptX k fl b).2.1⟩)
theorem last_eq (k fl st : Int) (x : Nat) (X : List UInt8) : (if (rd (partsOf (F0 k fl st 0)) (F0 k fl st x) X).k = 8 ∧ (rd (partsOf (F0 k fl st 0)) (F0 k fl st x) X).inc = 0 then (zeroF, (⟨true, (rd (partsOf (F0 k fl st 0)) (F0 k fl st x) X).st, 1⟩ : Flt)) else (rd (partsOf (F0 k fl st 0)) (F0 k fl st x) X, ⟨false, 0, 0⟩)) =
    (if (fdO k fl st x X).2.is = true then (zeroF, (fdO k fl st x X).2) else fdO k fl st x X) := by
  have e : partsOf (F0 k fl st 0) = partsOf (F0 k fl st x) := rfl
  rw [e]
  obtain ⟨h1, h2⟩ := rd_same (partsOf (F0 k fl st x)) (F0 k fl st x) X
  rw [h1, h2]
  unfold fdO
  by_cases h : k = 8 ∧ (rd (partsOf (F0 k fl st x)) (F0 k fl st x) X).inc = 0
  · rw [if_pos (show (F0 k fl st x).k = 8 ∧ _ from h), if_pos h]
    simp
    rfl
  · rw [if_neg (show ¬ ((F0 k fl st x).k = 8 ∧ _) from h), if_neg h]
    simp
theorem readO_doc {k fl st : Int} {b : List UInt8} (hpl : placedB k st = true) (hz : sizedB (F0 k fl st 0) b.length = true) : readO (F0 k fl st 0) b = docO k fl st b := by
  have e1 : placedB (F0 k fl st 0).k (F0 k fl st 0).st = placedB k st := rfl
  have e2 : padd (F0 k fl st 0) = padH k fl := rfl
  unfold readO
  rw [if_neg (by rw [e1, hpl]; simp), if_neg (by rw [hz]; simp), e2]
  cases hp : padH k fl
  · have ec : padC (F0 k fl st 0) b = b := by unfold padC; rw [e2, hp]; rfl
    have en : padN (F0 k fl st 0) b = 0 := by unfold padN; rw [e2, hp]; rfl
    rw [if_neg (by simp), ec, en]
    by_cases h : b.length < leastD k fl
    · rw [if_pos ((short_eq hz).2 h), docO, ptX_ns hp rfl h, if_neg (by simp)]
    · rw [if_neg (fun h2 => h ((short_eq hz).1 h2)), if_neg (by omega), docO, ptX_n hp rfl h, if_pos rfl, Nat.sub_zero, List.take_length]
      exact last_eq k fl st 0 b
  · have ec : padC (F0 k fl st 0) b = b.drop 1 := by unfold padC; rw [e2, hp]; rfl
    have en : padN (F0 k fl st 0) b = (b.getD 0 0).toNat := by unfold padN; rw [e2, hp]; rfl
    have el := pad_least (st := st) hp
    rw [ec, en, el, List.length_drop]
    by_cases h : b.length < 1 + leastD k fl
    · rw [docO, ptX_s hp rfl h]
      by_cases h3 : b.length = 0
      · rw [if_pos ⟨rfl, h3⟩, if_neg (by simp)]
      · rw [if_neg (fun h2 => h3 h2.2), if_pos (by omega), if_neg (by simp)]
    · rw [if_neg (fun h2 => h (by omega)), if_neg (by omega)]
      by_cases h4 : b.length - 1 - leastD k fl < (b.getD 0 0).toNat
      · rw [if_pos h4, docO, ptX_o hp rfl h h4, if_neg (by simp)]
      · rw [if_neg h4, docO, ptX_k hp rfl h h4, if_pos rfl]
        exact last_eq k fl st (b.getD 0 0).toNat _
theorem ptX_len {k fl : Int} {b : List UInt8} : (ptX k fl b).2.2.length ≤ b.length := by
  unfold ptX
  repeat' split
  all_goals simp
  all_goals omega
theorem ptX_fits {k fl st : Int} {b : List UInt8} (hk : knownB k = true) (hz : sizedB (F0 k fl st 0) b.length = true) (hc : (ptX k fl b).2.1 = 0) : fitsB k fl (ptX k fl b).2.2.length := by
  have hkr : 0 ≤ k ∧ k ≤ 9 := by simpa [knownB] using hk
  cases hp : padH k fl
  · by_cases h : b.length < leastD k fl
    · rw [ptX_ns hp rfl h] at hc
      simp at hc
    · rw [ptX_n hp rfl h]
      dsimp only
      generalize b.length = n at hz h
      unfold leastD at h
      refine ⟨?_, ?_, ?_, ?_, ?_, ?_, ?_, ?_⟩
      all_goals intro e
      all_goals subst e
      case refine_8 => intro hq; simp [hq] at h; exact h
      case refine_4 =>
        have hz2 : decide (n = 0 ∨ (n % 6 = 0 ∧ has fl 1 = false)) = true := hz
        rcases of_decide_eq_true hz2 with h | h
        · omega
        · exact h.1
      all_goals simp [sizedB, F0] at hz
      all_goals simp at h
      all_goals omega
  · by_cases h : b.length < 1 + leastD k fl
    · rw [ptX_s hp rfl h] at hc
      simp at hc
    · by_cases h4 : b.length - 1 - leastD k fl < (b.getD 0 0).toNat
      · rw [ptX_o hp rfl h h4] at hc
        simp at hc
      · rw [ptX_k hp rfl h h4]
        simp only [List.length_take, List.length_drop]
        generalize b.length = n at hz h h4
        generalize (b.getD 0 0).toNat = y at h4
        unfold leastD at h h4
        simp only [padH, canP, Bool.and_eq_true, decide_eq_true_eq] at hp
        refine ⟨?_, ?_, ?_, ?_, ?_, ?_, ?_, ?_⟩
        all_goals intro e
        all_goals subst e
        case refine_8 => intro hq; simp [hq] at h h4; omega
        case refine_7 => simp at h h4; omega
        all_goals omega
end Go.Proofs.Ytikaefjhmgcidaa
