/- Plain facts: what is written is read back. -/
import Derived.Test.YtikaefjhmgcidaaZMFk
namespace Go.Proofs.Ytikaefjhmgcidaa
open Go.RowKit
set_option linter.unusedVariables false
set_option maxRecDepth 100000
set_option maxHeartbeats 4000000

theorem num_snoc (X : List UInt8) (c : UInt8) : num (X ++ [c]) = num X * 256 + c.toNat := by simp [num, List.foldl_append]
theorem num_be (n : Nat) : ∀ m, num (be n m) = m % 256 ^ n := by
  induction n with
  | zero => intro m; simp [be, num]; omega
  | succ n ih =>
    intro m
    rw [be, num_snoc, ih]
    have h1 : (UInt8.ofNat m).toNat = m % 256 := by simp
    rw [h1, Nat.pow_succ, Nat.mul_comm (256 ^ n) 256, Nat.mod_mul, Nat.mul_comm, Nat.add_comm]
theorem num_be_lt (n m : Nat) (h : m < 256 ^ n) : num (be n m) = m := by rw [num_be, Nat.mod_eq_of_lt h]

/-- A part is copied. -/
def cpP (f g : Fra) (j : Nat) : Fra :=
  if j = 0 then { g with last := f.last } else if j = 1 then { g with code := f.code } else if j = 2 then { g with dep := f.dep, only := f.only, wt := f.wt }
  else if j = 3 ∨ j = 5 then { g with X := f.X } else if j = 4 then { g with Y := f.Y } else { g with inc := f.inc }
def baseF (f : Fra) : Fra := { zeroF with k := f.k, fl := f.fl, st := f.st, pad := if padd f then f.pad else 0 }
/-- A frame, as far as its type uses it. -/
def nf (f : Fra) : Fra := (partsOf f).foldl (cpP f) (baseF f)

theorem piece_len {j : Nat} {f : Fra} (hj : j < 7) (h : (pieceO j f).1 = 0) (hz : sizeP j ≠ 0) : (pieceO j f).2.length = sizeP j := by
  obtain rfl | rfl | rfl | rfl | rfl | rfl | rfl : j = 0 ∨ j = 1 ∨ j = 2 ∨ j = 3 ∨ j = 4 ∨ j = 5 ∨ j = 6 := by omega
  all_goals simp [sizeP] at hz
  all_goals simp [pieceO] at h ⊢
  all_goals first
    | (split at h <;> simp_all [be_length, sizeP])
    | simp [be_length, sizeP]
theorem setsOf_back (Y : List (Int × Nat)) (h : Y.all setOk = true) (h2 : ∀ s ∈ Y, s.2 < 4294967296) : setsOf Y.length (setsB Y) = Y := by
  induction Y with
  | nil => rfl
  | cons s Y ih =>
    simp only [List.all_cons, Bool.and_eq_true] at h
    have hs := h.1
    simp [setOk] at hs
    have e : setsB (s :: Y) = be 2 s.1.toNat ++ (be 4 s.2 ++ setsB Y) := by simp [setsB, setB]
    have l2 : (be 2 s.1.toNat).length = 2 := be_length _ _
    have l4 : (be 4 s.2).length = 4 := be_length _ _
    have e6 : (be 2 s.1.toNat ++ (be 4 s.2 ++ setsB Y)).drop 6 = setsB Y := by
      rw [← List.append_assoc, List.drop_append_of_le_length (by simp [l2, l4]), List.drop_of_length_le (by simp [l2, l4]), List.nil_append]
    rw [e, List.length_cons, setsOf, e6, ih h.2 (fun t ht => h2 t (by simp [ht])), List.take_append_of_le_length (by omega), List.take_of_length_le (by omega), num_be_lt _ _ (by omega)]
    congr 1
    rw [List.drop_append_of_le_length (by omega), List.drop_of_length_le (by omega), List.nil_append, List.take_append_of_le_length (by omega), List.take_of_length_le (by omega), num_be_lt _ _ (by have := h2 s (by simp); omega)]
    apply Prod.ext
    · simp; omega
    · rfl
/-- Numbers that fit. -/
structure Fits (f : Fra) : Prop where
  code : f.code < 4294967296
  sets : ∀ s ∈ f.Y, s.2 < 4294967296
theorem piece_back {j : Nat} {f g : Fra} (hj : j < 7) (hf : Fits f) (h : (pieceO j f).1 = 0) (hY : j = 4 → g.Y = []) : rdP j g (pieceO j f).2 = cpP f g j := by
  obtain rfl | rfl | rfl | rfl | rfl | rfl | rfl : j = 0 ∨ j = 1 ∨ j = 2 ∨ j = 3 ∨ j = 4 ∨ j = 5 ∨ j = 6 := by omega
  · have hi : idOk f.last = true := by
      cases hi : idOk f.last
      · simp [pieceO, hi] at h
      · rfl
    have hp : (pieceO 0 f).2 = be 4 f.last.toNat := by simp [pieceO, hi]
    have hi2 := hi
    simp [idOk] at hi2
    have ht : (be 4 f.last.toNat).take 4 = be 4 f.last.toNat := List.take_of_length_le (by rw [be_length]; omega)
    rw [hp]
    simp only [rdP, cpP, if_true, ht, num_be_lt _ _ (show f.last.toNat < 256 ^ 4 by omega)]
    congr
    omega
  · have hp : (pieceO 1 f).2 = be 4 f.code := by simp [pieceO]
    have ht : (be 4 f.code).take 4 = be 4 f.code := List.take_of_length_le (by rw [be_length]; omega)
    rw [hp]
    simp [rdP, cpP, ht, num_be_lt _ _ (show f.code < 256 ^ 4 from hf.code)]
  · have hi : (idOk f.dep && decide (1 ≤ f.wt ∧ f.wt ≤ 256)) = true := by
      cases hi : (idOk f.dep && decide (1 ≤ f.wt ∧ f.wt ≤ 256))
      · simp only [pieceO, hi] at h; simp at h
      · rfl
    have hp : (pieceO 2 f).2 = be 4 (depW f) ++ [UInt8.ofNat (f.wt - 1).toNat] := by simp only [pieceO, hi]; simp
    simp [idOk] at hi
    have hd : depW f < 256 ^ 4 := by unfold depW; split <;> omega
    have ht : (be 4 (depW f) ++ [UInt8.ofNat (f.wt - 1).toNat]).take 4 = be 4 (depW f) := by
      rw [List.take_append_of_le_length (by rw [be_length]; omega)]
      exact List.take_of_length_le (by rw [be_length]; omega)
    have h4 : (be 4 (depW f) ++ [UInt8.ofNat (f.wt - 1).toNat]).getD 4 0 = UInt8.ofNat (f.wt - 1).toNat := by
      rw [List.getD_eq_getElem?_getD, List.getElem?_append_right (by rw [be_length]; omega), be_length]
      rfl
    have h0 : ((be 4 (depW f) ++ [UInt8.ofNat (f.wt - 1).toNat]).getD 0 0).toNat = depW f / 16777216 := by
      have : depW f / 256 / 256 / 256 % 256 = depW f / 16777216 := by omega
      simp [be]
      omega
    rw [hp]
    simp only [rdP, cpP, ht, h4, h0, num_be_lt _ _ hd]
    simp
    refine ⟨?_, ?_, ?_⟩
    · unfold depW; split <;> omega
    · unfold depW
      cases f.only
      · simp; omega
      · simp; omega
    · omega
  · simp [rdP, cpP, pieceO]
  · have hb : (decide (0 < f.Y.length) && has f.fl 1) = false := by
      cases hb : (decide (0 < f.Y.length) && has f.fl 1)
      · rfl
      · simp only [pieceO, hb] at h; simp at h
    have ha : f.Y.all setOk = true := by
      cases ha : f.Y.all setOk
      · simp only [pieceO, hb, ha] at h; simp at h
      · rfl
    have hp : (pieceO 4 f).2 = setsB f.Y := by simp only [pieceO, hb, ha]; simp
    rw [hp]
    have hl : (setsB f.Y).length / 6 = f.Y.length := by rw [setsB_len]; omega
    simp [rdP, cpP, hY rfl, hl, setsOf_back f.Y ha hf.sets]
  · have hx : f.X.length = 8 := by
      by_cases hx : f.X.length = 8
      · exact hx
      · simp [pieceO, hx] at h
    have hp : (pieceO 5 f).2 = f.X := by simp [pieceO, hx]
    rw [hp]
    simp [rdP, cpP]
  · have hi : decide (1 ≤ f.inc ∧ f.inc ≤ 2147483647) = true := by
      cases hi : decide (1 ≤ f.inc ∧ f.inc ≤ 2147483647)
      · simp only [pieceO, hi] at h; simp at h
      · rfl
    have hp : (pieceO 6 f).2 = be 4 f.inc.toNat := by simp only [pieceO, hi]; simp
    simp at hi
    have ht : (be 4 f.inc.toNat).take 4 = be 4 f.inc.toNat := List.take_of_length_le (by rw [be_length]; omega)
    rw [hp]
    simp [rdP, cpP, ht, num_be_lt _ _ (show f.inc.toNat < 256 ^ 4 by omega)]
    omega
theorem rd_pieces {f : Fra} (hf : Fits f) : ∀ (js : List Nat) (g : Fra), (∀ j ∈ js, j < 7) → (∀ j ∈ js, (pieceO j f).1 = 0) → (∀ i j, js[i]? = some j → sizeP j = 0 → i + 1 = js.length) → (4 ∈ js → js = [4] ∧ g.Y = []) →
    rd js g (pieceL f js).flatten = js.foldl (cpP f) g := by
  intro js
  induction js with
  | nil => intro g _ _ _ _; rfl
  | cons j js ih =>
    intro g h7 hok hl h4
    have hj7 := h7 j (by simp)
    have hjo := hok j (by simp)
    obtain ⟨P, hP⟩ : ∃ P, (pieceO j f).2 = P := ⟨_, rfl⟩
    have hfl : (pieceL f (j :: js)).flatten = P ++ (pieceL f js).flatten := by simp [pieceL, hP]
    have hcut : cutP j (P ++ (pieceL f js).flatten) = P.length := by
      rw [cutP]
      by_cases hz : sizeP j = 0
      · rw [if_pos hz]
        have := hl 0 j rfl hz
        have hjs : js = [] := List.eq_nil_of_length_eq_zero (by simpa using this)
        subst hjs
        simp [pieceL]
      · rw [if_neg hz, ← hP, piece_len hj7 hjo hz]
    rw [hfl, rd, hcut, List.take_left, List.drop_left, ← hP, piece_back hj7 hf hjo (fun e => (h4 (by simp [e])).2), List.foldl_cons]
    refine ih _ (fun k hk => h7 k (by simp [hk])) (fun k hk => hok k (by simp [hk])) (fun i k hi hz => ?_) (fun h => ?_)
    · have := hl (i + 1) k (by simpa using hi) hz
      simpa using this
    · have := (h4 (by simp [h])).1
      simp at this
      rw [this.2] at h
      simp at h
end Go.Proofs.Ytikaefjhmgcidaa
/- Plain facts: the frame that is written is the frame that is read. -/
namespace Go.Proofs.Ytikaefjhmgcidaa
open Go.RowKit
set_option linter.unusedVariables false
set_option maxRecDepth 100000
set_option maxHeartbeats 4000000

theorem headB_eq (f : Fra) (n : Nat) : headB f n = [UInt8.ofNat (n / 256 / 256), UInt8.ofNat (n / 256), UInt8.ofNat n, UInt8.ofNat f.k.toNat, UInt8.ofNat f.fl.toNat, UInt8.ofNat (f.st.toNat / 256 / 256 / 256), UInt8.ofNat (f.st.toNat / 256 / 256), UInt8.ofNat (f.st.toNat / 256), UInt8.ofNat f.st.toNat] := by
  simp [headB, be]
theorem headB_len (f : Fra) (n : Nat) : (headB f n).length = 9 := by simp [headB_eq]
theorem head_num (f : Fra) (n : Nat) (R : List UInt8) (h : n ≤ 16777215) : num ((headB f n ++ R).take 3) = n := by
  have h1 : (headB f n ++ R).take 3 = be 3 n := by simp [headB_eq, be]
  rw [h1, num_be_lt _ _ (by omega)]
/-- A frame that is its head alone. -/
def headOf (f : Fra) : Fra := { zeroF with k := f.k, fl := f.fl, st := f.st }
theorem head_frame (f : Fra) (n : Nat) (R : List UInt8) (h : headOk f = true) : headF (headB f n ++ R) = headOf f := by
  simp [headOk, knownB, idOk] at h
  have h1 : ((headB f n ++ R).drop 5).take 4 = be 4 f.st.toNat := by simp [headB_eq, be]
  have h3 : (headB f n ++ R).getD 3 0 = UInt8.ofNat f.k.toNat := by simp [headB_eq]
  have h4 : (headB f n ++ R).getD 4 0 = UInt8.ofNat f.fl.toNat := by simp [headB_eq]
  unfold headF headOf
  rw [h1, h3, h4, num_be_lt _ _ (show f.st.toNat < 256 ^ 4 by omega)]
  simp
  omega
theorem head_drop (f : Fra) (n : Nat) (R : List UInt8) : (headB f n ++ R).drop 9 = R := by
  rw [List.drop_append_of_le_length (by rw [headB_len]; omega), List.drop_of_length_le (by rw [headB_len]; omega), List.nil_append]

theorem writeO_ok {f : Fra} (h : (writeO f).1 = 0) : headOk f = true ∧ placedB f.k f.st = true ∧ padOk f = true ∧ (allP f).1 = 0 ∧ (allP f).2.flatten.length ≤ 16777215 ∧ (writeO f).2 = headB f (allP f).2.flatten.length ++ (allP f).2.flatten := by
  unfold writeO at h ⊢
  split at h
  · rename_i h1
    simp only [Bool.and_eq_true] at h1
    split at h
    · rename_i h2
      split at h
      · rename_i h3
        simp only [h1.1.1, h1.1.2, h1.2, h2, h3]
        simp
      · simp at h
    · simp at h
  · simp at h
theorem allP_ok {f : Fra} (h : (allP f).1 = 0) : (∀ j ∈ partsOf f, (pieceO j f).1 = 0) ∧ (allP f).2 = padsB f ++ pieceL f (partsOf f) ++ padsE f := by
  unfold allP at h ⊢
  split at h
  · rename_i h1
    have hok : ∀ j ∈ partsOf f, (pieceO j f).1 = 0 := fun j hj => by
      apply Classical.byContradiction
      intro hb
      exact pieces_bad hj hb h1
    rw [if_pos h1]
    exact ⟨hok, by rw [pieces_ok hok]⟩
  · simp at h
theorem leastP_cons (j : Nat) (js : List Nat) : leastP (j :: js) = sizeP j + leastP js := by simp [leastP]
theorem least_pieces {f : Fra} : ∀ (js : List Nat), (∀ j ∈ js, j < 7) → (∀ j ∈ js, (pieceO j f).1 = 0) → leastP js ≤ (pieceL f js).flatten.length := by
  intro js
  induction js with
  | nil => intro _ _; simp [leastP]
  | cons j js ih =>
    intro h7 hok
    have h1 := ih (fun k hk => h7 k (by simp [hk])) (fun k hk => hok k (by simp [hk]))
    have h2 : sizeP j ≤ (pieceO j f).2.length := by
      by_cases hz : sizeP j = 0
      · omega
      · rw [piece_len (h7 j (by simp)) (hok j (by simp)) hz]; omega
    rw [leastP_cons]
    simp only [pieceL, List.map_cons, List.flatten_cons, List.length_append] at *
    omega
theorem parts_is (f : Fra) : partsOf f ∈ [[2, 3], [3], [2], [1], [4], [0, 3], [5], [0, 1, 3], [6], []] := by
  unfold partsOf
  repeat' split
  all_goals simp
theorem parts_last {f : Fra} : ∀ i j, (partsOf f)[i]? = some j → sizeP j = 0 → i + 1 = (partsOf f).length := by
  have h := parts_is f
  generalize partsOf f = L at h
  intro i j hi hj
  simp only [List.mem_cons, List.not_mem_nil, or_false] at h
  rcases h with rfl | rfl | rfl | rfl | rfl | rfl | rfl | rfl | rfl | rfl
  all_goals rcases i with _ | _ | _ | i
  all_goals simp at hi
  all_goals first | rfl | (subst hi; revert hj; decide)
theorem parts_sets {f : Fra} (h : 4 ∈ partsOf f) : f.k = 4 ∧ partsOf f = [4] := by
  unfold partsOf at *
  repeat' split at h
  all_goals simp at h
  all_goals simp_all

/-- Which sizes the pieces of a frame have. -/
theorem sized_pieces {f : Fra} (hp : padd f = false) (hok : ∀ j ∈ partsOf f, (pieceO j f).1 = 0) : sizedB (headOf f) (pieceL f (partsOf f)).flatten.length = true := by
  have hl : ∀ j ∈ partsOf f, sizeP j ≠ 0 → (pieceO j f).2.length = sizeP j := fun j hj hz => piece_len (partsOf_lt j hj) (hok j hj) hz
  have hk0 : (headOf f).k = f.k := rfl
  have hf0 : (headOf f).fl = f.fl := rfl
  rw [sizedB, hk0, hf0]
  by_cases h2 : f.k = 2
  · rw [if_pos h2]
    have e : partsOf f = [2] := by simp [partsOf, h2]
    rw [e] at hl ⊢
    have := hl 2 (by simp) (by decide)
    simp [pieceL, this, sizeP]
  rw [if_neg h2]
  by_cases h3 : f.k = 3 ∨ f.k = 8
  · rw [if_pos h3]
    rcases h3 with h3 | h3
    · have e : partsOf f = [1] := by simp [partsOf, h3]
      rw [e] at hl ⊢
      have := hl 1 (by simp) (by decide)
      simp [pieceL, this, sizeP]
    · have e : partsOf f = [6] := by simp [partsOf, h3]
      rw [e] at hl ⊢
      have := hl 6 (by simp) (by decide)
      simp [pieceL, this, sizeP]
  rw [if_neg h3]
  by_cases h4 : f.k = 4
  · rw [if_pos h4]
    have e : partsOf f = [4] := by simp [partsOf, h4]
    rw [e] at hok ⊢
    have ho := hok 4 (by simp)
    have hb : (decide (0 < f.Y.length) && has f.fl 1) = false := by
      cases hb : (decide (0 < f.Y.length) && has f.fl 1)
      · rfl
      · simp only [pieceO, hb] at ho; simp at ho
    have ha : f.Y.all setOk = true := by
      cases ha : f.Y.all setOk
      · simp only [pieceO, hb, ha] at ho; simp at ho
      · rfl
    have hp : (pieceO 4 f).2 = setsB f.Y := by simp only [pieceO, hb, ha]; simp
    have hsl := setsB_len f.Y
    simp only [pieceL, List.map_cons, List.map_nil, hp, List.flatten_cons, List.flatten_nil, List.append_nil, hsl]
    simp at hb ⊢
    by_cases hy : f.Y.length = 0
    · left
      omega
    · right
      exact hb (by omega)
  rw [if_neg h4]
  by_cases h6 : f.k = 6
  · rw [if_pos h6]
    have e : partsOf f = [5] := by simp [partsOf, h6]
    rw [e] at hl ⊢
    have := hl 5 (by simp) (by decide)
    simp [pieceL, this, sizeP]
  rw [if_neg h6]
  by_cases h7 : f.k = 7
  · rw [if_pos h7]
    have e : partsOf f = [0, 1, 3] := by simp [partsOf, h7]
    rw [e] at hl ⊢
    have h0 := hl 0 (by simp) (by decide)
    have h1 := hl 1 (by simp) (by decide)
    simp [pieceL, h0, h1, sizeP]
    omega
  rw [if_neg h7]
theorem sized_any {f : Fra} (hp : padd f = true) (n : Nat) : sizedB (headOf f) n = true := by
  have hc : canP f.k = true := by
    cases hc : canP f.k
    · simp [padd, hc] at hp
    · rfl
  simp [canP] at hc
  have hk0 : (headOf f).k = f.k := rfl
  rw [sizedB, hk0]
  rcases hc with h | h | h <;> simp [h]

theorem cp_keeps {f : Fra} : ∀ (js : List Nat) (g : Fra), (js.foldl (cpP f) g).k = g.k ∧ (js.foldl (cpP f) g).fl = g.fl ∧ (js.foldl (cpP f) g).st = g.st ∧ (js.foldl (cpP f) g).pad = g.pad := by
  intro js
  induction js with
  | nil => intro g; exact ⟨rfl, rfl, rfl, rfl⟩
  | cons j js ih =>
    intro g
    have h := ih (cpP f g j)
    have h2 : (cpP f g j).k = g.k ∧ (cpP f g j).fl = g.fl ∧ (cpP f g j).st = g.st ∧ (cpP f g j).pad = g.pad := by
      unfold cpP
      repeat' split
      all_goals exact ⟨rfl, rfl, rfl, rfl⟩
    rw [List.foldl_cons]
    exact ⟨h.1.trans h2.1, h.2.1.trans h2.2.1, h.2.2.1.trans h2.2.2.1, h.2.2.2.trans h2.2.2.2⟩
theorem nf_head (f : Fra) : (nf f).k = f.k ∧ (nf f).fl = f.fl ∧ (nf f).st = f.st ∧ (nf f).pad = if padd f then f.pad else 0 := cp_keeps (partsOf f) (baseF f)

theorem read_back {f : Fra} (hf : Fits f) (hh : headOk f = true) (hpl : placedB f.k f.st = true) (hpo : padOk f = true) (ha : (allP f).1 = 0) : readO (headOf f) (allP f).2.flatten = (nf f, ⟨false, 0, 0⟩) := by
  obtain ⟨hok, hall⟩ := allP_ok ha
  have hk0 : (headOf f).k = f.k := rfl
  have hs0 : (headOf f).st = f.st := rfl
  have hpd : padd (headOf f) = padd f := rfl
  have hpt : partsOf (headOf f) = partsOf f := rfl
  have hls := least_pieces (f := f) (partsOf f) partsOf_lt hok
  obtain ⟨P, hP⟩ : ∃ P, (pieceL f (partsOf f)).flatten = P := ⟨_, rfl⟩
  rw [hP] at hls
  have hrd : ∀ g : Fra, g.Y = [] → rd (partsOf f) g P = (partsOf f).foldl (cpP f) g := fun g hg => by
    rw [← hP]
    exact rd_pieces hf (partsOf f) g partsOf_lt hok parts_last (fun h => ⟨(parts_sets h).2, hg⟩)
  have hfin : ∀ g : Fra, g = nf f → ¬ (g.k = 8 ∧ g.inc = 0) := fun g hg h => by
    subst hg
    have hk := (nf_head f).1
    rw [h.1] at hk
    have e : partsOf f = [6] := by simp [partsOf, ← hk]
    have hi : (nf f).inc = f.inc := by rw [nf, e]; rfl
    have ho := hok 6 (by rw [e]; simp)
    rw [hi] at h
    simp [pieceO, h.2] at ho
  rw [readO, hk0, hs0, hpd, hpt, if_neg (by rw [hpl]; simp)]
  cases hp : padd f
  · have hflat : (allP f).2.flatten = P := by rw [hall]; simp [padsB, padsE, hp, hP]
    have hsz := sized_pieces hp hok
    rw [hP] at hsz
    have hc : padC (headOf f) P = P := by simp [padC, hpd, hp]
    have hn : padN (headOf f) P = 0 := by simp [padN, hpd, hp]
    rw [hflat, if_neg (by rw [hsz]; simp), if_neg (by simp), hc, hn, if_neg (by omega), if_neg (by omega)]
    have hg : rd (partsOf f) { headOf f with pad := ((0 : Nat) : Int) } (P.take (P.length - 0)) = nf f := by
      rw [Nat.sub_zero, List.take_of_length_le (Nat.le_refl _), hrd _ rfl, nf, baseF, hp]
      rfl
    refine (congrArg (fun g : Fra => if g.k = 8 ∧ g.inc = 0 then (zeroF, (⟨true, g.st, 1⟩ : Flt)) else (g, ⟨false, 0, 0⟩)) hg).trans ?_
    exact if_neg (hfin _ rfl)
  · have hpb : 0 ≤ f.pad ∧ f.pad ≤ 255 := by simpa [padOk, hp] using hpo
    have hflat : (allP f).2.flatten = UInt8.ofNat f.pad.toNat :: (P ++ List.replicate f.pad.toNat 0) := by rw [hall]; simp [padsB, padsE, hp, hP]
    have hsz := sized_any hp (UInt8.ofNat f.pad.toNat :: (P ++ List.replicate f.pad.toNat 0)).length
    have hc : padC (headOf f) (UInt8.ofNat f.pad.toNat :: (P ++ List.replicate f.pad.toNat 0)) = P ++ List.replicate f.pad.toNat 0 := by simp [padC, hpd, hp]
    have hn : padN (headOf f) (UInt8.ofNat f.pad.toNat :: (P ++ List.replicate f.pad.toNat 0)) = f.pad.toNat := by
      simp [padN, hpd, hp]
      omega
    rw [hflat, if_neg (by rw [hsz]; simp), if_neg (by simp), hc, hn, if_neg (by simp; omega), if_neg (by simp; omega)]
    have hg : rd (partsOf f) { headOf f with pad := ((f.pad.toNat : Nat) : Int) } ((P ++ List.replicate f.pad.toNat 0).take ((P ++ List.replicate f.pad.toNat 0).length - f.pad.toNat)) = nf f := by
      have e : (P ++ List.replicate f.pad.toNat (0 : UInt8)).length - f.pad.toNat = P.length := by simp
      have e2 : ((f.pad.toNat : Nat) : Int) = f.pad := by omega
      rw [e, List.take_left, hrd _ rfl, e2, nf, baseF, hp]
      rfl
    refine (congrArg (fun g : Fra => if g.k = 8 ∧ g.inc = 0 then (zeroF, (⟨true, g.st, 1⟩ : Flt)) else (g, ⟨false, 0, 0⟩)) hg).trans ?_
    exact if_neg (hfin _ rfl)

/-- What is written is read back, whatever stands behind. -/
theorem parse_back {f : Fra} (hf : Fits f) (h : (writeO f).1 = 0) (Z : List UInt8) (most : Int) (hm : 16777215 ≤ most) : parseO ((writeO f).2 ++ Z) most = (nf f, (writeO f).2.length, ⟨false, 0, 0⟩, 0) := by
  obtain ⟨h1, h2, h3, h4, h5, h6⟩ := writeO_ok h
  obtain ⟨body, hb⟩ : ∃ body, (allP f).2.flatten = body := ⟨_, rfl⟩
  have hrb := read_back hf h1 h2 h3 h4
  rw [hb] at h5 h6 hrb
  have hl := headB_len f body.length
  rw [h6, List.append_assoc, parseO, if_neg (by omega), if_neg (by simp [hl]), head_num _ _ _ h5, if_neg (by omega), if_neg (by simp [hl]), head_frame _ _ _ h1, head_drop, List.take_left, hrb]
  simp [hl]
/-- No beginning of a frame is a frame. -/
theorem parse_short {f : Fra} (h : (writeO f).1 = 0) (c : Nat) (hc : c < (writeO f).2.length) : parseO ((writeO f).2.take c) 16777215 = (zeroF, 0, ⟨false, 0, 0⟩, 3) := by
  obtain ⟨h1, h2, h3, h4, h5, h6⟩ := writeO_ok h
  obtain ⟨body, hb⟩ : ∃ body, (allP f).2.flatten = body := ⟨_, rfl⟩
  rw [hb] at h5 h6
  have hl := headB_len f body.length
  rw [h6] at hc ⊢
  rw [List.length_append, hl] at hc
  have hlen : ((headB f body.length ++ body).take c).length = c := by rw [List.length_take, List.length_append, hl]; omega
  rw [parseO, if_neg (by omega), hlen]
  by_cases h9 : c < 9
  · rw [if_pos h9]
  · have hn : num (((headB f body.length ++ body).take c).take 3) = body.length := by
      rw [List.take_take, Nat.min_eq_left (by omega), head_num _ _ _ h5]
    rw [if_neg h9, hn, if_neg (by omega), if_pos (by omega)]
end Go.Proofs.Ytikaefjhmgcidaa
/- Plain facts: a reader of frames, whatever bytes come; what is told of bytes is told however they are cut. -/
namespace Go.Proofs.Ytikaefjhmgcidaa
set_option linter.unusedVariables false
set_option maxRecDepth 100000
set_option maxHeartbeats 4000000

theorem take_more {B C : List UInt8} {n : Nat} (h : n ≤ B.length) : (B ++ C).take n = B.take n := List.take_append_of_le_length h
theorem drop_more {B C : List UInt8} {n : Nat} (h : n ≤ B.length) : (B ++ C).drop n = B.drop n ++ C := List.drop_append_of_le_length h
theorem getD_more {B C : List UInt8} {n : Nat} (h : n < B.length) : (B ++ C).getD n 0 = B.getD n 0 := by
  simp only [List.getD_eq_getElem?_getD, List.getElem?_append_left h]
theorem cut_more {B C : List UInt8} {p n : Nat} (h : p + n ≤ B.length) : ((B ++ C).drop p).take n = (B.drop p).take n := by
  rw [drop_more (by omega), take_more (by rw [List.length_drop]; omega)]
theorem headF_more {B C : List UInt8} (h : 9 ≤ B.length) : headF (B ++ C) = headF B := by
  unfold headF
  rw [getD_more (by omega), getD_more (by omega), cut_more (by omega)]
/-- Where Parse tells a frame or a fault, it has enough bytes, and would tell the same if more stood behind. -/
theorem parse_more {B : List UInt8} {most : Int} (h : (parseO B most).2.2.2 = 0) : (9 ≤ (parseO B most).2.1 ∧ (parseO B most).2.1 ≤ B.length) ∧ ∀ C, parseO (B ++ C) most = parseO B most := by
  by_cases h0 : most < 0
  · rw [parseO, if_pos h0] at h; simp at h
  by_cases h9 : B.length < 9
  · rw [parseO, if_neg h0, if_pos h9] at h; simp at h
  have e3 : ∀ C, (B ++ C).take 3 = B.take 3 := fun C => take_more (by omega)
  by_cases hb : most < (num (B.take 3) : Nat)
  · have e : parseO B most = (zeroF, 9, ⟨true, 0, 6⟩, 0) := by rw [parseO, if_neg h0, if_neg h9, if_pos hb]
    rw [e]
    refine ⟨⟨Nat.le_refl _, by show 9 ≤ B.length; omega⟩, fun C => ?_⟩
    rw [parseO, if_neg h0, if_neg (by rw [List.length_append]; omega), if_pos (by rw [e3]; exact hb)]
  by_cases hs : B.length < 9 + num (B.take 3)
  · rw [parseO, if_neg h0, if_neg h9, if_neg hb, if_pos hs] at h; simp at h
  have e : parseO B most = ((readO (headF B) ((B.drop 9).take (num (B.take 3)))).1, 9 + num (B.take 3), (readO (headF B) ((B.drop 9).take (num (B.take 3)))).2, 0) := by rw [parseO, if_neg h0, if_neg h9, if_neg hb, if_neg hs]
  rw [e]
  refine ⟨⟨by simp, by simp; omega⟩, fun C => ?_⟩
  rw [parseO, if_neg h0, if_neg (by rw [List.length_append]; omega), e3, if_neg hb, if_neg (by rw [List.length_append]; omega), headF_more (by omega), cut_more (by omega)]

/-- What a reader tells next (a frame; whether it is one; what is wrong), what it then has, and the fault by which it has failed. -/
def nextO (most : Int) : Nat → List UInt8 → Flt → (Fra × Bool × Flt) × List UInt8 × Flt
  | 0, B, X => ((zeroF, false, ⟨false, 0, 0⟩), B, X)
  | n + 1, B, X =>
    if X.is = true then ((zeroF, false, X), B, X)
    else if (parseO B most).2.2.2 ≠ 0 then ((zeroF, false, ⟨false, 0, 0⟩), B, X)
    else if (parseO B most).2.2.1.is = true ∧ (parseO B most).2.2.1.st = 0 then ((zeroF, false, (parseO B most).2.2.1), B, (parseO B most).2.2.1)
    else if (parseO B most).2.2.1.is = true then ((zeroF, false, (parseO B most).2.2.1), B.drop (parseO B most).2.1, X)
    else if knownB (parseO B most).1.k = true then (((parseO B most).1, true, ⟨false, 0, 0⟩), B.drop (parseO B most).2.1, X)
    else nextO most n (B.drop (parseO B most).2.1) X
def nextR (most : Int) (B : List UInt8) (X : Flt) : (Fra × Bool × Flt) × List UInt8 × Flt := nextO most (B.length + 1) B X
theorem nextO_any (most : Int) : ∀ (n m : Nat) (B : List UInt8) (X : Flt), B.length < n → B.length < m → nextO most n B X = nextO most m B X := by
  intro n
  induction n with
  | zero => intro m B X h; omega
  | succ n ih =>
    intro m B X h1 h2
    cases m with
    | zero => omega
    | succ m =>
      simp only [nextO]
      by_cases he : (parseO B most).2.2.2 = 0
      · have hp := (parse_more he).1
        rw [ih m (B.drop (parseO B most).2.1) X (by rw [List.length_drop]; omega) (by rw [List.length_drop]; omega)]
      · rw [if_pos he]
        rw [if_pos he]
theorem nextR_eq (most : Int) (B : List UInt8) (X : Flt) : nextR most B X =
    if X.is = true then ((zeroF, false, X), B, X)
    else if (parseO B most).2.2.2 ≠ 0 then ((zeroF, false, ⟨false, 0, 0⟩), B, X)
    else if (parseO B most).2.2.1.is = true ∧ (parseO B most).2.2.1.st = 0 then ((zeroF, false, (parseO B most).2.2.1), B, (parseO B most).2.2.1)
    else if (parseO B most).2.2.1.is = true then ((zeroF, false, (parseO B most).2.2.1), B.drop (parseO B most).2.1, X)
    else if knownB (parseO B most).1.k = true then (((parseO B most).1, true, ⟨false, 0, 0⟩), B.drop (parseO B most).2.1, X)
    else nextR most (B.drop (parseO B most).2.1) X := by
  unfold nextR
  by_cases he : (parseO B most).2.2.2 = 0
  · have hp := (parse_more he).1
    rw [← nextO_any most B.length ((B.drop (parseO B most).2.1).length + 1) (B.drop (parseO B most).2.1) X (by rw [List.length_drop]; omega) (by omega)]
    rfl
  · rw [nextO, if_pos he, if_pos he]
/-- It tells nothing. -/
def mute (r : (Fra × Bool × Flt) × List UInt8 × Flt) : Prop := r.1 = (zeroF, false, ⟨false, 0, 0⟩)
/-- With more bytes behind: what was told is told; where nothing was told, it goes on from what is left. -/
theorem next_more (most : Int) : ∀ (n : Nat) (B : List UInt8) (X : Flt), B.length < n → X.is = false → ∀ C,
    ((nextR most B X).1.2.1 = false ∧ (nextR most B X).1.2.2.is = false → nextR most (B ++ C) X = nextR most ((nextR most B X).2.1 ++ C) X ∧ (nextR most B X).2.2 = X ∧ (nextR most B X).1 = (zeroF, false, ⟨false, 0, 0⟩) ∧ nextR most (nextR most B X).2.1 X = nextR most B X) ∧
    (¬ ((nextR most B X).1.2.1 = false ∧ (nextR most B X).1.2.2.is = false) → nextR most (B ++ C) X = ((nextR most B X).1, (nextR most B X).2.1 ++ C, (nextR most B X).2.2)) := by
  intro n
  induction n with
  | zero => intro B X h; omega
  | succ n ih =>
    intro B X hB hX C
    have hX' : ¬ X.is = true := by rw [hX]; simp
    by_cases he : (parseO B most).2.2.2 = 0
    · obtain ⟨⟨h9, hn⟩, hm⟩ := parse_more he
      have hC := hm C
      by_cases h1 : (parseO B most).2.2.1.is = true ∧ (parseO B most).2.2.1.st = 0
      · have e1 : nextR most B X = ((zeroF, false, (parseO B most).2.2.1), B, (parseO B most).2.2.1) := by rw [nextR_eq, if_neg hX', if_neg (by simp [he]), if_pos h1]
        have e2 : nextR most (B ++ C) X = ((zeroF, false, (parseO B most).2.2.1), B ++ C, (parseO B most).2.2.1) := by rw [nextR_eq, if_neg hX', hC, if_neg (by simp [he]), if_pos h1]
        rw [e1, e2]
        exact ⟨fun h => by have := h.2; simp [h1.1] at this, fun _ => rfl⟩
      by_cases h2 : (parseO B most).2.2.1.is = true
      · have e1 : nextR most B X = ((zeroF, false, (parseO B most).2.2.1), B.drop (parseO B most).2.1, X) := by rw [nextR_eq, if_neg hX', if_neg (by simp [he]), if_neg h1, if_pos h2]
        have e2 : nextR most (B ++ C) X = ((zeroF, false, (parseO B most).2.2.1), B.drop (parseO B most).2.1 ++ C, X) := by rw [nextR_eq, if_neg hX', hC, if_neg (by simp [he]), if_neg h1, if_pos h2, drop_more hn]
        rw [e1, e2]
        exact ⟨fun h => by have := h.2; simp [h2] at this, fun _ => rfl⟩
      by_cases h3 : knownB (parseO B most).1.k = true
      · have e1 : nextR most B X = (((parseO B most).1, true, ⟨false, 0, 0⟩), B.drop (parseO B most).2.1, X) := by rw [nextR_eq, if_neg hX', if_neg (by simp [he]), if_neg h1, if_neg h2, if_pos h3]
        have e2 : nextR most (B ++ C) X = (((parseO B most).1, true, ⟨false, 0, 0⟩), B.drop (parseO B most).2.1 ++ C, X) := by rw [nextR_eq, if_neg hX', hC, if_neg (by simp [he]), if_neg h1, if_neg h2, if_pos h3, drop_more hn]
        rw [e1, e2]
        exact ⟨fun h => by have := h.1; simp at this, fun _ => rfl⟩
      · have e1 : nextR most B X = nextR most (B.drop (parseO B most).2.1) X := by rw [nextR_eq, if_neg hX', if_neg (by simp [he]), if_neg h1, if_neg h2, if_neg h3]
        have e2 : nextR most (B ++ C) X = nextR most (B.drop (parseO B most).2.1 ++ C) X := by rw [nextR_eq, if_neg hX', hC, if_neg (by simp [he]), if_neg h1, if_neg h2, if_neg h3, drop_more hn]
        rw [e1, e2]
        exact ih (B.drop (parseO B most).2.1) X (by rw [List.length_drop]; omega) hX C
    · have e1 : nextR most B X = ((zeroF, false, ⟨false, 0, 0⟩), B, X) := by rw [nextR_eq, if_neg hX', if_pos he]
      rw [e1]
      refine ⟨fun _ => ⟨rfl, rfl, rfl, e1⟩, fun h => absurd ⟨rfl, rfl⟩ h⟩
/-- What is told gets shorter by nine bytes at least, or the reader fails. -/
theorem next_less (most : Int) : ∀ (n : Nat) (B : List UInt8) (X : Flt), B.length < n → X.is = false →
    (nextR most B X).2.1.length ≤ B.length ∧ ((nextR most B X).1.2.1 = true ∨ ((nextR most B X).1.2.2.is = true ∧ (nextR most B X).1.2.2.st ≠ 0) → (nextR most B X).2.1.length + 9 ≤ B.length ∧ (nextR most B X).2.2 = X) ∧ ((nextR most B X).2.2.is = true → (nextR most B X).1 = (zeroF, false, (nextR most B X).2.2) ∧ (nextR most B X).2.2.st = 0) := by
  intro n
  induction n with
  | zero => intro B X h; omega
  | succ n ih =>
    intro B X hB hX
    have hX' : ¬ X.is = true := by rw [hX]; simp
    by_cases he : (parseO B most).2.2.2 = 0
    · obtain ⟨⟨h9, hn⟩, hm⟩ := parse_more he
      by_cases h1 : (parseO B most).2.2.1.is = true ∧ (parseO B most).2.2.1.st = 0
      · have e1 : nextR most B X = ((zeroF, false, (parseO B most).2.2.1), B, (parseO B most).2.2.1) := by rw [nextR_eq, if_neg hX', if_neg (by simp [he]), if_pos h1]
        rw [e1]
        refine ⟨Nat.le_refl _, fun h => ?_, fun _ => ⟨rfl, h1.2⟩⟩
        rcases h with h | h
        · simp at h
        · exact absurd h1.2 h.2
      by_cases h2 : (parseO B most).2.2.1.is = true
      · have e1 : nextR most B X = ((zeroF, false, (parseO B most).2.2.1), B.drop (parseO B most).2.1, X) := by rw [nextR_eq, if_neg hX', if_neg (by simp [he]), if_neg h1, if_pos h2]
        rw [e1]
        exact ⟨by simp, fun _ => ⟨by simp; omega, rfl⟩, fun h => absurd h hX'⟩
      by_cases h3 : knownB (parseO B most).1.k = true
      · have e1 : nextR most B X = (((parseO B most).1, true, ⟨false, 0, 0⟩), B.drop (parseO B most).2.1, X) := by rw [nextR_eq, if_neg hX', if_neg (by simp [he]), if_neg h1, if_neg h2, if_pos h3]
        rw [e1]
        exact ⟨by simp, fun _ => ⟨by simp; omega, rfl⟩, fun h => absurd h hX'⟩
      · have e1 : nextR most B X = nextR most (B.drop (parseO B most).2.1) X := by rw [nextR_eq, if_neg hX', if_neg (by simp [he]), if_neg h1, if_neg h2, if_neg h3]
        rw [e1]
        have h := ih (B.drop (parseO B most).2.1) X (by rw [List.length_drop]; omega) hX
        rw [List.length_drop] at h
        exact ⟨by omega, fun hh => ⟨by have := (h.2.1 hh).1; omega, (h.2.1 hh).2⟩, h.2.2⟩
    · have e1 : nextR most B X = ((zeroF, false, ⟨false, 0, 0⟩), B, X) := by rw [nextR_eq, if_neg hX', if_pos he]
      rw [e1]
      refine ⟨Nat.le_refl _, fun h => ?_, fun h => absurd h hX'⟩
      rcases h with h | h
      · simp at h
      · simp at h
end Go.Proofs.Ytikaefjhmgcidaa
/- Plain facts: all that a reader tells of chunks, however they are cut; frames one behind the other. -/
namespace Go.Proofs.Ytikaefjhmgcidaa
set_option linter.unusedVariables false
set_option maxRecDepth 100000
set_option maxHeartbeats 4000000

/-- It is asked until it tells neither a frame nor a fault of a stream: the frames, the faults, what is left. -/
def drainO (most : Int) : Nat → List UInt8 → Flt → (List Fra × List Flt) × List UInt8 × Flt
  | 0, B, X => (([], []), B, X)
  | n + 1, B, X =>
    if (nextR most B X).1.2.1 = true then
      (((nextR most B X).1.1 :: (drainO most n (nextR most B X).2.1 (nextR most B X).2.2).1.1, (drainO most n (nextR most B X).2.1 (nextR most B X).2.2).1.2), (drainO most n (nextR most B X).2.1 (nextR most B X).2.2).2)
    else if (nextR most B X).1.2.2.is = true ∧ (nextR most B X).1.2.2.st ≠ 0 then
      (((drainO most n (nextR most B X).2.1 (nextR most B X).2.2).1.1, (nextR most B X).1.2.2 :: (drainO most n (nextR most B X).2.1 (nextR most B X).2.2).1.2), (drainO most n (nextR most B X).2.1 (nextR most B X).2.2).2)
    else (([], []), (nextR most B X).2)
def drainR (most : Int) (B : List UInt8) (X : Flt) : (List Fra × List Flt) × List UInt8 × Flt := drainO most (B.length + 1) B X
theorem drainO_any (most : Int) : ∀ (n m : Nat) (B : List UInt8) (X : Flt), X.is = false → B.length < n → B.length < m → drainO most n B X = drainO most m B X := by
  intro n
  induction n with
  | zero => intro m B X _ h; omega
  | succ n ih =>
    intro m B X hX h1 h2
    cases m with
    | zero => omega
    | succ m =>
      obtain ⟨l1, l2, l3⟩ := next_less most (B.length + 1) B X (by omega) hX
      simp only [drainO]
      by_cases ht : (nextR most B X).1.2.1 = true
      · obtain ⟨l4, l5⟩ := l2 (.inl ht)
        rw [if_pos ht, if_pos ht, l5, ih m (nextR most B X).2.1 X hX (by omega) (by omega)]
      · by_cases hf : (nextR most B X).1.2.2.is = true ∧ (nextR most B X).1.2.2.st ≠ 0
        · obtain ⟨l4, l5⟩ := l2 (.inr hf)
          rw [if_neg ht, if_neg ht, if_pos hf, if_pos hf, l5, ih m (nextR most B X).2.1 X hX (by omega) (by omega)]
        · rw [if_neg ht, if_neg ht, if_neg hf, if_neg hf]
theorem drainR_eq (most : Int) (B : List UInt8) (X : Flt) (hX : X.is = false) : drainR most B X =
    if (nextR most B X).1.2.1 = true then
      (((nextR most B X).1.1 :: (drainR most (nextR most B X).2.1 X).1.1, (drainR most (nextR most B X).2.1 X).1.2), (drainR most (nextR most B X).2.1 X).2)
    else if (nextR most B X).1.2.2.is = true ∧ (nextR most B X).1.2.2.st ≠ 0 then
      (((drainR most (nextR most B X).2.1 X).1.1, (nextR most B X).1.2.2 :: (drainR most (nextR most B X).2.1 X).1.2), (drainR most (nextR most B X).2.1 X).2)
    else (([], []), (nextR most B X).2) := by
  obtain ⟨l1, l2, l3⟩ := next_less most (B.length + 1) B X (by omega) hX
  unfold drainR
  by_cases ht : (nextR most B X).1.2.1 = true
  · obtain ⟨l4, l5⟩ := l2 (.inl ht)
    rw [drainO, if_pos ht, if_pos ht, l5, drainO_any most B.length ((nextR most B X).2.1.length + 1) (nextR most B X).2.1 X hX (by omega) (by omega)]
  · by_cases hf : (nextR most B X).1.2.2.is = true ∧ (nextR most B X).1.2.2.st ≠ 0
    · obtain ⟨l4, l5⟩ := l2 (.inr hf)
      rw [drainO, if_neg ht, if_neg ht, if_pos hf, if_pos hf, l5, drainO_any most B.length ((nextR most B X).2.1.length + 1) (nextR most B X).2.1 X hX (by omega) (by omega)]
    · rw [drainO, if_neg ht, if_neg ht, if_neg hf, if_neg hf]
/-- So often it tells something: at most once in nine bytes. -/
theorem drain_few (most : Int) : ∀ (n : Nat) (B : List UInt8) (X : Flt), B.length < n → X.is = false → ((drainR most B X).1.1.length + (drainR most B X).1.2.length) * 9 + (drainR most B X).2.1.length ≤ B.length := by
  intro n
  induction n with
  | zero => intro B X h; omega
  | succ n ih =>
    intro B X hB hX
    obtain ⟨l1, l2, l3⟩ := next_less most (B.length + 1) B X (by omega) hX
    rw [drainR_eq most B X hX]
    by_cases ht : (nextR most B X).1.2.1 = true
    · obtain ⟨l4, l5⟩ := l2 (.inl ht)
      have h := ih (nextR most B X).2.1 X (by omega) hX
      rw [if_pos ht]
      simp only [List.length_cons]
      omega
    · by_cases hf : (nextR most B X).1.2.2.is = true ∧ (nextR most B X).1.2.2.st ≠ 0
      · obtain ⟨l4, l5⟩ := l2 (.inr hf)
        have h := ih (nextR most B X).2.1 X (by omega) hX
        rw [if_neg ht, if_pos hf]
        simp only [List.length_cons]
        omega
      · rw [if_neg ht, if_neg hf]
        simp
        exact l1
/-- A fault of the connection is that by which it has failed. -/
theorem next_fails (most : Int) : ∀ (n : Nat) (B : List UInt8) (X : Flt), B.length < n → X.is = false → (nextR most B X).1.2.2.is = true → (nextR most B X).1.2.2.st = 0 → (nextR most B X).2.2 = (nextR most B X).1.2.2 := by
  intro n
  induction n with
  | zero => intro B X h; omega
  | succ n ih =>
    intro B X hB hX hx hz
    have hX' : ¬ X.is = true := by rw [hX]; simp
    by_cases he : (parseO B most).2.2.2 = 0
    · obtain ⟨⟨h9, hn⟩, hm⟩ := parse_more he
      by_cases h1 : (parseO B most).2.2.1.is = true ∧ (parseO B most).2.2.1.st = 0
      · rw [nextR_eq, if_neg hX', if_neg (by simp [he]), if_pos h1]
      by_cases h2 : (parseO B most).2.2.1.is = true
      · rw [nextR_eq, if_neg hX', if_neg (by simp [he]), if_neg h1, if_pos h2] at hz
        exact absurd ⟨h2, hz⟩ h1
      by_cases h3 : knownB (parseO B most).1.k = true
      · rw [nextR_eq, if_neg hX', if_neg (by simp [he]), if_neg h1, if_neg h2, if_pos h3] at hx
        simp at hx
      · have e1 : nextR most B X = nextR most (B.drop (parseO B most).2.1) X := by rw [nextR_eq, if_neg hX', if_neg (by simp [he]), if_neg h1, if_neg h2, if_neg h3]
        rw [e1] at hx hz ⊢
        exact ih (B.drop (parseO B most).2.1) X (by rw [List.length_drop]; omega) hX hx hz
    · rw [nextR_eq, if_neg hX', if_pos he] at hx
      simp at hx
/-- More bytes behind: what was told is told; then, where it has not failed, what the rest tells. -/
theorem drain_more (most : Int) : ∀ (n : Nat) (B : List UInt8) (X : Flt), B.length < n → X.is = false → ∀ C,
    ((drainR most B X).2.2.is = true → (drainR most (B ++ C) X).1 = (drainR most B X).1) ∧
    ((drainR most B X).2.2.is = false → (drainR most B X).2.2 = X ∧ (drainR most (B ++ C) X).1 = ((drainR most B X).1.1 ++ (drainR most ((drainR most B X).2.1 ++ C) X).1.1, (drainR most B X).1.2 ++ (drainR most ((drainR most B X).2.1 ++ C) X).1.2) ∧ nextR most (drainR most B X).2.1 X = ((zeroF, false, ⟨false, 0, 0⟩), (drainR most B X).2.1, X)) := by
  intro n
  induction n with
  | zero => intro B X h; omega
  | succ n ih =>
    intro B X hB hX C
    obtain ⟨l1, l2, l3⟩ := next_less most (B.length + 1) B X (by omega) hX
    obtain ⟨m1, m2⟩ := next_more most (B.length + 1) B X (by omega) hX C
    by_cases ht : (nextR most B X).1.2.1 = true
    · obtain ⟨l4, l5⟩ := l2 (.inl ht)
      have hC := m2 (fun h => by rw [ht] at h; simp at h)
      have h := ih (nextR most B X).2.1 X (by omega) hX C
      rw [drainR_eq most B X hX, if_pos ht, drainR_eq most (B ++ C) X hX, hC]
      simp only [ht, if_true]
      refine ⟨fun hf => ?_, fun hf => ?_⟩
      · rw [h.1 hf]
      · obtain ⟨g1, g2, g3⟩ := h.2 hf
        refine ⟨g1, ?_, g3⟩
        rw [g2]
        rfl
    · by_cases hf : (nextR most B X).1.2.2.is = true ∧ (nextR most B X).1.2.2.st ≠ 0
      · obtain ⟨l4, l5⟩ := l2 (.inr hf)
        have hC := m2 (fun h => by rw [hf.1] at h; simp at h)
        have h := ih (nextR most B X).2.1 X (by omega) hX C
        rw [drainR_eq most B X hX, if_neg ht, if_pos hf, drainR_eq most (B ++ C) X hX, hC]
        rw [if_neg ht, if_pos hf]
        refine ⟨fun hg => ?_, fun hg => ?_⟩
        · rw [h.1 hg]
        · obtain ⟨g1, g2, g3⟩ := h.2 hg
          refine ⟨g1, ?_, g3⟩
          rw [g2]
          rfl
      · rw [drainR_eq most B X hX, if_neg ht, if_neg hf]
        by_cases hq : (nextR most B X).1.2.1 = false ∧ (nextR most B X).1.2.2.is = false
        · obtain ⟨g1, g2, g3, g4⟩ := m1 hq
          refine ⟨fun hg => ?_, fun hg => ⟨g2, ?_, ?_⟩⟩
          · rw [g2, hX] at hg; simp at hg
          · rw [drainR_eq most (B ++ C) X hX, g1, ← drainR_eq most ((nextR most B X).2.1 ++ C) X hX]
            simp
          · rw [g4]
            exact Prod.ext g3 (Prod.ext rfl g2)
        · have hC := m2 hq
          have hx : (nextR most B X).1.2.2.is = true := by
            cases hx : (nextR most B X).1.2.2.is with
            | true => rfl
            | false => exact absurd ⟨by cases hh : (nextR most B X).1.2.1 with | false => rfl | true => exact absurd hh ht, hx⟩ hq
          have hz : (nextR most B X).1.2.2.st = 0 := Classical.byContradiction (fun h => hf ⟨hx, h⟩)
          have hfail := next_fails most (B.length + 1) B X (by omega) hX hx hz
          refine ⟨fun hg => ?_, fun hg => ?_⟩
          · rw [drainR_eq most (B ++ C) X hX, hC]
            rw [if_neg ht, if_neg hf]
          · rw [hfail, hx] at hg
            simp at hg
end Go.Proofs.Ytikaefjhmgcidaa
/- Plain facts: chunks that are fed one by one; frames that stand one behind the other. -/
namespace Go.Proofs.Ytikaefjhmgcidaa
set_option linter.unusedVariables false
set_option maxRecDepth 100000
set_option maxHeartbeats 4000000

/-- What is told of chunks: each is fed (not to a reader that has failed), then all is asked for. -/
def runO (most : Int) : List (List UInt8) → List UInt8 → Flt → List Fra × List Flt
  | [], _, _ => ([], [])
  | c :: cs, B, X =>
    ((drainR most (if X.is = true then B else B ++ c) X).1.1 ++ (runO most cs (drainR most (if X.is = true then B else B ++ c) X).2.1 (drainR most (if X.is = true then B else B ++ c) X).2.2).1,
     (drainR most (if X.is = true then B else B ++ c) X).1.2 ++ (runO most cs (drainR most (if X.is = true then B else B ++ c) X).2.1 (drainR most (if X.is = true then B else B ++ c) X).2.2).2)
theorem drain_failed (most : Int) (B : List UInt8) (X : Flt) (hX : X.is = true) (hz : X.st = 0) : drainR most B X = (([], []), B, X) := by
  have e : nextR most B X = ((zeroF, false, X), B, X) := by rw [nextR_eq, if_pos hX]
  unfold drainR
  rw [drainO, e, if_neg (by simp), if_neg (by simp [hz])]
theorem run_failed (most : Int) : ∀ (cs : List (List UInt8)) (B : List UInt8) (X : Flt), X.is = true → X.st = 0 → runO most cs B X = ([], []) := by
  intro cs
  induction cs with
  | nil => intro B X _ _; rfl
  | cons c cs ih =>
    intro B X hX hz
    rw [runO, if_pos hX, drain_failed most B X hX hz]
    dsimp only
    rw [ih B X hX hz]
    rfl
theorem drain_fault (most : Int) : ∀ (n : Nat) (B : List UInt8) (X : Flt), B.length < n → X.is = false → (drainR most B X).2.2.is = true → (drainR most B X).2.2.st = 0 := by
  intro n
  induction n with
  | zero => intro B X h; omega
  | succ n ih =>
    intro B X hB hX
    obtain ⟨l1, l2, l3⟩ := next_less most (B.length + 1) B X (by omega) hX
    rw [drainR_eq most B X hX]
    by_cases ht : (nextR most B X).1.2.1 = true
    · obtain ⟨l4, l5⟩ := l2 (.inl ht)
      rw [if_pos ht]
      exact ih _ X (by omega) hX
    · by_cases hf : (nextR most B X).1.2.2.is = true ∧ (nextR most B X).1.2.2.st ≠ 0
      · obtain ⟨l4, l5⟩ := l2 (.inr hf)
        rw [if_neg ht, if_pos hf]
        exact ih _ X (by omega) hX
      · rw [if_neg ht, if_neg hf]
        exact fun h => (l3 h).2
/-- However chunks are cut: they tell what all their bytes tell. -/
theorem run_flat (most : Int) : ∀ (cs : List (List UInt8)) (B : List UInt8) (X : Flt), X.is = false → nextR most B X = ((zeroF, false, ⟨false, 0, 0⟩), B, X) → runO most cs B X = (drainR most (B ++ cs.flatten) X).1 := by
  intro cs
  induction cs with
  | nil =>
    intro B X hX hB
    rw [List.flatten_nil, List.append_nil, drainR_eq most B X hX, hB, if_neg (by simp), if_neg (by simp)]
    rfl
  | cons c cs ih =>
    intro B X hX hB
    have hX' : ¬ X.is = true := by rw [hX]; simp
    obtain ⟨d1, d2⟩ := drain_more most ((B ++ c).length + 1) (B ++ c) X (by omega) hX cs.flatten
    rw [runO, if_neg hX', List.flatten_cons, ← List.append_assoc]
    cases hf : (drainR most (B ++ c) X).2.2.is with
    | true =>
      rw [d1 hf, run_failed most cs _ _ hf (drain_fault most ((B ++ c).length + 1) (B ++ c) X (by omega) hX hf)]
      simp
    | false =>
      obtain ⟨g1, g2, g3⟩ := d2 hf
      rw [g2, g1, ih (drainR most (B ++ c) X).2.1 X hX g3]
theorem run_same (most : Int) (h0 : 0 ≤ most) (cs ds : List (List UInt8)) (h : cs.flatten = ds.flatten) : runO most cs [] ⟨false, 0, 0⟩ = runO most ds [] ⟨false, 0, 0⟩ := by
  have e : nextR most [] ⟨false, 0, 0⟩ = ((zeroF, false, ⟨false, 0, 0⟩), [], ⟨false, 0, 0⟩) := by
    rw [nextR_eq, if_neg (by simp), if_pos (by rw [parseO, if_neg (by omega), if_pos (by simp)]; simp)]
  rw [run_flat most cs [] _ rfl e, run_flat most ds [] _ rfl e, h]

/-- What is written is read back by whoever takes as much. -/
theorem parse_fits {f : Fra} (hf : Fits f) (h : (writeO f).1 = 0) (Z : List UInt8) (most : Int) (hm : ((allP f).2.flatten.length : Int) ≤ most) : parseO ((writeO f).2 ++ Z) most = (nf f, (writeO f).2.length, ⟨false, 0, 0⟩, 0) := by
  obtain ⟨h1, h2, h3, h4, h5, h6⟩ := writeO_ok h
  obtain ⟨body, hb⟩ : ∃ body, (allP f).2.flatten = body := ⟨_, rfl⟩
  have hrb := read_back hf h1 h2 h3 h4
  rw [hb] at h5 h6 hrb hm
  have hl := headB_len f body.length
  rw [h6, List.append_assoc, parseO, if_neg (by omega), if_neg (by simp [hl]), head_num _ _ _ h5, if_neg (by omega), if_neg (by simp [hl]), head_frame _ _ _ h1, head_drop, List.take_left, hrb]
  simp [hl]
/-- A frame that was written is told next. -/
theorem next_frame {f : Fra} (hf : Fits f) (h : (writeO f).1 = 0) (Z : List UInt8) (most : Int) (hm : ((allP f).2.flatten.length : Int) ≤ most) (X : Flt) (hX : X.is = false) : nextR most ((writeO f).2 ++ Z) X = ((nf f, true, ⟨false, 0, 0⟩), Z, X) := by
  have hp := parse_fits hf h Z most hm
  have hk : knownB (nf f).k = true := by
    rw [(nf_head f).1]
    have := (writeO_ok h).1
    simp [headOk] at this
    exact this.1.1
  rw [nextR_eq, if_neg (by rw [hX]; simp), hp, if_neg (by simp), if_neg (by simp), if_neg (by simp), if_pos hk, List.drop_left]
/-- An unknown frame without bytes is passed over. -/
theorem next_unknown (k fl : UInt8) (hk : 10 ≤ k.toNat) (Z : List UInt8) (most : Int) (hm : 0 ≤ most) (X : Flt) (hX : X.is = false) : nextR most ([0, 0, 0, k, fl, 0, 0, 0, 1] ++ Z) X = nextR most Z X := by
  have hr : parseO ([0, 0, 0, k, fl, 0, 0, 0, 1] ++ Z) most = ({ zeroF with k := k.toNat, fl := fl.toNat, st := 1 }, 9, ⟨false, 0, 0⟩, 0) := by
    have h3 : num (([0, 0, 0, k, fl, 0, 0, 0, 1] ++ Z).take 3) = 0 := by rw [take_more (by simp)]; rfl
    have hh : headF ([0, 0, 0, k, fl, 0, 0, 0, 1] ++ Z) = { zeroF with k := k.toNat, fl := fl.toNat, st := 1 } := by
      rw [headF_more (by simp)]
      rfl
    have hkr : ¬ (k.toNat : Int) = 0 ∧ ¬ (k.toNat : Int) = 1 ∧ ¬ (k.toNat : Int) = 2 ∧ ¬ (k.toNat : Int) = 3 ∧ ¬ (k.toNat : Int) = 4 ∧ ¬ (k.toNat : Int) = 5 ∧ ¬ (k.toNat : Int) = 6 ∧ ¬ (k.toNat : Int) = 7 ∧ ¬ (k.toNat : Int) = 8 ∧ ¬ (k.toNat : Int) = 9 := by omega
    obtain ⟨K, hK⟩ : ∃ K : Int, (k.toNat : Int) = K := ⟨_, rfl⟩
    rw [hK] at hh hkr ⊢
    obtain ⟨n0, n1, n2, n3, n4, n5, n6, n7, n8, n9⟩ := hkr
    rw [parseO, if_neg (by omega), if_neg (by simp), h3, if_neg (by omega), if_neg (by simp), hh]
    have hread : readO { zeroF with k := K, fl := fl.toNat, st := 1 } ((([0, 0, 0, k, fl, 0, 0, 0, 1] ++ Z).drop 9).take 0) = ({ zeroF with k := K, fl := fl.toNat, st := 1 }, ⟨false, 0, 0⟩) := by
      rw [List.take_zero]
      have e1 : placedB K 1 = true := by simp [placedB, n4, n6, n7]
      simp [readO, e1, sizedB, n2, n3, n4, n6, n7, n8, padd, canP, n0, n1, n5, padC, padN, partsOf, n9, leastP, rd]
      simp [zeroF]
    rw [hread]
  rw [nextR_eq, if_neg (by rw [hX]; simp), hr, if_neg (by simp), if_neg (by simp), if_neg (by simp), if_neg (by simp [knownB]; omega)]
  rfl
/-- Nothing left: nothing told. -/
theorem next_nil (most : Int) (h0 : 0 ≤ most) (X : Flt) (hX : X.is = false) : nextR most [] X = ((zeroF, false, ⟨false, 0, 0⟩), [], X) := by
  rw [nextR_eq, if_neg (by rw [hX]; simp), if_pos (by rw [parseO, if_neg (by omega), if_pos (by simp)]; simp)]
end Go.Proofs.Ytikaefjhmgcidaa
/- Plain facts: a reader that is asked until it tells nothing has less than a frame. -/
namespace Go.Proofs.Ytikaefjhmgcidaa
set_option linter.unusedVariables false
set_option maxRecDepth 100000
set_option maxHeartbeats 4000000

theorem parse_prefix {B C : List UInt8} {most : Int} (h : (parseO (B ++ C) most).2.2.2 = 0) (hn : (parseO (B ++ C) most).2.1 ≤ B.length) : (parseO B most).2.2.2 = 0 := by
  by_cases h0 : most < 0
  · rw [parseO, if_pos h0] at h; simp at h
  by_cases h9 : (B ++ C).length < 9
  · rw [parseO, if_neg h0, if_pos h9] at h; simp at h
  by_cases hb : most < (num ((B ++ C).take 3) : Nat)
  · rw [parseO, if_neg h0, if_neg h9, if_pos hb] at hn
    have hn : 9 ≤ B.length := hn
    rw [take_more (by omega)] at hb
    rw [parseO, if_neg h0, if_neg (by omega), if_pos hb]
  by_cases hs : (B ++ C).length < 9 + num ((B ++ C).take 3)
  · rw [parseO, if_neg h0, if_neg h9, if_neg hb, if_pos hs] at h; simp at h
  · rw [parseO, if_neg h0, if_neg h9, if_neg hb, if_neg hs] at hn
    have hn : 9 + num ((B ++ C).take 3) ≤ B.length := hn
    rw [take_more (by omega)] at hb hn
    rw [parseO, if_neg h0, if_neg (by omega), if_neg hb, if_neg (by omega)]
/-- Nothing is told of these bytes. -/
def Dry (most : Int) (B : List UInt8) (X : Flt) : Prop := nextR most B X = ((zeroF, false, ⟨false, 0, 0⟩), B, X)
theorem dry_parse {most : Int} {B : List UInt8} {X : Flt} (hX : X.is = false) (h : Dry most B X) : (parseO B most).2.2.2 ≠ 0 := by
  intro he
  have hX' : ¬ X.is = true := by rw [hX]; simp
  obtain ⟨⟨h9, hn⟩, hm⟩ := parse_more he
  unfold Dry at h
  by_cases h1 : (parseO B most).2.2.1.is = true ∧ (parseO B most).2.2.1.st = 0
  · rw [nextR_eq, if_neg hX', if_neg (by simp [he]), if_pos h1] at h
    have := congrArg (fun z => z.1.2.2.is) h
    simp [h1.1] at this
  by_cases h2 : (parseO B most).2.2.1.is = true
  · rw [nextR_eq, if_neg hX', if_neg (by simp [he]), if_neg h1, if_pos h2] at h
    have := congrArg (fun z => z.1.2.2.is) h
    simp [h2] at this
  by_cases h3 : knownB (parseO B most).1.k = true
  · rw [nextR_eq, if_neg hX', if_neg (by simp [he]), if_neg h1, if_neg h2, if_pos h3] at h
    have := congrArg (fun z => z.1.2.1) h
    simp at this
  · rw [nextR_eq, if_neg hX', if_neg (by simp [he]), if_neg h1, if_neg h2, if_neg h3] at h
    have hl := (next_less most ((B.drop (parseO B most).2.1).length + 1) (B.drop (parseO B most).2.1) X (by omega) hX).1
    rw [h, List.length_drop] at hl
    dsimp only at hl
    omega
theorem dry_small {most : Int} (h0 : 0 ≤ most) {B : List UInt8} {X : Flt} (hX : X.is = false) (h : Dry most B X) : (B.length : Int) < 9 + most := by
  have hp := dry_parse hX h
  by_cases h9 : B.length < 9
  · omega
  by_cases hb : most < (num (B.take 3) : Nat)
  · rw [parseO, if_neg (by omega), if_neg h9, if_pos hb] at hp; simp at hp
  by_cases hs : B.length < 9 + num (B.take 3)
  · omega
  · rw [parseO, if_neg (by omega), if_neg h9, if_neg hb, if_neg hs] at hp; simp at hp
/-- It tells a frame, or a fault of a stream. -/
def told (r : (Fra × Bool × Flt) × List UInt8 × Flt) : Prop := r.1.2.1 = true ∨ (r.1.2.2.is = true ∧ r.1.2.2.st ≠ 0)
theorem told_first {most : Int} {B : List UInt8} {X : Flt} (hX : X.is = false) (h : Dry most B X) (C : List UInt8) (ht : told (nextR most (B ++ C) X)) : (nextR most (B ++ C) X).2.1.length ≤ C.length := by
  have hX' : ¬ X.is = true := by rw [hX]; simp
  have hp := dry_parse hX h
  by_cases he : (parseO (B ++ C) most).2.2.2 = 0
  · obtain ⟨⟨h9, hn⟩, hm⟩ := parse_more he
    have hgt : B.length < (parseO (B ++ C) most).2.1 := Classical.byContradiction (fun hc => hp (parse_prefix he (by omega)))
    rw [List.length_append] at hn
    by_cases h1 : (parseO (B ++ C) most).2.2.1.is = true ∧ (parseO (B ++ C) most).2.2.1.st = 0
    · rw [nextR_eq, if_neg hX', if_neg (by simp [he]), if_pos h1] at ht
      rcases ht with ht | ht
      · simp at ht
      · exact absurd h1.2 ht.2
    by_cases h2 : (parseO (B ++ C) most).2.2.1.is = true
    · rw [nextR_eq, if_neg hX', if_neg (by simp [he]), if_neg h1, if_pos h2, List.length_drop, List.length_append]
      omega
    by_cases h3 : knownB (parseO (B ++ C) most).1.k = true
    · rw [nextR_eq, if_neg hX', if_neg (by simp [he]), if_neg h1, if_neg h2, if_pos h3, List.length_drop, List.length_append]
      omega
    · rw [nextR_eq, if_neg hX', if_neg (by simp [he]), if_neg h1, if_neg h2, if_neg h3]
      have hl := (next_less most (((B ++ C).drop (parseO (B ++ C) most).2.1).length + 1) ((B ++ C).drop (parseO (B ++ C) most).2.1) X (by omega) hX).1
      rw [List.length_drop, List.length_append] at hl
      omega
  · rw [nextR_eq, if_neg hX', if_pos he] at ht
    rcases ht with ht | ht
    · simp at ht
    · simp at ht
theorem told_less {most : Int} {B : List UInt8} {X : Flt} (hX : X.is = false) (ht : told (nextR most B X)) : (nextR most B X).2.1.length + 9 ≤ B.length ∧ (nextR most B X).2.2 = X :=
  (next_less most (B.length + 1) B X (by omega) hX).2.1 ht
/-- Where nothing is told: it has failed, or goes on telling nothing. -/
theorem untold {most : Int} {B : List UInt8} {X : Flt} (ht : ¬ told (nextR most B X)) (hz : X.is = true → X.st = 0) : ((nextR most B X).2.2.is = true ∧ (nextR most B X).2.2.st = 0) ∨ ((nextR most B X).2.2.is = false ∧ Dry most (nextR most B X).2.1 (nextR most B X).2.2) := by
  cases hX : X.is
  · by_cases hq : (nextR most B X).1.2.1 = false ∧ (nextR most B X).1.2.2.is = false
    · obtain ⟨-, g2, g3, g4⟩ := (next_more most (B.length + 1) B X (by omega) hX []).1 hq
      refine .inr ⟨by rw [g2, hX], ?_⟩
      unfold Dry
      rw [g2, g4]
      exact Prod.ext g3 (Prod.ext rfl g2)
    · have hx : (nextR most B X).1.2.2.is = true := by
        cases hx : (nextR most B X).1.2.2.is with
        | true => rfl
        | false => exact absurd ⟨by cases hh : (nextR most B X).1.2.1 with | false => rfl | true => exact absurd (.inl hh) ht, hx⟩ hq
      have hs : (nextR most B X).1.2.2.st = 0 := Classical.byContradiction (fun h => ht (.inr ⟨hx, h⟩))
      have := next_fails most (B.length + 1) B X (by omega) hX hx hs
      exact .inl (by rw [this]; exact ⟨hx, hs⟩)
  · rw [show nextR most B X = ((zeroF, false, X), B, X) from by rw [nextR_eq, if_pos hX]]
    exact .inl ⟨hX, hz hX⟩
end Go.Proofs.Ytikaefjhmgcidaa
