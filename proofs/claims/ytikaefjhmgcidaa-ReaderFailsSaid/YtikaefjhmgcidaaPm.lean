/- Plain facts: the frame that is written is the frame that is read. -/
import Derived.Test.YtikaefjhmgcidaaPl
namespace Go.Proofs.Ytikaefjhmgcidaa
open Go.RowKit
set_option linter.unusedVariables false
set_option maxRecDepth 100000
set_option maxHeartbeats 4000000

theorem headB_eq (f : Fra) (n : Nat) : headB f n = [UInt8.ofNat (n / 256 / 256), UInt8.ofNat (n / 256), UInt8.ofNat n, UInt8.ofNat f.k.toNat, UInt8.ofNat f.fl.toNat, UInt8.ofNat (f.st.toNat / 256 / 256 / 256), UInt8.ofNat (f.st.toNat / 256 / 256), UInt8.ofNat (f.st.toNat / 256), UInt8.ofNat f.st.toNat] := by
  simp [headB, be]
theorem headB_len (f : Fra) (n : Nat) : (headB f n).length = 9 := by simp [headB_eq]
theorem head_num (f : Fra) (n : Nat) (R : List UInt8) (h : n ≤ 16777215) : num ((headB f n ++ R).take 3) = n := by
  have h1 : (headB f n ++ R).take 3 = be 3 n := by simp [headB_eq, be]
  rw [h1, num_be_lt _ _ (by omega)]
/-- A frame that is its head alone. -/
def headOf (f : Fra) : Fra := { zeroF with k := f.k, fl := f.fl, st := f.st }
theorem head_frame (f : Fra) (n : Nat) (R : List UInt8) (h : headOk f = true) : headF (headB f n ++ R) = headOf f := by
  simp [headOk, knownB, idOk] at h
  have h1 : ((headB f n ++ R).drop 5).take 4 = be 4 f.st.toNat := by simp [headB_eq, be]
  have h3 : (headB f n ++ R).getD 3 0 = UInt8.ofNat f.k.toNat := by simp [headB_eq]
  have h4 : (headB f n ++ R).getD 4 0 = UInt8.ofNat f.fl.toNat := by simp [headB_eq]
  unfold headF headOf
  rw [h1, h3, h4, num_be_lt _ _ (show f.st.toNat < 256 ^ 4 by omega)]
  simp
  omega
theorem head_drop (f : Fra) (n : Nat) (R : List UInt8) : (headB f n ++ R).drop 9 = R := by
  rw [List.drop_append_of_le_length (by rw [headB_len]; omega), List.drop_of_length_le (by rw [headB_len]; omega), List.nil_append]

theorem writeO_ok {f : Fra} (h : (writeO f).1 = 0) : headOk f = true ∧ placedB f.k f.st = true ∧ padOk f = true ∧ (allP f).1 = 0 ∧ (allP f).2.flatten.length ≤ 16777215 ∧ (writeO f).2 = headB f (allP f).2.flatten.length ++ (allP f).2.flatten := by
  unfold writeO at h ⊢
  split at h
  · rename_i h1
    simp only [Bool.and_eq_true] at h1
    split at h
    · rename_i h2
      split at h
      · rename_i h3
        simp only [h1.1.1, h1.1.2, h1.2, h2, h3]
        simp
      · simp at h
    · simp at h
  · simp at h
theorem allP_ok {f : Fra} (h : (allP f).1 = 0) : (∀ j ∈ partsOf f, (pieceO j f).1 = 0) ∧ (allP f).2 = padsB f ++ pieceL f (partsOf f) ++ padsE f := by
  unfold allP at h ⊢
  split at h
  · rename_i h1
    have hok : ∀ j ∈ partsOf f, (pieceO j f).1 = 0 := fun j hj => by
      apply Classical.byContradiction
      intro hb
      exact pieces_bad hj hb h1
    rw [if_pos h1]
    exact ⟨hok, by rw [pieces_ok hok]⟩
  · simp at h
theorem leastP_cons (j : Nat) (js : List Nat) : leastP (j :: js) = sizeP j + leastP js := by simp [leastP]
theorem least_pieces {f : Fra} : ∀ (js : List Nat), (∀ j ∈ js, j < 7) → (∀ j ∈ js, (pieceO j f).1 = 0) → leastP js ≤ (pieceL f js).flatten.length := by
  intro js
  induction js with
  | nil => intro _ _; simp [leastP]
  | cons j js ih =>
    intro h7 hok
    have h1 := ih (fun k hk => h7 k (by simp [hk])) (fun k hk => hok k (by simp [hk]))
    have h2 : sizeP j ≤ (pieceO j f).2.length := by
      by_cases hz : sizeP j = 0
      · omega
      · rw [piece_len (h7 j (by simp)) (hok j (by simp)) hz]; omega
    rw [leastP_cons]
    simp only [pieceL, List.map_cons, List.flatten_cons, List.length_append] at *
    omega
theorem parts_is (f : Fra) : partsOf f ∈ [[2, 3], [3], [2], [1], [4], [0, 3], [5], [0, 1, 3], [6], []] := by
  unfold partsOf
  repeat' split
  all_goals simp
theorem parts_last {f : Fra} : ∀ i j, (partsOf f)[i]? = some j → sizeP j = 0 → i + 1 = (partsOf f).length := by
  have h := parts_is f
  generalize partsOf f = L at h
  intro i j hi hj
  simp only [List.mem_cons, List.not_mem_nil, or_false] at h
  rcases h with rfl | rfl | rfl | rfl | rfl | rfl | rfl | rfl | rfl | rfl
  all_goals rcases i with _ | _ | _ | i
  all_goals simp at hi
  all_goals first | rfl | (subst hi; revert hj; decide)
theorem parts_sets {f : Fra} (h : 4 ∈ partsOf f) : f.k = 4 ∧ partsOf f = [4] := by
  unfold partsOf at *
  repeat' split at h
  all_goals simp at h
  all_goals simp_all

/-- Which sizes the pieces of a frame have. -/
theorem sized_pieces {f : Fra} (hp : padd f = false) (hok : ∀ j ∈ partsOf f, (pieceO j f).1 = 0) : sizedB (headOf f) (pieceL f (partsOf f)).flatten.length = true := by
  have hl : ∀ j ∈ partsOf f, sizeP j ≠ 0 → (pieceO j f).2.length = sizeP j := fun j hj hz => piece_len (partsOf_lt j hj) (hok j hj) hz
  have hk0 : (headOf f).k = f.k := rfl
  have hf0 : (headOf f).fl = f.fl := rfl
  rw [sizedB, hk0, hf0]
  by_cases h2 : f.k = 2
  · rw [if_pos h2]
    have e : partsOf f = [2] := by simp [partsOf, h2]
    rw [e] at hl ⊢
    have := hl 2 (by simp) (by decide)
    simp [pieceL, this, sizeP]
  rw [if_neg h2]
  by_cases h3 : f.k = 3 ∨ f.k = 8
  · rw [if_pos h3]
    rcases h3 with h3 | h3
    · have e : partsOf f = [1] := by simp [partsOf, h3]
      rw [e] at hl ⊢
      have := hl 1 (by simp) (by decide)
      simp [pieceL, this, sizeP]
    · have e : partsOf f = [6] := by simp [partsOf, h3]
      rw [e] at hl ⊢
      have := hl 6 (by simp) (by decide)
      simp [pieceL, this, sizeP]
  rw [if_neg h3]
  by_cases h4 : f.k = 4
  · rw [if_pos h4]
    have e : partsOf f = [4] := by simp [partsOf, h4]
    rw [e] at hok ⊢
    have ho := hok 4 (by simp)
    have hb : (decide (0 < f.Y.length) && has f.fl 1) = false := by
      cases hb : (decide (0 < f.Y.length) && has f.fl 1)
      · rfl
      · simp only [pieceO, hb] at ho; simp at ho
    have ha : f.Y.all setOk = true := by
      cases ha : f.Y.all setOk
      · simp only [pieceO, hb, ha] at ho; simp at ho
      · rfl
    have hp : (pieceO 4 f).2 = setsB f.Y := by simp only [pieceO, hb, ha]; simp
    have hsl := setsB_len f.Y
    simp only [pieceL, List.map_cons, List.map_nil, hp, List.flatten_cons, List.flatten_nil, List.append_nil, hsl]
    simp at hb ⊢
    by_cases hy : f.Y.length = 0
    · left
      omega
    · right
      exact hb (by omega)
  rw [if_neg h4]
  by_cases h6 : f.k = 6
  · rw [if_pos h6]
    have e : partsOf f = [5] := by simp [partsOf, h6]
    rw [e] at hl ⊢
    have := hl 5 (by simp) (by decide)
    simp [pieceL, this, sizeP]
  rw [if_neg h6]
  by_cases h7 : f.k = 7
  · rw [if_pos h7]
    have e : partsOf f = [0, 1, 3] := by simp [partsOf, h7]
    rw [e] at hl ⊢
    have h0 := hl 0 (by simp) (by decide)
    have h1 := hl 1 (by simp) (by decide)
    simp [pieceL, h0, h1, sizeP]
    omega
  rw [if_neg h7]
theorem sized_any {f : Fra} (hp : padd f = true) (n : Nat) : sizedB (headOf f) n = true := by
  have hc : canP f.k = true := by
    cases hc : canP f.k
    · simp [padd, hc] at hp
    · rfl
  simp [canP] at hc
  have hk0 : (headOf f).k = f.k := rfl
  rw [sizedB, hk0]
  rcases hc with h | h | h <;> simp [h]

theorem cp_keeps {f : Fra} : ∀ (js : List Nat) (g : Fra), (js.foldl (cpP f) g).k = g.k ∧ (js.foldl (cpP f) g).fl = g.fl ∧ (js.foldl (cpP f) g).st = g.st ∧ (js.foldl (cpP f) g).pad = g.pad := by
  intro js
  induction js with
  | nil => intro g; exact ⟨rfl, rfl, rfl, rfl⟩
  | cons j js ih =>
    intro g
    have h := ih (cpP f g j)
    have h2 : (cpP f g j).k = g.k ∧ (cpP f g j).fl = g.fl ∧ (cpP f g j).st = g.st ∧ (cpP f g j).pad = g.pad := by
      unfold cpP
      repeat' split
      all_goals exact ⟨rfl, rfl, rfl, rfl⟩
    rw [List.foldl_cons]
    exact ⟨h.1.trans h2.1, h.2.1.trans h2.2.1, h.2.2.1.trans h2.2.2.1, h.2.2.2.trans h2.2.2.2⟩
theorem nf_head (f : Fra) : (nf f).k = f.k ∧ (nf f).fl = f.fl ∧ (nf f).st = f.st ∧ (nf f).pad = if padd f then f.pad else 0 := cp_keeps (partsOf f) (baseF f)

theorem read_back {f : Fra} (hf : Fits f) (hh : headOk f = true) (hpl : placedB f.k f.st = true) (hpo : padOk f = true) (ha : (allP f).1 = 0) : readO (headOf f) (allP f).2.flatten = (nf f, ⟨false, 0, 0⟩) := by
  obtain ⟨hok, hall⟩ := allP_ok ha
  have hk0 : (headOf f).k = f.k := rfl
  have hs0 : (headOf f).st = f.st := rfl
  have hpd : padd (headOf f) = padd f := rfl
  have hpt : partsOf (headOf f) = partsOf f := rfl
  have hls := least_pieces (f := f) (partsOf f) partsOf_lt hok
  obtain ⟨P, hP⟩ : ∃ P, (pieceL f (partsOf f)).flatten = P := ⟨_, rfl⟩
  rw [hP] at hls
  have hrd : ∀ g : Fra, g.Y = [] → rd (partsOf f) g P = (partsOf f).foldl (cpP f) g := fun g hg => by
    rw [← hP]
    exact rd_pieces hf (partsOf f) g partsOf_lt hok parts_last (fun h => ⟨(parts_sets h).2, hg⟩)
  have hfin : ∀ g : Fra, g = nf f → ¬ (g.k = 8 ∧ g.inc = 0) := fun g hg h => by
    subst hg
    have hk := (nf_head f).1
    rw [h.1] at hk
    have e : partsOf f = [6] := by simp [partsOf, ← hk]
    have hi : (nf f).inc = f.inc := by rw [nf, e]; rfl
    have ho := hok 6 (by rw [e]; simp)
    rw [hi] at h
    simp [pieceO, h.2] at ho
  rw [readO, hk0, hs0, hpd, hpt, if_neg (by rw [hpl]; simp)]
  cases hp : padd f
  · have hflat : (allP f).2.flatten = P := by rw [hall]; simp [padsB, padsE, hp, hP]
    have hsz := sized_pieces hp hok
    rw [hP] at hsz
    have hc : padC (headOf f) P = P := by simp [padC, hpd, hp]
    have hn : padN (headOf f) P = 0 := by simp [padN, hpd, hp]
    rw [hflat, if_neg (by rw [hsz]; simp), if_neg (by simp), hc, hn, if_neg (by omega), if_neg (by omega)]
    have hg : rd (partsOf f) { headOf f with pad := ((0 : Nat) : Int) } (P.take (P.length - 0)) = nf f := by
      rw [Nat.sub_zero, List.take_of_length_le (Nat.le_refl _), hrd _ rfl, nf, baseF, hp]
      rfl
    refine (congrArg (fun g : Fra => if g.k = 8 ∧ g.inc = 0 then (zeroF, (⟨true, g.st, 1⟩ : Flt)) else (g, ⟨false, 0, 0⟩)) hg).trans ?_
    exact if_neg (hfin _ rfl)
  · have hpb : 0 ≤ f.pad ∧ f.pad ≤ 255 := by simpa [padOk, hp] using hpo
    have hflat : (allP f).2.flatten = UInt8.ofNat f.pad.toNat :: (P ++ List.replicate f.pad.toNat 0) := by rw [hall]; simp [padsB, padsE, hp, hP]
    have hsz := sized_any hp (UInt8.ofNat f.pad.toNat :: (P ++ List.replicate f.pad.toNat 0)).length
    have hc : padC (headOf f) (UInt8.ofNat f.pad.toNat :: (P ++ List.replicate f.pad.toNat 0)) = P ++ List.replicate f.pad.toNat 0 := by simp [padC, hpd, hp]
    have hn : padN (headOf f) (UInt8.ofNat f.pad.toNat :: (P ++ List.replicate f.pad.toNat 0)) = f.pad.toNat := by
      simp [padN, hpd, hp]
      omega
    rw [hflat, if_neg (by rw [hsz]; simp), if_neg (by simp), hc, hn, if_neg (by simp; omega), if_neg (by simp; omega)]
    have hg : rd (partsOf f) { headOf f with pad := ((f.pad.toNat : Nat) : Int) } ((P ++ List.replicate f.pad.toNat 0).take ((P ++ List.replicate f.pad.toNat 0).length - f.pad.toNat)) = nf f := by
      have e : (P ++ List.replicate f.pad.toNat (0 : UInt8)).length - f.pad.toNat = P.length := by simp
      have e2 : ((f.pad.toNat : Nat) : Int) = f.pad := by omega
      rw [e, List.take_left, hrd _ rfl, e2, nf, baseF, hp]
      rfl
    refine (congrArg (fun g : Fra => if g.k = 8 ∧ g.inc = 0 then (zeroF, (⟨true, g.st, 1⟩ : Flt)) else (g, ⟨false, 0, 0⟩)) hg).trans ?_
    exact if_neg (hfin _ rfl)

/-- What is written is read back, whatever stands behind. -/
theorem parse_back {f : Fra} (hf : Fits f) (h : (writeO f).1 = 0) (Z : List UInt8) (most : Int) (hm : 16777215 ≤ most) : parseO ((writeO f).2 ++ Z) most = (nf f, (writeO f).2.length, ⟨false, 0, 0⟩, 0) := by
  obtain ⟨h1, h2, h3, h4, h5, h6⟩ := writeO_ok h
  obtain ⟨body, hb⟩ : ∃ body, (allP f).2.flatten = body := ⟨_, rfl⟩
  have hrb := read_back hf h1 h2 h3 h4
  rw [hb] at h5 h6 hrb
  have hl := headB_len f body.length
  rw [h6, List.append_assoc, parseO, if_neg (by omega), if_neg (by simp [hl]), head_num _ _ _ h5, if_neg (by omega), if_neg (by simp [hl]), head_frame _ _ _ h1, head_drop, List.take_left, hrb]
  simp [hl]
/-- No beginning of a frame is a frame. -/
theorem parse_short {f : Fra} (h : (writeO f).1 = 0) (c : Nat) (hc : c < (writeO f).2.length) : parseO ((writeO f).2.take c) 16777215 = (zeroF, 0, ⟨false, 0, 0⟩, 3) := by
  obtain ⟨h1, h2, h3, h4, h5, h6⟩ := writeO_ok h
  obtain ⟨body, hb⟩ : ∃ body, (allP f).2.flatten = body := ⟨_, rfl⟩
  rw [hb] at h5 h6
  have hl := headB_len f body.length
  rw [h6] at hc ⊢
  rw [List.length_append, hl] at hc
  have hlen : ((headB f body.length ++ body).take c).length = c := by rw [List.length_take, List.length_append, hl]; omega
  rw [parseO, if_neg (by omega), hlen]
  by_cases h9 : c < 9
  · rw [if_pos h9]
  · have hn : num (((headB f body.length ++ body).take c).take 3) = body.length := by
      rw [List.take_take, Nat.min_eq_left (by omega), head_num _ _ _ h5]
    rw [if_neg h9, hn, if_neg (by omega), if_pos (by omega)]
end Go.Proofs.Ytikaefjhmgcidaa
