/- Plain facts: each byte of a frame that is read is told. -/
import Derived.Test.YthcjgjmbicnklaaPn
namespace Go.Proofs.Ythcjgjmbicnklaa
open Go.RowKit
set_option linter.unusedVariables false
set_option maxRecDepth 100000
set_option maxHeartbeats 4000000

theorem be_num_any (n : Nat) : ∀ (X : List UInt8), X.length = n → be n (num X) = X := by
  induction n with
  | zero => intro X h; obtain rfl := List.eq_nil_of_length_eq_zero h; rfl
  | succ n ih =>
    intro X h
    rcases List.eq_nil_or_concat X with rfl | ⟨Y, c, rfl⟩
    · simp at h
    · have hY : Y.length = n := by simpa using h
      have hc := c.toNat_lt
      rw [List.concat_eq_append, be, num_snoc, show (num Y * 256 + c.toNat) / 256 = num Y by omega, ih Y hY]
      congr 2
      apply UInt8.toNat_inj.1
      simp
theorem be_num_of {X : List UInt8} {n : Nat} (h : X.length = n) : be n (num X) = X := be_num_any n X h
/-- The highest bit of the first byte is taken away. -/
def clr : List UInt8 → List UInt8
  | [] => []
  | x :: r => (x % 128) :: r
theorem clr_len (X : List UInt8) : (clr X).length = X.length := by cases X <;> rfl
theorem be4_clr {X : List UInt8} (h : X.length = 4) : be 4 (num X % 2147483648) = clr X := by
  match X, h with
  | [a, b, c, d], _ =>
    have ha := a.toNat_lt
    have hb := b.toNat_lt
    have hc := c.toNat_lt
    have hd := d.toNat_lt
    have hn : num [a, b, c, d] = ((a.toNat * 256 + b.toNat) * 256 + c.toNat) * 256 + d.toNat := by simp [num]
    have hm : (a % 128).toNat = a.toNat % 128 := by simp
    have e : num [a, b, c, d] % 2147483648 = num (clr [a, b, c, d]) := by
      have hn2 : num (clr [a, b, c, d]) = (((a % 128).toNat * 256 + b.toNat) * 256 + c.toNat) * 256 + d.toNat := by simp [num, clr]
      rw [hn, hn2, hm]
      omega
    rw [e]
    exact be_num_of rfl

/-- What is written of a part that was read. -/
theorem again_0 (h : Fra) {b : List UInt8} (hb : b.length = 4) : pieceO 0 (rdP 0 h b) = (0, clr b) := by
  have ht : b.take 4 = b := List.take_of_length_le (by omega)
  have hl : (rdP 0 h b).last = ((num b % 2147483648 : Nat) : Int) := by simp [rdP, ht]
  have hi : idOk (rdP 0 h b).last = true := by rw [hl]; simp [idOk]; omega
  have h1 : pieceO 0 (rdP 0 h b) = (0, be 4 (rdP 0 h b).last.toNat) := by simp [pieceO, hi]
  rw [h1, hl, Int.toNat_natCast, be4_clr hb]
theorem again_1 (h : Fra) {b : List UInt8} (hb : b.length = 4) : pieceO 1 (rdP 1 h b) = (0, b) := by
  have ht : b.take 4 = b := List.take_of_length_le (by omega)
  have hl : (rdP 1 h b).code = num b := by simp [rdP, ht]
  simp [pieceO, hl, be_num_of hb]
theorem again_2 (h : Fra) {b : List UInt8} (hb : b.length = 5) : pieceO 2 (rdP 2 h b) = (0, b) := by
  match b, hb with
  | [x0, x1, x2, x3, x4], _ =>
    have h0 := x0.toNat_lt
    have h1 := x1.toNat_lt
    have h2 := x2.toNat_lt
    have h3 := x3.toNat_lt
    have h4 := x4.toNat_lt
    have hd : (rdP 2 h [x0, x1, x2, x3, x4]).dep = ((num [x0, x1, x2, x3] % 2147483648 : Nat) : Int) := by simp [rdP]
    have ho : (rdP 2 h [x0, x1, x2, x3, x4]).only = decide (128 ≤ x0.toNat) := by simp [rdP]
    have hw : (rdP 2 h [x0, x1, x2, x3, x4]).wt = ((x4.toNat : Nat) : Int) + 1 := by simp [rdP]
    have hn : num [x0, x1, x2, x3] = ((x0.toNat * 256 + x1.toNat) * 256 + x2.toNat) * 256 + x3.toNat := by simp [num]
    have hi : (idOk (rdP 2 h [x0, x1, x2, x3, x4]).dep && decide (1 ≤ (rdP 2 h [x0, x1, x2, x3, x4]).wt ∧ (rdP 2 h [x0, x1, x2, x3, x4]).wt ≤ 256)) = true := by
      rw [hd, hw]
      simp [idOk]
      omega
    have hdw : depW (rdP 2 h [x0, x1, x2, x3, x4]) = num [x0, x1, x2, x3] := by
      rw [depW, hd, ho, Int.toNat_natCast]
      by_cases hx : 128 ≤ x0.toNat
      · rw [if_pos (by simpa using hx)]
        omega
      · rw [if_neg (by simpa using hx)]
        omega
    have hwt : ((rdP 2 h [x0, x1, x2, x3, x4]).wt - 1).toNat = x4.toNat := by rw [hw]; omega
    have hbe : be 4 (num [x0, x1, x2, x3]) = [x0, x1, x2, x3] := be_num_of rfl
    simp only [pieceO, hi, hdw, hwt, hbe]
    simp
theorem again_6 (h : Fra) {b : List UInt8} (hb : b.length = 4) (hi0 : (rdP 6 h b).inc ≠ 0) : pieceO 6 (rdP 6 h b) = (0, clr b) := by
  have ht : b.take 4 = b := List.take_of_length_le (by omega)
  have hl : (rdP 6 h b).inc = ((num b % 2147483648 : Nat) : Int) := by simp [rdP, ht]
  have hi : decide (1 ≤ (rdP 6 h b).inc ∧ (rdP 6 h b).inc ≤ 2147483647) = true := by
    rw [hl] at hi0 ⊢
    simp at hi0 ⊢
    omega
  have h1 : pieceO 6 (rdP 6 h b) = (0, be 4 (rdP 6 h b).inc.toNat) := by simp only [pieceO, hi]; simp
  rw [h1, hl, Int.toNat_natCast, be4_clr hb]
theorem setsB_of (n : Nat) : ∀ (b : List UInt8), b.length = 6 * n → setsB (setsOf n b) = b := by
  induction n with
  | zero => intro b hb; obtain rfl : b = [] := List.eq_nil_of_length_eq_zero (by omega); rfl
  | succ n ih =>
    intro b hb
    have e : setsB (setsOf (n + 1) b) = be 2 (num (b.take 2)) ++ (be 4 (num ((b.drop 2).take 4)) ++ setsB (setsOf n (b.drop 6))) := by simp [setsOf, setsB, setB]
    rw [e, ih (b.drop 6) (by rw [List.length_drop]; omega), be_num_of (by rw [List.length_take]; omega), be_num_of (by rw [List.length_take, List.length_drop]; omega)]
    rw [show b.drop 6 = (b.drop 2).drop 4 by rw [List.drop_drop], List.take_append_drop, List.take_append_drop]
theorem again_4 (h : Fra) {b : List UInt8} (hY : h.Y = []) (hb : b.length = 0 ∨ (b.length % 6 = 0 ∧ has h.fl 1 = false)) : pieceO 4 (rdP 4 h b) = (0, b) := by
  have hy : (rdP 4 h b).Y = setsOf (b.length / 6) b := by simp [rdP, hY]
  have hfl : (rdP 4 h b).fl = h.fl := by simp [rdP]
  have hlen := setsOf_len (b.length / 6) b
  have hbad : (decide (0 < (rdP 4 h b).Y.length) && has (rdP 4 h b).fl 1) = false := by
    rw [hy, hfl, hlen]
    rcases hb with hb | hb
    · simp [hb]
    · simp [hb.2]
  have hall : (rdP 4 h b).Y.all setOk = true := by
    rw [hy, List.all_eq_true]
    intro s hs
    have := (setsOf_ok _ _ s hs).1
    simp [setOk]
    omega
  have hback : setsB (setsOf (b.length / 6) b) = b := setsB_of _ b (by omega)
  have h1 : pieceO 4 (rdP 4 h b) = (0, setsB (rdP 4 h b).Y) := by simp only [pieceO, hbad, hall]; simp
  rw [h1, hy, hback]

/-- Which bytes are written of what was read. -/
def clrK (k : Int) (P : List UInt8) : List UInt8 := if k = 5 ∨ k = 7 ∨ k = 8 then clr P else P
theorem rd_keeps : ∀ (js : List Nat) (g : Fra) (b : List UInt8), (rd js g b).k = g.k ∧ (rd js g b).fl = g.fl ∧ (rd js g b).st = g.st ∧ (rd js g b).pad = g.pad := by
  intro js
  induction js with
  | nil => intro g b; exact ⟨rfl, rfl, rfl, rfl⟩
  | cons j js ih =>
    intro g b
    have h := ih (rdP j g (b.take (cutP j b))) (b.drop (cutP j b))
    have h2 : (rdP j g (b.take (cutP j b))).k = g.k ∧ (rdP j g (b.take (cutP j b))).fl = g.fl ∧ (rdP j g (b.take (cutP j b))).st = g.st ∧ (rdP j g (b.take (cutP j b))).pad = g.pad := by
      unfold rdP
      repeat' split
      all_goals exact ⟨rfl, rfl, rfl, rfl⟩
    rw [rd]
    exact ⟨h.1.trans h2.1, h.2.1.trans h2.2.1, h.2.2.1.trans h2.2.2.1, h.2.2.2.trans h2.2.2.2⟩
theorem clr_append {P Q : List UInt8} (h : 0 < P.length) : clr (P ++ Q) = clr P ++ Q := by
  cases P with
  | nil => simp at h
  | cons x r => rfl
theorem clr_split (P : List UInt8) (n : Nat) (hn : 0 < n) : clr (P.take n) ++ P.drop n = clr P := by
  cases P with
  | nil => simp [clr]
  | cons x r =>
    cases n with
    | zero => omega
    | succ n => simp [clr]
/-- The parts that are read are written as they were, but for a bit. -/
theorem again_parts {h : Fra} {P : List UInt8} (hY : h.Y = []) (hls : leastP (partsOf h) ≤ P.length) (hsz : padd h = false → sizedB h P.length = true) (hinc : ¬ ((rd (partsOf h) h P).k = 8 ∧ (rd (partsOf h) h P).inc = 0)) (hk : knownB h.k = true) :
    (∀ j ∈ partsOf h, (pieceO j (rd (partsOf h) h P)).1 = 0) ∧ (pieceL (rd (partsOf h) h P) (partsOf h)).flatten = clrK h.k P := by
  have hcan : canP h.k = false → sizedB h P.length = true := fun hc => hsz (by simp [padd, hc])
  rcases kinds h.k with e | e | e | e | e | e | e | e | e | e | hno
  · have ep : partsOf h = [3] := by simp [partsOf, e]
    have er : rd [3] h P = { h with X := P } := by simp [rd, rdP, cutP, sizeP]
    rw [ep, er]
    simp [pieceO, pieceL, clrK, e]
  · by_cases hh : has h.fl 32 = true
    · have ep : partsOf h = [2, 3] := by simp [partsOf, e, hh]
      rw [ep] at hls ⊢
      have h5 : 5 ≤ P.length := by simpa [leastP, sizeP] using hls
      have er : rd [2, 3] h P = { rdP 2 h (P.take 5) with X := P.drop 5 } := by
        simp [rd, cutP, sizeP]
        simp [rdP]
        exact List.take_of_length_le (by rw [List.length_drop]; omega)
      have h2 : pieceO 2 (rd [2, 3] h P) = (0, P.take 5) := by
        rw [er]
        exact again_2 h (b := P.take 5) (by rw [List.length_take]; omega)
      have h3 : pieceO 3 (rd [2, 3] h P) = (0, P.drop 5) := by rw [er]; simp [pieceO]
      refine ⟨fun j hj => by simp at hj; rcases hj with rfl | rfl; rw [h2]; rw [h3], ?_⟩
      simp [pieceL, h2, h3, clrK, e]
    · have ep : partsOf h = [3] := by simp [partsOf, e, hh]
      have er : rd [3] h P = { h with X := P } := by simp [rd, rdP, cutP, sizeP]
      rw [ep, er]
      simp [pieceO, pieceL, clrK, e]
  · have ep : partsOf h = [2] := by simp [partsOf, e]
    have h5 : P.length = 5 := by have := hcan (by simp [canP, e]); simpa [sizedB, e] using this
    have er : rd [2] h P = rdP 2 h P := by simp [rd, cutP, sizeP, List.take_of_length_le (show P.length ≤ 5 by omega)]
    have h2 := again_2 h h5
    rw [ep, er]
    refine ⟨fun j hj => by simp at hj; subst hj; rw [h2], ?_⟩
    simp [pieceL, h2, clrK, e]
  · have ep : partsOf h = [1] := by simp [partsOf, e]
    have h5 : P.length = 4 := by have := hcan (by simp [canP, e]); simpa [sizedB, e] using this
    have er : rd [1] h P = rdP 1 h P := by simp [rd, cutP, sizeP, List.take_of_length_le (show P.length ≤ 4 by omega)]
    have h2 := again_1 h h5
    rw [ep, er]
    refine ⟨fun j hj => by simp at hj; subst hj; rw [h2], ?_⟩
    simp [pieceL, h2, clrK, e]
  · have ep : partsOf h = [4] := by simp [partsOf, e]
    have h5 : P.length = 0 ∨ (P.length % 6 = 0 ∧ has h.fl 1 = false) := by have := hcan (by simp [canP, e]); simpa [sizedB, e] using this
    have er : rd [4] h P = rdP 4 h P := by simp [rd, cutP, sizeP]
    have h2 := again_4 h hY h5
    rw [ep, er]
    refine ⟨fun j hj => by simp at hj; subst hj; rw [h2], ?_⟩
    simp [pieceL, h2, clrK, e]
  · have ep : partsOf h = [0, 3] := by simp [partsOf, e]
    rw [ep] at hls ⊢
    have h5 : 4 ≤ P.length := by simpa [leastP, sizeP] using hls
    have er : rd [0, 3] h P = { rdP 0 h (P.take 4) with X := P.drop 4 } := by
      simp [rd, cutP, sizeP]
      simp [rdP]
      exact List.take_of_length_le (by rw [List.length_drop]; omega)
    have h2 : pieceO 0 (rd [0, 3] h P) = (0, clr (P.take 4)) := by
      rw [er]
      exact again_0 h (b := P.take 4) (by rw [List.length_take]; omega)
    have h3 : pieceO 3 (rd [0, 3] h P) = (0, P.drop 4) := by rw [er]; simp [pieceO]
    refine ⟨fun j hj => by simp at hj; rcases hj with rfl | rfl; rw [h2]; rw [h3], ?_⟩
    simp [pieceL, h2, h3, clrK, e, clr_split]
  · have ep : partsOf h = [5] := by simp [partsOf, e]
    have h5 : P.length = 8 := by have := hcan (by simp [canP, e]); simpa [sizedB, e] using this
    have er : rd [5] h P = { h with X := P } := by simp [rd, rdP, cutP, sizeP, List.take_of_length_le (show P.length ≤ 8 by omega)]
    rw [ep, er]
    simp [pieceO, pieceL, clrK, e, h5]
  · have ep : partsOf h = [0, 1, 3] := by simp [partsOf, e]
    rw [ep] at hls ⊢
    have h5 : 8 ≤ P.length := by simpa [leastP, sizeP] using hls
    have er : rd [0, 1, 3] h P = { rdP 1 (rdP 0 h (P.take 4)) ((P.drop 4).take 4) with X := P.drop 8 } := by
      simp [rd, cutP, sizeP]
      simp [rdP]
      exact List.take_of_length_le (by rw [List.length_drop]; omega)
    have h2 : pieceO 0 (rd [0, 1, 3] h P) = (0, clr (P.take 4)) := by
      rw [er]
      exact again_0 h (b := P.take 4) (by rw [List.length_take]; omega)
    have h3 : pieceO 1 (rd [0, 1, 3] h P) = (0, (P.drop 4).take 4) := by
      rw [er]
      exact again_1 (rdP 0 h (P.take 4)) (b := (P.drop 4).take 4) (by rw [List.length_take, List.length_drop]; omega)
    have h4 : pieceO 3 (rd [0, 1, 3] h P) = (0, P.drop 8) := by rw [er]; simp [pieceO]
    refine ⟨fun j hj => by simp at hj; rcases hj with rfl | rfl | rfl; rw [h2]; rw [h3]; rw [h4], ?_⟩
    have e8 : (P.drop 4).take 4 ++ P.drop 8 = P.drop 4 := by rw [show P.drop 8 = (P.drop 4).drop 4 by rw [List.drop_drop], List.take_append_drop]
    simp [pieceL, h2, h3, h4, clrK, e, e8, clr_split]
  · have ep : partsOf h = [6] := by simp [partsOf, e]
    have h5 : P.length = 4 := by have := hcan (by simp [canP, e]); simpa [sizedB, e] using this
    have er : rd [6] h P = rdP 6 h P := by simp [rd, cutP, sizeP, List.take_of_length_le (show P.length ≤ 4 by omega)]
    rw [ep, er] at hinc
    have hk8 : (rdP 6 h P).k = 8 := by simp [rdP, e]
    have h2 := again_6 h h5 (fun h0 => hinc ⟨hk8, h0⟩)
    rw [ep, er]
    refine ⟨fun j hj => by simp at hj; subst hj; rw [h2], ?_⟩
    simp [pieceL, h2, clrK, e]
  · have ep : partsOf h = [3] := by simp [partsOf, e]
    have er : rd [3] h P = { h with X := P } := by simp [rd, rdP, cutP, sizeP]
    rw [ep, er]
    simp [pieceO, pieceL, clrK, e]
  · simp [knownB] at hk
    omega

/-- The bytes, but for a bit of the stream's number, and of numbers of 31 bits. -/
def fixB (k : Int) (D : List UInt8) : List UInt8 :=
  if k = 8 ∨ k = 7 then (D.set 5 (D.getD 5 0 % 128)).set 9 ((D.set 5 (D.getD 5 0 % 128)).getD 9 0 % 128) else D.set 5 (D.getD 5 0 % 128)
theorem read_again {h g : Fra} {body : List UInt8} (hh : h = headOf h) (hfl : 0 ≤ h.fl ∧ h.fl ≤ 255) (hid : idOk h.st = true) (hr : readO h body = (g, ⟨false, 0, 0⟩)) (hk : knownB h.k = true) (hp : g.pad = 0) (hN : body.length ≤ 65536) :
    g.k = h.k ∧ g.fl = h.fl ∧ g.st = h.st ∧ writeO g = (0, headB h body.length ++ (if padd h then (body.take 1 ++ clrK h.k (body.drop 1)) else clrK h.k body)) := by
  unfold readO at hr
  split at hr
  · simp at hr
  rename_i hpl
  split at hr
  · simp at hr
  rename_i hsz
  split at hr
  · simp at hr
  rename_i hnz
  split at hr
  · simp at hr
  rename_i hls
  split at hr
  · simp at hr
  rename_i hov
  dsimp only at hr
  split at hr
  · simp at hr
  rename_i hinc
  simp only [Prod.mk.injEq, and_true] at hr
  obtain ⟨P, hP⟩ : ∃ P, padC h body = P := ⟨_, rfl⟩
  rw [hP] at hr hinc hls hov
  have hkeep := rd_keeps (partsOf h) { h with pad := ((padN h body : Nat) : Int) } (P.take (P.length - padN h body))
  rw [hr] at hkeep
  have hpn : padN h body = 0 := by
    have := hkeep.2.2.2
    rw [hp] at this
    simp at this
    omega
  rw [hpn, Nat.sub_zero, List.take_of_length_le (Nat.le_refl _)] at hr hinc
  have hh2 : ({ h with pad := ((0 : Nat) : Int) } : Fra) = h := by rw [hh]; rfl
  rw [hh2] at hr hinc
  have hY : h.Y = [] := by rw [hh]; rfl
  have hag := again_parts (h := h) (P := P) hY (by omega) (fun hp0 => by
    have : padC h body = body := by simp [padC, hp0]
    rw [← hP, this]
    simpa using hsz) hinc hk
  rw [hr] at hag
  have e1 : g.k = h.k := hkeep.1
  have e2 : g.fl = h.fl := hkeep.2.1
  have e3 : g.st = h.st := hkeep.2.2.1
  have p1 : headOk g = true := by simp only [headOk, e1, e2, e3, hk, hid]; simp; exact hfl
  have p2 : placedB g.k g.st = true := by rw [e1, e3]; simpa using hpl
  have p3 : padd g = padd h := by simp only [padd, e1, e2]
  have p4 : padOk g = true := by
    cases hq : padd g
    · simp [padOk, hq, hp]
    · simp [padOk, hq, hp]
  have p5 : partsOf g = partsOf h := by simp only [partsOf, e1, e2]
  have p6 : allP g = (0, padsB g ++ pieceL g (partsOf h) ++ padsE g) := by rw [allP, p5, pieces_ok hag.1, if_pos rfl]
  have p7 : (allP g).2.flatten = if padd h then (body.take 1 ++ clrK h.k (body.drop 1)) else clrK h.k body := by
    rw [p6]
    cases hq : padd h
    · have hb : padC h body = body := by simp [padC, hq]
      rw [hb] at hP
      simp [padsB, padsE, p3, hq, hag.2, hP]
    · have hb : padC h body = body.drop 1 := by simp [padC, hq]
      have h0 : body.getD 0 0 = 0 := by
        have : (body.getD 0 0).toNat = 0 := by simpa [padN, hq] using hpn
        exact UInt8.toNat_inj.1 this
      have hl0 : 0 < body.length := by
        apply Nat.pos_of_ne_zero
        intro h0
        exact hnz ⟨hq, h0⟩
      have ht : body.take 1 = [0] := by
        cases body with
        | nil => simp at hl0
        | cons x r => simp at h0; simp [h0]
      rw [hb] at hP
      simp [padsB, padsE, p3, hq, hag.2, hp, ht, hP]
  have hcl : ∀ Q, (clrK h.k Q).length = Q.length := fun Q => by unfold clrK; split <;> simp [clr_len]
  have p8 : (allP g).2.flatten.length = body.length := by
    rw [p7]
    split
    · rename_i hq
      have hl0 : 0 < body.length := by
        apply Nat.pos_of_ne_zero
        intro h0
        exact hnz ⟨hq, h0⟩
      rw [List.length_append, hcl, List.length_take, List.length_drop]
      omega
    · exact hcl body
  have p9 : ∀ n, headB g n = headB h n := fun n => by simp only [headB, e1, e2, e3]
  refine ⟨e1, e2, e3, ?_⟩
  rw [writeO, p1, p2, p4, p8, p7, p9]
  rw [if_pos (by rfl), if_pos (by rw [p6]), if_pos (by omega)]

theorem read_fine {h : Fra} {b : List UInt8} (hx : (readO h b).2.is = false) : (readO h b).2 = ⟨false, 0, 0⟩ := by
  unfold readO at hx ⊢
  by_cases c1 : placedB h.k h.st = false
  · rw [if_pos c1] at hx; cases hx
  rw [if_neg c1] at hx ⊢
  by_cases c2 : sizedB h b.length = false
  · rw [if_pos c2] at hx; cases hx
  rw [if_neg c2] at hx ⊢
  by_cases c3 : padd h = true ∧ b.length = 0
  · rw [if_pos c3] at hx; cases hx
  rw [if_neg c3] at hx ⊢
  by_cases c4 : (padC h b).length < leastP (partsOf h)
  · rw [if_pos c4] at hx; cases hx
  rw [if_neg c4] at hx ⊢
  by_cases c5 : (padC h b).length - leastP (partsOf h) < padN h b
  · rw [if_pos c5] at hx; cases hx
  rw [if_neg c5] at hx ⊢
  dsimp only at hx ⊢
  split at hx
  · cases hx
  · rename_i c6
    rw [if_neg c6]
theorem list9 {B : List UInt8} (h : 9 ≤ B.length) : ∃ b0 b1 b2 b3 b4 b5 b6 b7 b8 R, B = b0 :: b1 :: b2 :: b3 :: b4 :: b5 :: b6 :: b7 :: b8 :: R := by
  match B, h with
  | b0 :: b1 :: b2 :: b3 :: b4 :: b5 :: b6 :: b7 :: b8 :: R, _ => exact ⟨b0, b1, b2, b3, b4, b5, b6, b7, b8, R, rfl⟩
/-- A frame that is read, without padding, is written as the same bytes, but for a bit. -/
theorem parse_again {B : List UInt8} {g : Fra} {n : Nat} {x : Flt} (h : parseO B 65536 = (g, n, x, 0)) (hx : x.is = false) (hk : knownB g.k = true) (hp : g.pad = 0) :
    9 ≤ n ∧ n ≤ B.length ∧ n ≤ 65545 ∧ ∃ c, writeO g = (0, c) ∧ c.length = n ∧ (g.k ≠ 5 → c = fixB g.k (B.take n)) ∧ (g.k = 7 ∨ g.k = 8 → 9 < n) := by
  unfold parseO at h
  rw [if_neg (by omega)] at h
  split at h
  · simp at h
  rename_i h9
  split at h
  · simp only [Prod.mk.injEq] at h
    obtain ⟨-, -, rfl, -⟩ := h
    cases hx
  rename_i hbig
  split at h
  · simp at h
  rename_i hsh
  simp only [Prod.mk.injEq] at h
  obtain ⟨hg, hn, hf, -⟩ := h
  obtain ⟨b0, b1, b2, b3, b4, b5, b6, b7, b8, R, rfl⟩ := list9 (B := B) (by omega)
  have ht3 : (b0 :: b1 :: b2 :: b3 :: b4 :: b5 :: b6 :: b7 :: b8 :: R).take 3 = [b0, b1, b2] := rfl
  have hd9 : (b0 :: b1 :: b2 :: b3 :: b4 :: b5 :: b6 :: b7 :: b8 :: R).drop 9 = R := rfl
  rw [ht3] at hg hn hf hbig hsh
  rw [hd9] at hg hf
  obtain ⟨N, hN⟩ : ∃ N, num [b0, b1, b2] = N := ⟨_, rfl⟩
  rw [hN] at hg hn hf hbig hsh
  have hRl : N ≤ R.length := by simp at hsh; omega
  obtain ⟨body, hb⟩ : ∃ body, R.take N = body := ⟨_, rfl⟩
  have hbl : body.length = N := by rw [← hb, List.length_take]; omega
  rw [hb] at hg hf
  obtain ⟨hd, hhd⟩ : ∃ hd, headF (b0 :: b1 :: b2 :: b3 :: b4 :: b5 :: b6 :: b7 :: b8 :: R) = hd := ⟨_, rfl⟩
  rw [hhd] at hg hf
  have k3 : hd.k = (b3.toNat : Int) := by rw [← hhd]; rfl
  have k4 : hd.fl = (b4.toNat : Int) := by rw [← hhd]; rfl
  have k5 : hd.st = ((num [b5, b6, b7, b8] % 2147483648 : Nat) : Int) := by rw [← hhd]; rfl
  have u3 := b3.toNat_lt
  have u4 := b4.toNat_lt
  have hfa : (readO hd body).2 = ⟨false, 0, 0⟩ := by
    rw [← hf] at hx
    exact read_fine hx
  have hro : readO hd body = (g, ⟨false, 0, 0⟩) := Prod.ext hg hfa
  have hkd : knownB hd.k = true := by
    have : g.k = hd.k := by
      have h1 := hro
      unfold readO at h1
      split at h1
      · simp at h1
      split at h1
      · simp at h1
      split at h1
      · simp at h1
      split at h1
      · simp at h1
      split at h1
      · simp at h1
      dsimp only at h1
      split at h1
      · simp at h1
      simp only [Prod.mk.injEq, and_true] at h1
      have h2 := (rd_keeps (partsOf hd) { hd with pad := ((padN hd body : Nat) : Int) } ((padC hd body).take ((padC hd body).length - padN hd body))).1
      rw [h1] at h2
      exact h2
    rw [← this]; exact hk
  obtain ⟨e1, e2, e3, hw⟩ := read_again (h := hd) (by rw [← hhd]; rfl) (by rw [k4]; omega) (by rw [k5]; simp [idOk]; omega) hro hkd hp (by omega)
  have hhB : headB hd body.length = [b0, b1, b2, b3, b4, b5 % 128, b6, b7, b8] := by
    have q1 : be 3 N = [b0, b1, b2] := by rw [← hN]; exact be_num_of rfl
    have q2 : be 4 (num [b5, b6, b7, b8] % 2147483648) = [b5 % 128, b6, b7, b8] := be4_clr rfl
    rw [headB, hbl, q1, k3, k4, k5]
    simp only [Int.toNat_natCast, q2]
    simp
  have htk : (b0 :: b1 :: b2 :: b3 :: b4 :: b5 :: b6 :: b7 :: b8 :: R).take n = b0 :: b1 :: b2 :: b3 :: b4 :: b5 :: b6 :: b7 :: b8 :: body := by
    rw [← hn, show 9 + N = N + 9 by omega, ← hb]
    rfl
  have hcl : ∀ Q, (clrK hd.k Q).length = Q.length := fun Q => by unfold clrK; split <;> simp [clr_len]
  have h78 : g.k = 7 ∨ g.k = 8 → padd hd = false ∧ 0 < body.length := fun h => by
    have hkk : hd.k = 7 ∨ hd.k = 8 := by rw [← e1]; exact h
    have hc : padd hd = false := by rcases hkk with h | h <;> simp [padd, canP, h]
    refine ⟨hc, ?_⟩
    have h1 := hro
    unfold readO at h1
    split at h1
    · simp at h1
    split at h1
    · simp at h1
    rename_i hs
    rcases hkk with h | h <;> simp [sizedB, h] at hs <;> omega
  refine ⟨by omega, by simp; omega, by simp at hbig; omega, _, hw, ?_, fun h5 => ?_, fun h => by have := (h78 h).2; omega⟩
  · rw [List.length_append, hhB]
    cases hq : padd hd
    · simp [hcl, hbl]; omega
    · have h1 := hro
      have hl0 : 0 < body.length := by
        apply Nat.pos_of_ne_zero
        intro h0
        unfold readO at h1
        split at h1
        · simp at h1
        split at h1
        · simp at h1
        rw [if_pos ⟨hq, h0⟩] at h1
        simp at h1
      simp [hcl]
      omega
  · rw [htk, hhB]
    by_cases hc : g.k = 8 ∨ g.k = 7
    · obtain ⟨hq, hl0⟩ := h78 hc.symm
      have hck : clrK hd.k body = clr body := by rw [clrK, if_pos (by rw [← e1]; omega)]
      rw [fixB, if_pos hc, hq]
      simp only [hck]
      cases body with
      | nil => simp at hl0
      | cons y r => simp [clr]
    · have hck : ∀ Q, clrK hd.k Q = Q := fun Q => by rw [clrK, if_neg (by rw [← e1]; omega)]
      rw [fixB, if_neg hc]
      cases hq : padd hd
      · simp [hck]
      · rw [if_pos rfl, hck, List.take_append_drop]
        simp
end Go.Proofs.Ythcjgjmbicnklaa
