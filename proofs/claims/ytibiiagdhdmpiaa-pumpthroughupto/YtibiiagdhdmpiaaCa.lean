/- Plain facts on rows that turn. -/
import Derived.Test.YtibiiagdhdmpiaaB1
namespace Go.Proofs.Ytibiiagdhdmpiaa

/-- Where the byte k behind the first one lies, in a row of 'len' places. -/
def placeOf (first k len : Nat) : Nat := if first + k < len then first + k else first + k - len

/-- The bytes of 'cur' from 'first' on, then those ahead of it. -/
def rot (cur : List UInt8) (first : Nat) : List UInt8 := cur.drop first ++ cur.take first

theorem rot_length (cur : List UInt8) (first : Nat) (h : first ≤ cur.length) : (rot cur first).length = cur.length := by simp [rot]; omega

theorem rot_get (cur : List UInt8) (first i : Nat) (h : first < cur.length) (hi : i < cur.length) : (rot cur first)[i]? = cur[placeOf first i cur.length]? := by
  unfold rot placeOf
  rw [List.getElem?_append]
  by_cases hc : i < cur.length - first
  · rw [if_pos (by simpa using hc), if_pos (by omega), List.getElem?_drop]
  · rw [if_neg (by simpa using hc), if_neg (by omega), List.getElem?_take, if_pos (by simp; omega), List.length_drop]
    congr 1
    omega

theorem splice_get (cur cs : List UInt8) (off j : Nat) (h : off + cs.length ≤ cur.length) : (splice cur off cs)[j]? = if off ≤ j ∧ j < off + cs.length then cs[j - off]? else cur[j]? := by
  unfold splice
  rw [List.getElem?_append, List.length_take]
  by_cases h1 : j < off
  · rw [if_pos (by omega), if_neg (by omega), List.getElem?_take, if_pos h1]
  · rw [if_neg (by omega), List.getElem?_append, Nat.min_eq_left (by omega)]
    by_cases h2 : j < off + cs.length
    · rw [if_pos (by omega), if_pos ⟨by omega, h2⟩]
    · rw [if_neg (by omega), if_neg (by omega), List.getElem?_drop]
      congr 1
      omega

theorem placeOf_spec (first k len : Nat) : (first + k < len ∧ placeOf first k len = first + k) ∨ (len ≤ first + k ∧ placeOf first k len + len = first + k) := by
  unfold placeOf; split <;> omega

theorem ring_put (cur L bs : List UInt8) (first n k p : Nat) (h1 : first < cur.length) (hL : L = (rot cur first).take L.length) (h2 : L.length + n ≤ cur.length) (h3 : n ≤ bs.length)
    (hp : p = placeOf first L.length cur.length) (hk : k = min (cur.length - p) n) :
    L ++ bs.take n = (rot (splice (splice cur p (bs.take k)) 0 ((bs.take n).drop k)) first).take (L.length + n) := by
  have hpl : p < cur.length := by rw [hp]; unfold placeOf; split <;> omega
  have l1 : (bs.take k).length = k := by simp; omega
  have l2 : ((bs.take n).drop k).length = n - k := by simp; omega
  have s1 : (splice cur p (bs.take k)).length = cur.length := length_splice _ _ _ (by omega)
  have s2 : (splice (splice cur p (bs.take k)) 0 ((bs.take n).drop k)).length = cur.length := by rw [length_splice _ _ _ (by rw [l2, s1]; omega), s1]
  apply List.ext_getElem?
  intro i
  by_cases hi : i < L.length + n
  · rw [List.getElem?_take, if_pos hi, rot_get _ _ _ (by omega) (by omega), s2, splice_get _ _ _ _ (by rw [l2, s1]; omega), splice_get _ _ _ _ (by omega), l1, l2, List.getElem?_append]
    have sp := placeOf_spec first L.length cur.length
    have sq := placeOf_spec first i cur.length
    rw [← hp] at sp
    by_cases hl : i < L.length
    · rw [if_pos hl]
      have e : L[i]? = cur[placeOf first i cur.length]? := by
        rw [hL, List.getElem?_take, if_pos hl, rot_get _ _ _ h1 (by omega)]
      rw [e]
      generalize placeOf first i cur.length = q at *
      rw [if_neg (by omega), if_neg (by omega)]
    · rw [if_neg hl, List.getElem?_take, if_pos (by omega)]
      generalize placeOf first i cur.length = q at *
      by_cases hw : i - L.length < k
      · rw [if_neg (by omega), if_pos (by omega), List.getElem?_take, if_pos (by omega)]
        congr 1
        omega
      · rw [if_pos (by omega), List.getElem?_drop, List.getElem?_take, if_pos (by omega)]
        congr 1
        omega
  · rw [List.getElem?_eq_none (by simp; omega), List.getElem?_eq_none (by simp; omega)]

theorem ring_drop (cur L : List UInt8) (first n : Nat) (h1 : first < cur.length) (hL : L = (rot cur first).take L.length) (h2 : L.length ≤ cur.length) (h3 : n ≤ L.length) :
    L.drop n = (rot cur (placeOf first n cur.length)).take (L.length - n) := by
  have hp : placeOf first n cur.length < cur.length := by unfold placeOf; split <;> omega
  apply List.ext_getElem?
  intro i
  by_cases hi : i < L.length - n
  · rw [List.getElem?_drop, List.getElem?_take, if_pos hi, rot_get _ _ _ hp (by omega), hL, List.getElem?_take, if_pos (by omega), rot_get _ _ _ h1 (by omega)]
    congr 1
    have sp := placeOf_spec first n cur.length
    have sq := placeOf_spec first (n + i) cur.length
    have sr := placeOf_spec (placeOf first n cur.length) i cur.length
    omega
  · rw [List.getElem?_eq_none (by simp; omega), List.getElem?_eq_none (by simp; omega)]

end Go.Proofs.Ytibiiagdhdmpiaa
