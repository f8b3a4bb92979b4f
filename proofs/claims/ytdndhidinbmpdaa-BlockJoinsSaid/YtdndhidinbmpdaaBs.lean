/- The iterator of fragments: it tells copies of the pieces, one behind the other. -/
import Derived.Test.YtdndhidinbmpdaaBr
import Derived.Test.YtdndhidinbmpdaaCu
import Derived.Test.YtdndhidinbmpdaaCl
namespace Go.Proofs.Ytdndhidinbmpdaa
open Go.RowKit
set_option linter.unusedVariables false
set_option maxRecDepth 100000
set_option maxHeartbeats 4000000

/-- How many pieces. -/
def nP (M len : Nat) : Nat := (len - 1) / M + 1
theorem nP_lt {M len k : Nat} (hM : 1 ≤ M) : k < nP M len ↔ k * M ≤ len - 1 := by
  unfold nP
  rw [Nat.lt_succ_iff, Nat.le_div_iff_mul_le (by omega)]
theorem nP_next {M len k : Nat} (hM : 1 ≤ M) (hk : k < nP M len) : (k + 1 < nP M len ↔ k * M + M < len) ∧ k * M ≤ len := by
  have h1 := (nP_lt hM).1 hk
  have h2 := nP_lt (len := len) (k := k + 1) hM
  rw [Nat.succ_mul] at h2
  exact ⟨by rw [h2]; omega, by omega⟩
theorem nP_end {M len k : Nat} (hM : 1 ≤ M) (hk : k < nP M len) (h : ¬ k + 1 < nP M len) : k + 1 = nP M len := by omega
def piece (M : Nat) (X : List UInt8) (k : Nat) : List UInt8 := (X.drop (k * M)).take M
theorem piece_take {M : Nat} {X : List UInt8} {k e : Nat} (h : e = min M (X.length - k * M)) : (X.drop (k * M)).take e = piece M X k := by
  subst h
  unfold piece
  rcases Nat.le_total M (X.length - k * M) with h | h
  · rw [Nat.min_eq_left h]
  · rw [Nat.min_eq_right h, List.take_of_length_le (by rw [List.length_drop]; omega), List.take_of_length_le (by rw [List.length_drop]; omega)]
theorem piece_length {M : Nat} {X : List UInt8} {k : Nat} : (piece M X k).length = min M (X.length - k * M) := by
  unfold piece
  rw [List.length_take, List.length_drop]

/-- What is told as the k-th. -/
def fragE (M : Nat) (X : List UInt8) (n0 : Nat) (k : Nat) (args : Array Value) (W : World) : Prop := ∃ a d, args = #[.slice a (piece M X k).length d] ∧ OwnAt W 5 (.slice a (piece M X k).length d) (bv (piece M X k)) ∧ (∀ ad, a = some ad → n0 ≤ ad.block)
/-- What the iterator wants of the memory. -/
def fragZ (mb bb M : Nat) (p : Option Addr) (X : List UInt8) (c n0 : Nat) (W : World) : Prop := (∃ t, W.heap[mb]? = some (.cells #[.int .i64 (M : Int)] t (0, 0))) ∧ (∃ t, W.heap[bb]? = some (.cells #[.slice p X.length c] t (0, 0))) ∧ SrcAt W p X ∧ n0 ≤ W.heap.size
theorem fragZ.later {mb bb M : Nat} {p : Option Addr} {X : List UInt8} {c n0 : Nat} {W W' : World} (h : fragZ mb bb M p X c n0 W) (hf : Fr (fun _ => False) W W') : fragZ mb bb M p X c n0 W' := by
  obtain ⟨⟨t1, h1⟩, ⟨t2, h2⟩, h3, h4⟩ := h
  exact ⟨⟨t1, (hf.block _ (lt_of_heap h1) id).trans h1⟩, ⟨t2, (hf.block _ (lt_of_heap h2) id).trans h2⟩, h3.oldF hf, Nat.le_trans h4 hf.size⟩

theorem frag_tells (mb bb M c n0 : Nat) (p : Option Addr) (X : List UInt8) (hM : 1 ≤ M) (hM2 : M ≤ 9223372036854775807) (hX : X.length < 2 ^ 47) (hc : X.length ≤ c) :
    Tells3 Try.prog 26 #[] #[.pointer (some ⟨mb, 0, none⟩), .pointer (some ⟨bb, 0, none⟩)] (nP M X.length) (fragE M X n0) (fragZ mb bb M p X c n0) := by
  intro l J W hJ hZ hY h0
  show CallsIn Fence.wide 0 Try.prog 26 #[.func (.yield l) #[] #[], .pointer (some ⟨mb, 0, none⟩), .pointer (some ⟨bb, 0, none⟩)] W _
  have HJ : Hid (OwnFrom W.heap.size J) := hJ
  have HZ : Hid (∀ k W1, J k W1 → fragZ mb bb M p X c n0 W1) := hZ
  have HY : Hid (∀ k W1 args, J k W1 → k < nP M X.length → fragE M X n0 k args W1 → YieldAt Fence.wide 0 Try.prog l args W1 fun e W' => e = .returned (.bool true) ∧ J (k + 1) W') := hY
  clear hJ hZ hY
  refine callsIn_of_wp Try.func26 rfl trivial ?_ rfl
  simp only [Try.ntmps26, List.size_toArray, List.length_cons, List.length_nil, Nat.reduceAdd, Nat.reduceSub, Array.replicate_succ, Array.replicate_zero, List.push_toArray, List.append_toArray, List.nil_append, List.cons_append]
  gi_wp2
  gi_loopw [4, 5] (fun x4 x5 wr => ∃ (k : Nat) (b : Bool), x5 = .bool b ∧ J k wr ∧ ((b = true ∧ k < nP M X.length ∧ x4 = .int .i64 ((k * M : Nat) : Int)) ∨ (b = false ∧ k = nP M X.length)))
    (fun x4 x5 wr => match x5 with | .bool true => X.length + 1 - (intOf x4).toNat | _ => 0)
  case atStart => exact ⟨0, true, rfl, h0, .inl ⟨rfl, Nat.succ_pos _, by simp⟩⟩
  case round =>
    obtain ⟨k, b, rfl, hj, (⟨rfl, hk, rfl⟩ | ⟨rfl, hk⟩)⟩ := hrel
    · obtain ⟨hnx, hle⟩ := nP_next hM hk
      obtain ⟨A, hA⟩ : ∃ A, k * M = A := ⟨_, rfl⟩
      obtain ⟨e, he⟩ : ∃ e, min M (X.length - A) = e := ⟨_, rfl⟩
      rw [hA] at hnx hle
      obtain ⟨⟨t1, z1⟩, ⟨t2, z2⟩, z3, z4⟩ := HZ.out k wr hj
      have q1 : wr.cell? ⟨mb, 0, none⟩ = some (.int .i64 (M : Int)) := cell_of_heap z1 rfl
      have q2 : wr.cell? ⟨bb, 0, none⟩ = some (.slice p X.length c) := cell_of_heap z2 rfl
      obtain ⟨dp, hcut, hsrc⟩ := cutM p X.length c A (A + e) X rfl hc (by omega) (by omega)
      rw [show A + e - A = e by omega] at hcut hsrc
      have hpc : (X.drop A).take e = piece M X k := by
        rw [← hA]; exact piece_take (by rw [hA]; exact he.symm)
      have hpl : (piece M X k).length = e := by rw [piece_length, hA, he]
      have hC : Calls Try.prog 27 #[.slice dp (e) (c - A)] wr fun e' w' => ∃ a' c', e' = .returned (.slice a' (e) c') ∧ Gath wr w' (.slice a' (e) c') (piece M X k) :=
        Clone_in dp _ _ _ wr (by rw [← hpc]; exact hsrc wr z3) hpl (by omega)
      have HJK : Hid (∀ w', Fr (fun _ => False) wr w' → J k w') := fun w' hf => OwnFrom.later3 (B := W.heap.size) (J := J) HJ.out hj hf
      have HYK : Hid (∀ w' a' c', Gath wr w' (.slice a' (e) c') (piece M X k) → YieldAt Fence.wide 0 Try.prog l #[.slice a' (e) c'] w' fun e W' => e = .returned (.bool true) ∧ J (k + 1) W') := fun w' a' c' hG => HY.out k w' _ (OwnFrom.later3 (B := W.heap.size) (J := J) HJ.out hj hG.2.2) hk ⟨a', c', by rw [hpl], by rw [hpl]; exact hG.1, fun ad e => Nat.le_trans z4 (hG.new ad e)⟩
      have HNX : Hid ((k + 1 < nP M X.length ↔ A + M < X.length) ∧ A ≤ X.length ∧ k < nP M X.length ∧ k * M = A) := ⟨hnx, hle, hk, hA⟩
      have HEN : Hid (∀ W3, J (k + 1) W3 → fragZ mb bb M p X c n0 W3) := fun W3 h => HZ.out (k + 1) W3 h
      rw [hA]
      clear hnx hk hpc hpl hsrc z1 z2 z3 z4 hj
      by_cases hml : M ≤ X.length - A
      · obtain rfl : e = M := by omega
        have m1 : (e : Int) ≤ (X.length : Int) - (A : Int) := by omega
        have m2 : wrap64 ((X.length : Int) - (A : Int)) = (X.length : Int) - (A : Int) := by unfold wrap64; omega
        have m3 : wrap64 ((A : Int) + (e : Int)) = (A : Int) + (e : Int) := by unfold wrap64; omega
        have hcut2 : ∀ w, (Instr.slice 22 (.slice p X.length c) (some (.int .i64 (A : Int))) (some (.int .i64 ((A : Int) + (e : Int)))) none).run Try.prog w = .ok (.slice dp e (c - A)) w := fun w => by have := hcut w; rwa [Int.natCast_add] at this
        gi_wp2_with (refine ⟨trivial, rfl, ?_⟩; refine (callsIn_wide.2 hC).mono ?_; clear hC; rintro e' w' ⟨a', c', rfl, hG⟩; obtain ⟨fn, tmps, assign, body, hy, hRd⟩ := HYK.out w' a' c' hG; have HRD : Hid _ := hRd; clear hRd hG)
        refine ⟨rfl, RoundIn.mono HRD.out ?_⟩
        rintro e3 W3 ⟨rfl, hJ3⟩
        obtain ⟨⟨t1, y1⟩, ⟨t2, y2⟩, -⟩ := HEN.out W3 hJ3
        have r2 : W3.cell? ⟨bb, 0, none⟩ = some (.slice p X.length c) := cell_of_heap y2 rfl
        clear y1 y2
        have HJ3 : Hid (J (k + 1) W3) := hJ3
        clear hJ3 hy q1 q2 HRD
        by_cases hmore : A + e < X.length
        · have n1 : (A : Int) + (e : Int) < (X.length : Int) := by omega
          gi_wp2
          go_roundw
          case rel =>
            obtain ⟨h1, h2, h3, h4⟩ := HNX.out
            exact ⟨k + 1, true, rfl, HJ3.out, .inl ⟨rfl, h1.2 (by omega), by rw [Nat.succ_mul, h4]; rfl⟩⟩
          case measure => simp [intOf]; omega
        · have n1 : decide ((A : Int) + (e : Int) < (X.length : Int)) = false := by simp; omega
          gi_wp2
          go_roundw
          case rel =>
            obtain ⟨h1, h2, h3, h4⟩ := HNX.out
            exact ⟨k + 1, false, rfl, HJ3.out, .inr ⟨rfl, nP_end hM h3 (by rw [h1]; omega)⟩⟩
          case measure => simp [intOf]; omega
      · have hae : A + e = X.length := by omega
        have HAE : Hid (A + e = X.length) := hae
        have m1 : ¬ (M : Int) ≤ (X.length : Int) - (A : Int) := by omega
        have m2 : wrap64 ((X.length : Int) - (A : Int)) = (X.length : Int) - (A : Int) := by unfold wrap64; omega
        have m3 : wrap64 ((A : Int) + ((X.length : Int) - (A : Int))) = (A : Int) + ((X.length : Int) - (A : Int)) := by unfold wrap64; omega
        have n1 : decide ((A : Int) + ((X.length : Int) - (A : Int)) < (X.length : Int)) = false := by simp; omega
        have hcut2 : ∀ w, (Instr.slice 22 (.slice p X.length c) (some (.int .i64 (A : Int))) (some (.int .i64 ((A : Int) + ((X.length : Int) - (A : Int))))) none).run Try.prog w = .ok (.slice dp e (c - A)) w := fun w => by have := hcut w; rwa [show ((A + e : Nat) : Int) = (A : Int) + ((X.length : Int) - (A : Int)) by omega] at this
        clear hae
        gi_wp2_with (refine ⟨trivial, rfl, ?_⟩; refine (callsIn_wide.2 hC).mono ?_; clear hC; rintro e' w' ⟨a', c', rfl, hG⟩; obtain ⟨fn, tmps, assign, body, hy, hRd⟩ := HYK.out w' a' c' hG; have HRD : Hid _ := hRd; clear hRd hG)
        refine ⟨rfl, RoundIn.mono HRD.out ?_⟩
        rintro e3 W3 ⟨rfl, hJ3⟩
        obtain ⟨⟨t1, y1⟩, ⟨t2, y2⟩, -⟩ := HEN.out W3 hJ3
        have r2 : W3.cell? ⟨bb, 0, none⟩ = some (.slice p X.length c) := cell_of_heap y2 rfl
        clear y1 y2
        have HJ3 : Hid (J (k + 1) W3) := hJ3
        clear hJ3 hy q1 q2 HRD
        gi_wp2
        go_roundw
        case rel =>
          obtain ⟨h1, h2, h3, h4⟩ := HNX.out
          exact ⟨k + 1, false, rfl, HJ3.out, .inr ⟨rfl, nP_end hM h3 (by rw [h1]; have := HAE.out; omega)⟩⟩
        case measure => simp [intOf]; omega
    · gi_wp2
      refine bodyPost_end (results_none rfl _ _ _) rfl ?_
      exact ⟨⟨_, rfl⟩, by rw [← hk]; exact hj⟩
end Go.Proofs.Ytdndhidinbmpdaa
