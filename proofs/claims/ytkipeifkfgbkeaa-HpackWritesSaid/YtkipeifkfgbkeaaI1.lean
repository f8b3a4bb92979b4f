/- Integers with a prefix: the plain side, and contracts of prefix.ones and prefix.Put. -/
import Derived.Test.YtkipeifkfgbkeaaG1
namespace Go.Proofs.Ytkipeifkfgbkeaa
open Go.RowKit
set_option maxRecDepth 100000
set_option maxHeartbeats 4000000
set_option linter.unusedVariables false

/-- A prefix that is all 1. -/
def allOnes (k : Nat) : Nat := 2 ^ k - 1
/-- The digits behind a first byte: in at most so many steps, and one. -/
def tailF : Nat → Nat → List UInt8
  | 0, n => [UInt8.ofNat n]
  | k + 1, n => if n < 128 then [UInt8.ofNat n] else UInt8.ofNat (128 + n % 128) :: tailF k (n / 128)
theorem tailF_same : ∀ (k k' n : Nat), n ≤ k → n ≤ k' → tailF k n = tailF k' n := by
  intro k
  induction k with
  | zero =>
    intro k' n h h'
    obtain rfl : n = 0 := by omega
    cases k' with
    | zero => rfl
    | succ k' => rfl
  | succ k ih =>
    intro k' n h h'
    cases k' with
    | zero =>
      obtain rfl : n = 0 := by omega
      rfl
    | succ k' =>
      rw [tailF, tailF]
      by_cases hn : n < 128
      · rw [if_pos hn, if_pos hn]
      · rw [if_neg hn, if_neg hn, ih k' (n / 128) (by omega) (by omega)]
def tailOf (n : Nat) : List UInt8 := tailF n n
theorem tailOf_last (n : Nat) (h : n < 128) : tailOf n = [UInt8.ofNat n] := by
  unfold tailOf
  cases n with
  | zero => rfl
  | succ n => rw [tailF, if_pos h]
theorem tailOf_more (n : Nat) (h : 128 ≤ n) : tailOf n = UInt8.ofNat (128 + n % 128) :: tailOf (n / 128) := by
  unfold tailOf
  cases n with
  | zero => omega
  | succ n => rw [tailF, if_neg (by omega), tailF_same n ((n + 1) / 128) ((n + 1) / 128) (by omega) (Nat.le_refl _)]
theorem tail_ind {P : Nat → Prop} (h1 : ∀ r, r < 128 → P r) (h2 : ∀ r, ¬ r < 128 → P (r / 128) → P r) (r : Nat) : P r := by
  have key : ∀ k r, r ≤ k → P r := by
    intro k
    induction k with
    | zero => intro r hr; exact h1 r (by omega)
    | succ k ih =>
      intro r hr
      by_cases h : r < 128
      · exact h1 r h
      · exact h2 r h (ih (r / 128) (by omega))
  exact key r r (Nat.le_refl _)
/-- What Put answers. -/
def putInt (f k n : Nat) : List UInt8 := if n < allOnes k then [UInt8.ofNat (f + n)] else UInt8.ofNat (f + allOnes k) :: tailOf (n - allOnes k)
theorem tailOf_len (n : Nat) : (tailOf n).length ≤ n / 128 + 1 := by
  induction n using tail_ind with
  | h1 n h => rw [tailOf_last n h]; simp
  | h2 n h ih => rw [tailOf_more n (by omega)]; simp; omega
theorem putInt_len (f k n : Nat) : (putInt f k n).length ≤ n / 128 + 2 := by
  unfold putInt
  split
  · simp
  · have := tailOf_len (n - allOnes k); simp; omega
theorem pow_cases (k : Nat) (h : k ≤ 8) : 2 ^ k = allOnes k + 1 ∧ allOnes k ≤ 255 := by
  have h1 := Nat.two_pow_pos k
  have h2 : 2 ^ k ≤ 2 ^ 8 := Nat.pow_le_pow_right (by omega) h
  unfold allOnes
  omega
theorem allOnes_pos (k : Nat) (h : 1 ≤ k) : 1 ≤ allOnes k := by
  have h2 : 2 ^ 1 ≤ 2 ^ k := Nat.pow_le_pow_right (by omega) h
  unfold allOnes
  omega

theorem ones_any (k : Nat) (w : World) (h : k ≤ 8) : Calls Try.prog 46 #[.int .i64 k] w fun e w' => e = .returned (.int .i64 (allOnes k)) ∧ w = w' := by
  obtain ⟨h1, h2⟩ := pow_cases k h
  have h3 : (2 : Int) ^ k = (allOnes k : Int) + 1 := by
    rw [show (2 : Int) ^ k = ((2 ^ k : Nat) : Int) by push_cast; rfl, h1]; push_cast; rfl
  clear h1
  generalize allOnes k = m at *
  go_enter Try.func46, Try.ntmps46
  go_wp2_with (fail)
  go_ret
  exact ⟨rfl, rfl⟩

/-- A slice of one byte, just made. -/
theorem Gath.one {w0 w : World} (c : UInt8) (hf : Fr (fun _ => False) w0 w) : Gath w0 (w.alloc (.cells #[.int .u8 c.toNat] 5)) (.slice (some ⟨w.heap.size, 0, none⟩) 1 1) [c] :=
  ⟨.inr ⟨w.heap.size, 0, 1, _, rfl, heap_alloc_new w _, by simp, by simp [bv], by unfold maxLen; omega, rfl⟩, fun k hk => by simp [Value.ownBlock] at hk; have := hf.size; omega, hf.alloc _⟩
theorem wr64 (m : Int) (h0 : 0 ≤ m) (h1 : m < 2 ^ 63) : IntKind.i64.wrap m = m := by
  rw [IntKind.wrap_i64]; omega
theorem wr8 (m : Int) (h0 : 0 ≤ m) (h1 : m < 2 ^ 8) : IntKind.u8.wrap m = m := by
  rw [IntKind.wrap_u8]; omega
theorem pow_int (k : Nat) (h : k ≤ 8) : (2 : Int) ^ k = (allOnes k : Int) + 1 := by
  rw [show (2 : Int) ^ k = ((2 ^ k : Nat) : Int) by push_cast; rfl, (pow_cases k h).1]; push_cast; rfl
/-- The low bits of a byte. -/
theorem low_bits (f k : Nat) (hf : f < 256) (hk : k ≤ 8) : bits .and .i64 (f : Int) (allOnes k : Int) = ((f % 2 ^ k : Nat) : Int) := by
  have := bits_mask .i64 63 (by decide) wr64 k (by omega) (f : Int) (by omega) (by omega)
  rw [pow_int k hk, Int.add_sub_cancel] at this
  rw [this, (pow_cases k hk).1]
  push_cast
  rfl
/-- The low bits laid beside the others. -/
theorem put_low (f k n : Nat) (hf : f < 256) (hk : k ≤ 8) (h0 : f % 2 ^ k = 0) (hn : n ≤ allOnes k) : bits .or .u8 (f : Int) (n : Int) = ((f + n : Nat) : Int) ∧ f + n < 256 := by
  have hp := pow_cases k hk
  have hz : (f : Int) % 2 ^ k = 0 := by
    rw [show (2 : Int) ^ k = ((2 ^ k : Nat) : Int) by push_cast; rfl]; omega
  have := bits_join .u8 8 (by decide) wr8 k (f : Int) (n : Int) (by omega) hz (by omega) (by omega) (by rw [pow_int k hk]; omega) (by omega)
  refine ⟨by rw [this]; push_cast; rfl, ?_⟩
  have hd : 256 = 2 ^ k * 2 ^ (8 - k) := by rw [← Nat.pow_add, show k + (8 - k) = 8 by omega]
  have h1 : f = 2 ^ k * (f / 2 ^ k) := by have := Nat.div_add_mod f (2 ^ k); omega
  have h2 : f / 2 ^ k < 2 ^ (8 - k) := by
    rw [Nat.div_lt_iff_lt_mul (Nat.two_pow_pos k), Nat.mul_comm, ← hd]; exact hf
  have h3 : 2 ^ k * (f / 2 ^ k + 1) ≤ 2 ^ k * 2 ^ (8 - k) := Nat.mul_le_mul_left _ h2
  rw [Nat.mul_add, ← h1, ← hd] at h3
  omega
/-- A digit behind which another one follows. -/
theorem more_digit (r : Nat) : bits .or .u8 ((r : Int) % 256) 128 = ((128 + r % 128 : Nat) : Int) := by
  have h := (bits_nat .u8 8 (by decide) wr8 (r % 256) 128 (by omega) (by omega)).2
  rw [show ((r : Int) % 256) = ((r % 256 : Nat) : Int) by push_cast; rfl, show (128 : Int) = ((128 : Nat) : Int) from rfl, h]
  congr 1
  have h2 : r % 256 = (r % 256) / 128 * 128 + r % 128 := by omega
  have h3 : r % 256 / 128 = 0 ∨ r % 256 / 128 = 1 := by omega
  have e1 : ∀ a < 128, a ||| 128 = 128 + a := by decide
  have e2 : ∀ a < 128, (128 + a) ||| 128 = 128 + a := by decide
  rcases h3 with h3 | h3
  · rw [show r % 256 = r % 128 by omega]; exact e1 _ (by omega)
  · rw [show r % 256 = 128 + r % 128 by omega]; exact e2 _ (by omega)

/-- Put is refused. -/
def PutBad (f : Nat) (k n : Int) : Prop := k < 1 ∨ 8 < k ∨ (∃ j : Nat, k = j ∧ f % 2 ^ j ≠ 0) ∨ n < 0 ∨ 2147483647 < n

theorem put_bad (f : Nat) (k n : Int) (w : World) (hf : f < 256) (h : PutBad f k n) : Calls Try.prog 40 #[.int .u8 f, .int .i64 k, .int .i64 n] w fun e w' => e = .returned (.tuple #[.slice none 0 0, .int .i64 1]) ∧ w' = w := by
  by_cases h1 : k < 1
  · clear h
    go_enter Try.func40, Try.ntmps40
    go_wp2_with (fail)
    go_ret2
    exact ⟨rfl, rfl⟩
  · by_cases h2 : 8 < k
    · clear h
      go_enter Try.func40, Try.ntmps40
      go_wp2_with (fail)
      go_ret2
      exact ⟨rfl, rfl⟩
    · obtain ⟨j, rfl⟩ : ∃ j : Nat, k = j := ⟨k.toNat, by omega⟩
      have hlow := low_bits f j hf (by omega)
      obtain ⟨z, hz⟩ : ∃ z, z = f % 2 ^ j := ⟨_, rfl⟩
      rw [← hz] at hlow
      by_cases h3 : z = 0
      · subst h3
        by_cases h4 : n < 0
        · clear h hz
          go_enter Try.func40, Try.ntmps40
          go_wp2_with (go_at_call 46; refine (ones_any _ _ (by omega)).mono ?_; rintro e w' ⟨rfl, rfl⟩)
          go_ret2
          exact ⟨rfl, rfl⟩
        · have h5 : 2147483647 < n := by
            rcases h with h | h | ⟨j', e, h⟩ | h | h
            · omega
            · omega
            · obtain rfl : j = j' := by omega
              exact absurd hz.symm h
            · omega
            · exact h
          clear h hz
          go_enter Try.func40, Try.ntmps40
          go_wp2_with (go_at_call 46; refine (ones_any _ _ (by omega)).mono ?_; rintro e w' ⟨rfl, rfl⟩)
          go_ret2
          exact ⟨rfl, rfl⟩
      · have h3' : ¬ ((z : Int) = 0) := by omega
        clear h hz
        go_enter Try.func40, Try.ntmps40
        go_wp2_with (go_at_call 46; refine (ones_any _ _ (by omega)).mono ?_; rintro e w' ⟨rfl, rfl⟩)
        go_ret2
        exact ⟨rfl, rfl⟩

theorem put_ok (f k n : Nat) (w : World) (hf : f < 256) (h1 : 1 ≤ k) (h8 : k ≤ 8) (hz : f % 2 ^ k = 0) (hn : n ≤ 2147483647) : Calls Try.prog 40 #[.int .u8 f, .int .i64 k, .int .i64 n] w fun e w' => ∃ v, e = .returned (.tuple #[v, .int .i64 0]) ∧ Gath w w' v (putInt f k n) := by
  have hlow := low_bits f k hf (by omega)
  rw [hz] at hlow
  have hk1 : ¬ (k : Int) < 1 := by omega
  have hk8 : ¬ (8 : Int) < k := by omega
  have hn0 : ¬ (n : Int) < 0 := by omega
  have hn1 : ¬ (2147483647 : Int) < n := by omega
  obtain ⟨i, hi1, hi2, hi3, hi4⟩ := info5
  have J1 : Hid (Try.prog.info? 5 = some i) := hi1
  have J2 : Hid (i.zero = some (.int .u8 0)) := hi2
  have J3 : Hid (i.size = 1) := hi3
  have J4 : Hid (i.bytes = 1) := hi4
  have HZ : Hid (f % 2 ^ k = 0) := hz
  have HP := pow_cases k h8
  have HO : Hid (∀ w, Calls Try.prog 46 #[.int .i64 k] w fun e w' => e = .returned (.int .i64 (allOnes k)) ∧ w = w') := fun w => ones_any k w h8
  have HPI : Hid (putInt f k n = if n < allOnes k then [UInt8.ofNat (f + n)] else UInt8.ofNat (f + allOnes k) :: tailOf (n - allOnes k)) := rfl
  have HPL := fun n hn => put_low f k n hf h8 hz hn
  obtain ⟨_, HP2⟩ := HP
  obtain ⟨m, hm⟩ : ∃ m, m = allOnes k := ⟨_, rfl⟩
  rw [← hm] at hlow HO HPI HPL HP2
  clear hm hi1 hi2 hi3 hi4 hz
  by_cases hlt : n < m
  · have hlti : (n : Int) < m := by omega
    obtain ⟨hor, hsum⟩ := HPL n (by omega)
    have hmod : (n : Int) % 256 = n := by omega
    obtain ⟨c, hc⟩ : ∃ c, c = UInt8.ofNat (f + n) := ⟨_, rfl⟩
    have hcn : f + n = c.toNat := by rw [hc]; simp; omega
    have HPI2 : Hid (putInt f k n = [c]) := by show _ = _; rw [HPI.out, if_pos hlt, hc]
    rw [hcn] at hor
    clear HPL HPI hc hcn hsum
    go_enter Try.func40, Try.ntmps40
    go_wp2_with (go_at_call 46; refine (HO.out _).mono ?_; rintro e w' ⟨rfl, rfl⟩)
    go_ret2
    exact ⟨_, rfl, HPI2.out ▸ Gath.one c (Fr.refl _ _)⟩
  · have hlti : ¬ (n : Int) < m := by omega
    obtain ⟨hor, hsum⟩ := HPL m (by omega)
    have hmod : (m : Int) % 256 = m := by omega
    obtain ⟨c, hc⟩ : ∃ c, c = UInt8.ofNat (f + m) := ⟨_, rfl⟩
    have hcn : f + m = c.toNat := by rw [hc]; simp; omega
    have HPI2 : Hid (putInt f k n = c :: tailOf (n - m)) := by show _ = _; rw [HPI.out, if_neg hlt, hc]
    have HL : Hid ((putInt f k n).length ≤ 20000000) := by show _ ≤ _; have := putInt_len f k n; omega
    rw [hcn] at hor
    clear HPL HPI hc hcn hsum
    obtain ⟨r0, hr0⟩ : ∃ r0, r0 = n - m := ⟨_, rfl⟩
    have hr0i : (n : Int) - m = r0 := by omega
    have hr0b : r0 ≤ 2147483647 := by omega
    rw [← hr0] at HPI2
    clear hr0
    generalize hall : putInt f k n = all at *
    clear hall
    go_enter Try.func40, Try.ntmps40
    go_wp2_with (go_at_call 46; refine (HO.out _).mono ?_; rintro e w' ⟨rfl, rfl⟩)
    go_loopw [8, 9] (fun v8 v9 wr => ∃ (no co r : Nat) (ao : Option Addr) (out : List UInt8), v8 = .slice ao no co ∧ v9 = .int .i64 r ∧ r ≤ r0 ∧ Hid (Gath w wr (.slice ao no co) out ∧ out ++ tailOf r = all)) (fun _ v9 _ => (intOf v9).toNat)
    case atStart => exact ⟨1, 1, r0, _, [c], rfl, rfl, by omega, Gath.one c (Fr.refl _ _), by rw [HPI2.out]; rfl⟩
    case round =>
      obtain ⟨no, co, r, ao, out, rfl, rfl, hr, HG⟩ := hrel
      by_cases hmo : 128 ≤ r
      · have hmi : (128 : Int) ≤ r := by omega
        have hmd := more_digit r
        obtain ⟨c2, hc2⟩ : ∃ c2, c2 = UInt8.ofNat (128 + r % 128) := ⟨_, rfl⟩
        have hcn : 128 + r % 128 = c2.toNat := by rw [hc2]; simp; omega
        have HT : Hid (tailOf r = c2 :: tailOf (r / 128)) := by show _ = _; rw [tailOf_more r hmo, hc2]
        rw [hcn] at hmd
        have HGa : Hid (Gath w (wr.alloc (.cells #[.int .u8 c2.toNat] 5)) (.slice ao no co) out) := HG.out.1.fr ((Fr.refl _ _).alloc _)
        have HSO : Hid (SrcAt (wr.alloc (.cells #[.int .u8 c2.toNat] 5)) (some ⟨wr.heap.size, 0, none⟩) [c2]) := src_one wr c2
        have HB : Hid (out.length + 1 ≤ 225179981368371) := by
          have h1 := congrArg List.length HG.out.2
          have h2 := HL.out
          simp at h1
          show _ ≤ _
          omega
        clear hc2 hcn
        go_wp2_with (at_builtin; refine wpList_gather rfl (.tmp 55) (.tmp 59) 35 35 rfl i Try.underlying35 Try.underlying35 J1.out J2.out J3.out J4.out (.slice ao no co) out (by go_simp) HGa.out (some ⟨wr.heap.size, 0, none⟩) 1 1 (by go_simp) [c2] HSO.out rfl HB.out ?_; intro a2 n2 c3 w2 Hn2 G2 Hf2)
        have HG2 : Hid (Gath w w2 (.slice a2 n2 c3) (out ++ [c2])) := G2
        clear G2
        go_wp2_with (fail)
        go_roundw
        case rel => exact ⟨n2, c3, r / 128, a2, out ++ [c2], rfl, by go_num, by omega, HG2.out, by rw [List.append_assoc, List.singleton_append, ← HT.out]; exact HG.out.2⟩
        case measure => simp [intOf]; omega
      · have hmi : ¬ (128 : Int) ≤ r := by omega
        have hmod2 : (r : Int) % 256 = r := by omega
        obtain ⟨c2, hc2⟩ : ∃ c2, c2 = UInt8.ofNat r := ⟨_, rfl⟩
        have hcn : r = c2.toNat := by rw [hc2]; simp; omega
        have HT : Hid (tailOf r = [c2]) := by show _ = _; rw [tailOf_last r (by omega), hc2]
        have HGa : Hid (Gath w (wr.alloc (.cells #[.int .u8 c2.toNat] 5)) (.slice ao no co) out) := HG.out.1.fr ((Fr.refl _ _).alloc _)
        have HSO : Hid (SrcAt (wr.alloc (.cells #[.int .u8 c2.toNat] 5)) (some ⟨wr.heap.size, 0, none⟩) [c2]) := src_one wr c2
        have HB : Hid (out.length + 1 ≤ 225179981368371) := by
          have h1 := congrArg List.length HG.out.2
          have h2 := HL.out
          rw [HT.out] at h1
          simp at h1
          show _ ≤ _
          omega
        have HGE : Hid (out ++ [c2] = all) := by show _ = _; rw [← HG.out.2, HT.out]
        clear hc2 HG HT
        subst hcn
        go_wp2_with (at_builtin; refine wpList_gather rfl (.tmp 61) (.tmp 64) 35 35 rfl i Try.underlying35 Try.underlying35 J1.out J2.out J3.out J4.out (.slice ao no co) out (by go_simp) HGa.out (some ⟨wr.heap.size, 0, none⟩) 1 1 (by go_simp) [c2] HSO.out rfl HB.out ?_; intro a2 n2 c3 w2 Hn2 G2 Hf2)
        have HG2 : Hid (Gath w w2 (.slice a2 n2 c3) (out ++ [c2])) := G2
        clear G2
        go_wp2_with (fail)
        go_ret2
        exact ⟨_, rfl, HGE.out ▸ HG2.out⟩

end Go.Proofs.Ytkipeifkfgbkeaa
