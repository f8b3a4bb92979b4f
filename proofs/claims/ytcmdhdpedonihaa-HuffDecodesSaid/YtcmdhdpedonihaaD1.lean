/- Contract of the closure of huff.Decode that takes bits. -/
import Derived.Test.YtcmdhdpedonihaaG1
namespace Go.Proofs.Ytcmdhdpedonihaa
open Go.RowKit
set_option maxRecDepth 100000
set_option maxHeartbeats 4000000
set_option linter.unusedVariables false

theorem bitsN_get (n : Nat) : ∀ (w i : Nat), i < n → (bitsN n w)[i]? = some (w / 2 ^ (n - 1 - i) % 2 == 1) := by
  induction n with
  | zero => intro w i h; omega
  | succ n ih =>
    intro w i h
    rw [bitsN]
    by_cases h1 : i < n
    · rw [List.getElem?_append_left (by rw [bitsN_len]; exact h1), ih (w / 2) i h1, Nat.div_div_eq_div_mul, show n + 1 - 1 - i = (n - 1 - i) + 1 by omega, Nat.pow_succ, Nat.mul_comm 2]
    · obtain rfl : i = n := by omega
      rw [List.getElem?_append_right (by rw [bitsN_len]; omega), bitsN_len]
      simp
theorem stream_get (X : List UInt8) : ∀ (q m : Nat) (c : UInt8), X[q]? = some c → m < 8 → (stream X)[8 * q + m]? = some (c.toNat / 2 ^ (7 - m) % 2 == 1) := by
  induction X with
  | nil => intro q m c h; simp at h
  | cons d X ih =>
    intro q m c h hm
    rw [stream_cons]
    cases q with
    | zero =>
      simp at h
      subst h
      rw [List.getElem?_append_left (by rw [bitsN_len]; omega), show 8 * 0 + m = m by omega, bitsN_get 8 _ m hm]
    | succ q =>
      rw [List.getElem?_append_right (by rw [bitsN_len]; omega), bitsN_len, show 8 * (q + 1) + m - 8 = 8 * q + m by omega]
      exact ih q m c (by simpa using h) hm

theorem add_block (ad : Addr) (q : Nat) : (ad.add q).block = ad.block := by unfold Addr.add; split <;> rfl
theorem wrap_i64s (m : Int) (h0 : 0 ≤ m) (h1 : m < 1099511627776) : IntKind.i64.wrap m = m := by
  simp [IntKind.wrap, IntKind.signed, IntKind.bits]
  omega
theorem and_one (c : UInt8) (k : Nat) : ∃ b : Nat, b ≤ 1 ∧ bits BinOp.and IntKind.u8 ((c.toNat : Int) / 2 ^ k) 1 = (b : Int) ∧ b = c.toNat / 2 ^ k % 2 := by
  refine ⟨c.toNat / 2 ^ k % 2, by omega, ?_, rfl⟩
  have e : (c.toNat : Int) / 2 ^ k = ((c.toNat / 2 ^ k : Nat) : Int) := by rw [show (2 : Int) ^ k = ((2 ^ k : Nat) : Int) by push_cast; rfl]; rfl
  have hc := UInt8.toNat_lt c
  have h1 : c.toNat / 2 ^ k ≤ c.toNat := Nat.div_le_self _ _
  rw [e]
  generalize c.toNat / 2 ^ k = z at *
  have := bits_mask .u8 8 (by decide) (fun m h0 h1 => by rw [show IntKind.u8.wrap m = m % 256 from rfl]; exact Int.emod_eq_of_lt h0 h1) 1 (by decide) (z : Int) (by omega) (by omega)
  rw [show (2 : Int) ^ 1 - 1 = 1 from rfl, show (2 : Int) ^ 1 = 2 from rfl] at this
  rw [this]
  omega
theorem or_bit (tk b : Nat) (h : tk < 1073741824) (hb : b ≤ 1) : bits BinOp.or IntKind.i64 ((tk : Int) * 2) (b : Int) = ((2 * tk + b : Nat) : Int) := by
  rw [bits_join .i64 40 (by decide) (fun m h0 h1 => wrap_i64s m h0 h1) 1 _ _ (by omega) (by omega) (by omega) (by omega) (by omega) (by omega)]
  omega

theorem take_few (gb ga : Nat) (a : Option Addr) (len cap at_ : Nat) (n : Nat) (w : World) (c0 : w.cell? ⟨gb, 0, none⟩ = some (.slice a len cap)) (c1 : w.cell? ⟨ga, 0, none⟩ = some (.int .i64 (at_ : Int))) (hl : len ≤ 140737488351232) (hat : at_ ≤ 8 * len) (hn : 8 * len < at_ + n) (hn2 : n ≤ 30) :
    Calls Try.prog 7 #[.int .i64 n, .pointer (some ⟨gb, 0, none⟩), .pointer (some ⟨ga, 0, none⟩)] w fun e w' => e = .returned (.tuple #[.int .i64 0, .bool false]) ∧ w' = w := by
  have h1 : 8 * (len : Int) - at_ < n := by omega
  go_enter Try.func7, Try.ntmps7
  go_wp2_with (fail)
  go_ret2
  exact ⟨rfl, rfl⟩

theorem take_ok (gb ga : Nat) (a : Option Addr) (len cap at_ : Nat) (n : Nat) (w : World) (X : List UInt8) (c0 : w.cell? ⟨gb, 0, none⟩ = some (.slice a len cap)) (hga : w.heap[ga]? = some (.cells #[.int .i64 (at_ : Int)] 3 (0, 0))) (hne : gb ≠ ga)
    (hs : SrcAt w a X) (hsn : ∀ ad, a = some ad → 0 < X.length → ad.block ≠ ga) (hX : X.length = len) (hl : len ≤ 140737488351232) (hn : at_ + n ≤ 8 * len) (hn2 : n ≤ 30) :
    Calls Try.prog 7 #[.int .i64 n, .pointer (some ⟨gb, 0, none⟩), .pointer (some ⟨ga, 0, none⟩)] w fun e w' => e = .returned (.tuple #[.int .i64 (val (((stream X).drop at_).take n) : Nat), .bool true]) ∧ w'.heap[ga]? = some (.cells #[.int .i64 ((at_ + n : Nat) : Int)] 3 (0, 0)) ∧ Fr (fun k => k = ga) w w' := by
  have h1 : ¬ 8 * (len : Int) - at_ < n := by omega
  have c1 : w.cell? ⟨ga, 0, none⟩ = some (.int .i64 (at_ : Int)) := cell_of_heap hga rfl
  have HGA : Hid (w.heap[ga]? = some (.cells #[.int .i64 (at_ : Int)] 3 (0, 0))) := hga
  have HS : Hid (SrcAt w a X) := hs
  have HSN : Hid (∀ ad, a = some ad → 0 < X.length → ad.block ≠ ga) := hsn
  have HBL : Hid (gb < w.heap.size) := World.block_lt_of_cell? _ _ c0
  clear hga hs hsn
  go_enter Try.func7, Try.ntmps7
  go_wp2_with (fail)
  go_loopw [0, 6] (fun v0 v6 wr => ∃ j : Nat, j ≤ n ∧ v0 = .int .i64 (n - j : Nat) ∧ v6 = .int .i64 (val (((stream X).drop at_).take j) : Nat) ∧ Hid (wr.heap[ga]? = some (.cells #[.int .i64 ((at_ + j : Nat) : Int)] 3 (0, 0)) ∧ Fr (fun k => k = ga) w wr)) (fun v0 _ _ => (intOf v0).toNat)
  case atStart => exact ⟨0, by omega, rfl, rfl, HGA.out, Fr.refl _ _⟩
  case round =>
    obtain ⟨j, hj, rfl, rfl, HJ⟩ := hrel
    obtain ⟨d, hd⟩ : ∃ d, d = n - j := ⟨_, rfl⟩
    rw [← hd]
    obtain ⟨tk, htk⟩ : ∃ tk, tk = val (((stream X).drop at_).take j) := ⟨_, rfl⟩
    rw [← htk]
    by_cases hlt : 0 < d
    · have hci : (0 : Int) < d := by omega
      obtain ⟨p, hp⟩ : ∃ p, p = at_ + j := ⟨_, rfl⟩
      obtain ⟨q, hq⟩ : ∃ q, q = p / 8 := ⟨_, rfl⟩
      obtain ⟨m, hm⟩ : ∃ m, m = p % 8 := ⟨_, rfl⟩
      have hql : q < len := by omega
      have d1 : wr.cell? ⟨ga, 0, none⟩ = some (.int .i64 (p : Int)) := by rw [hp]; exact cell_of_heap HJ.out.1 rfl
      have e1 : wr.frozen? ⟨ga, 0, none⟩ = false := frozen_of_heap HJ.out.1
      have d0 : wr.cell? ⟨gb, 0, none⟩ = some (.slice a len cap) := by rw [HJ.out.2.cell HBL.out hne]; exact c0
      obtain ⟨ad, c, rfl, hcx, hc0⟩ := src_at HS.out q (by omega)
      have hc : wr.cell? (ad.add q) = some (.int .u8 c.toNat) := by
        rw [HJ.out.2.cell (World.block_lt_of_cell? _ _ hc0) (by rw [add_block]; exact HSN.out ad rfl (by omega))]; exact hc0
      have hdiv : (p : Int) / 8 = q := by omega
      have hmod : (p : Int) % 8 = m := by omega
      have hqi : (q : Int) < len := by omega
      have hm8 : m < 8 := by omega
      have hpp : p < 8 * len := by omega
      have HP : Hid (p = at_ + j ∧ q = p / 8 ∧ m = p % 8 ∧ d = n - j) := ⟨hp, hq, hm, hd⟩
      have HTK : Hid (tk = val (((stream X).drop at_).take j)) := htk
      have HCX : Hid (X[q]? = some c) := hcx
      have htl : tk < 1073741824 := by
        rw [htk]
        refine Nat.lt_of_lt_of_le (val_lt _) ?_
        rw [show (1073741824 : Nat) = 2 ^ 30 from rfl]
        exact Nat.pow_le_pow_right (by omega) (by simp; omega)
      obtain ⟨b, hb1, hand, hbb⟩ := and_one c (7 - m)
      have hor := or_bit tk b htl hb1
      obtain ⟨tk2, htk2⟩ : ∃ tk2, tk2 = 2 * tk + b := ⟨_, rfl⟩
      rw [← htk2] at hor
      have HT2 : Hid (tk2 = 2 * tk + b) := htk2
      have HBB : Hid (b = c.toNat / 2 ^ (7 - m) % 2) := hbb
      have hd30 : d ≤ 30 := by omega
      clear hp hq hm hd htk hcx hc0 htk2 hbb
      go_wp2_with (fail)
      go_quiet (fail)
      go_wp2_with (fail)
      go_roundw
      case rel =>
        obtain ⟨hp, hq, hm, hd⟩ := HP.out
        refine ⟨j + 1, by omega, ?_, ?_, ?_⟩
        · rw [show n - (j + 1) = d - 1 by omega]; congr 1; omega
        · have hbit : (stream X)[at_ + j]? = some (b == 1) := by
            have := stream_get X q m c HCX.out hm8
            rw [← HBB.out, show 8 * q + m = at_ + j by omega] at this
            exact this
          rw [List.take_add_one, List.getElem?_drop, hbit]
          simp only [Option.toList]
          rw [val_snoc, ← HTK.out, HT2.out]
          have hbn : (b == 1).toNat = b := by
            rcases (show b = 0 ∨ b = 1 by omega) with h | h <;> subst h <;> rfl
          rw [hbn]
        · refine ⟨?_, (HJ.out.2.drewN _).setCell _ (fun _ => rfl) _⟩
          have h2 : (wr.drewN nq).heap[ga]? = some (.cells #[.int .i64 ((at_ + j : Nat) : Int)] 3 (0, 0)) := HJ.out.1
          rw [heap_setCell_same _ _ _ _ _ _ h2]
          simp [hp]
          omega
      case measure => simp [intOf]; omega
    · obtain rfl : j = n := by omega
      have hci : ¬ (0 : Int) < d := by omega
      have HTK : Hid (tk = val (((stream X).drop at_).take j)) := htk
      clear hd htk
      go_wp2_with (fail)
      go_ret2
      exact ⟨by rw [← HTK.out]; rfl, HJ.out.1, HJ.out.2⟩

end Go.Proofs.Ytcmdhdpedonihaa
