/- Contracts of the document's Put (aqueductref04.Put). -/
import Derived.Test.YtkipeifkfgbkeaaI2a
namespace Go.Proofs.Ytkipeifkfgbkeaa
open Go.RowKit
set_option maxRecDepth 100000
set_option maxHeartbeats 4000000
set_option linter.unusedVariables false

theorem rem_low (f k : Nat) (hk : k ≤ 8) : (f : Int) % ((allOnes k : Int) + 1) = ((f % 2 ^ k : Nat) : Int) := by
  rw [(pow_cases k hk).1]; push_cast; rfl

theorem rput_bad (f : Nat) (k n : Int) (w : World) (hf : f < 256) (h : PutBad f k n) : Calls Try.prog 34 #[.int .u8 f, .int .i64 k, .int .i64 n] w fun e w' => e = .returned (.tuple #[.slice none 0 0, .int .i64 1]) ∧ w' = w := by
  by_cases h1 : k < 1
  · clear h
    go_enter Try.func34, Try.ntmps34
    go_wp2_with (fail)
    go_ret2
    exact ⟨rfl, rfl⟩
  · by_cases h2 : 8 < k
    · clear h
      go_enter Try.func34, Try.ntmps34
      go_wp2_with (fail)
      go_ret2
      exact ⟨rfl, rfl⟩
    · by_cases h4 : n < 0
      · clear h
        go_enter Try.func34, Try.ntmps34
        go_wp2_with (fail)
        go_ret2
        exact ⟨rfl, rfl⟩
      · by_cases h5 : 2147483647 < n
        · clear h
          go_enter Try.func34, Try.ntmps34
          go_wp2_with (fail)
          go_ret2
          exact ⟨rfl, rfl⟩
        · obtain ⟨j, rfl⟩ : ∃ j : Nat, k = j := ⟨k.toNat, by omega⟩
          have hj : j ≤ 8 := by omega
          have hlow := rem_low f j hj
          have h3 := pow_int j hj
          have hp := pow_cases j hj
          obtain ⟨_, hp2⟩ := hp
          obtain ⟨z, hz⟩ : ∃ z, z = f % 2 ^ j := ⟨_, rfl⟩
          rw [← hz] at hlow
          have h6 : ¬ ((z : Int) = 0) := by
            rcases h with h | h | ⟨j', e, h⟩ | h | h
            · omega
            · omega
            · obtain rfl : j = j' := by omega
              omega
            · omega
            · omega
          clear h hz
          generalize allOnes j = m at *
          go_enter Try.func34, Try.ntmps34
          go_wp2_with (fail)
          go_ret2
          exact ⟨rfl, rfl⟩

theorem rput_ok (f k n : Nat) (w : World) (hf : f < 256) (h1 : 1 ≤ k) (h8 : k ≤ 8) (hz : f % 2 ^ k = 0) (hn : n ≤ 2147483647) : Calls Try.prog 34 #[.int .u8 f, .int .i64 k, .int .i64 n] w fun e w' => ∃ v, e = .returned (.tuple #[v, .int .i64 0]) ∧ Gath w w' v (putInt f k n) := by
  have hlow := rem_low f k h8
  rw [hz] at hlow
  have hpi := pow_int k h8
  have hk1 : ¬ (k : Int) < 1 := by omega
  have hk8 : ¬ (8 : Int) < k := by omega
  have hn0 : ¬ (n : Int) < 0 := by omega
  have hn1 : ¬ (2147483647 : Int) < n := by omega
  obtain ⟨i, hi1, hi2, hi3, hi4⟩ := info5
  have J1 : Hid (Try.prog.info? 5 = some i) := hi1
  have J2 : Hid (i.zero = some (.int .u8 0)) := hi2
  have J3 : Hid (i.size = 1) := hi3
  have J4 : Hid (i.bytes = 1) := hi4
  have HZ : Hid (f % 2 ^ k = 0) := hz
  have HP := pow_cases k h8
  have HPI : Hid (putInt f k n = if n < allOnes k then [UInt8.ofNat (f + n)] else UInt8.ofNat (f + allOnes k) :: tailOf (n - allOnes k)) := rfl
  have HPL := fun n hn => put_low f k n hf h8 hz hn
  obtain ⟨_, HP2⟩ := HP
  obtain ⟨m, hm⟩ : ∃ m, m = allOnes k := ⟨_, rfl⟩
  rw [← hm] at hlow hpi HPI HPL HP2
  clear hm hi1 hi2 hi3 hi4 hz
  by_cases hlt : n < m
  · have hlti : (n : Int) < m := by omega
    have hsum := (HPL n (by omega)).2
    have hmod : (n : Int) % 256 = n := by omega
    obtain ⟨c, hc⟩ : ∃ c, c = UInt8.ofNat (f + n) := ⟨_, rfl⟩
    have hcn : f + n = c.toNat := by rw [hc]; simp; omega
    have hor : ((f : Int) + n) % 256 = (c.toNat : Int) := by omega
    have hor2 : (f : Int) + n = (c.toNat : Int) := by omega
    have HPI2 : Hid (putInt f k n = [c]) := by show _ = _; rw [HPI.out, if_pos hlt, hc]
    clear HPL HPI hc hcn hsum
    go_enter Try.func34, Try.ntmps34
    go_wp2_with (fail)
    go_ret2
    exact ⟨_, rfl, HPI2.out ▸ Gath.one c (Fr.refl _ _)⟩
  · have hlti : ¬ (n : Int) < m := by omega
    have hsum := (HPL m (by omega)).2
    have hmod : (m : Int) % 256 = m := by omega
    obtain ⟨c, hc⟩ : ∃ c, c = UInt8.ofNat (f + m) := ⟨_, rfl⟩
    have hcn : f + m = c.toNat := by rw [hc]; simp; omega
    have hor : ((f : Int) + m) % 256 = (c.toNat : Int) := by omega
    have hor2 : (f : Int) + m = (c.toNat : Int) := by omega
    have HPI2 : Hid (putInt f k n = c :: tailOf (n - m)) := by show _ = _; rw [HPI.out, if_neg hlt, hc]
    have HL : Hid ((putInt f k n).length ≤ 20000000) := by show _ ≤ _; have := putInt_len f k n; omega
    clear HPL HPI hc hcn hsum
    obtain ⟨r0, hr0⟩ : ∃ r0, r0 = n - m := ⟨_, rfl⟩
    have hr0i : (n : Int) - m = r0 := by omega
    have hr0b : r0 ≤ 2147483647 := by omega
    rw [← hr0] at HPI2
    clear hr0
    generalize hall : putInt f k n = all at *
    clear hall
    go_enter Try.func34, Try.ntmps34
    go_wp2_with (fail)
    go_loopw [2, 9] (fun v9 v8 wr => ∃ (no co r : Nat) (ao : Option Addr) (out : List UInt8), v8 = .slice ao no co ∧ v9 = .int .i64 r ∧ r ≤ r0 ∧ Hid (Gath w wr (.slice ao no co) out ∧ out ++ tailOf r = all)) (fun v9 _ _ => (intOf v9).toNat)
    case atStart => exact ⟨1, 1, r0, _, [c], rfl, rfl, by omega, Gath.one c (Fr.refl _ _), by rw [HPI2.out]; rfl⟩
    case round =>
      obtain ⟨no, co, r, ao, out, rfl, rfl, hr, HG⟩ := hrel
      by_cases hmo : 128 ≤ r
      · have hmi : (128 : Int) ≤ r := by omega
        obtain ⟨c2, hc2⟩ : ∃ c2, c2 = UInt8.ofNat (128 + r % 128) := ⟨_, rfl⟩
        have hcn : 128 + r % 128 = c2.toNat := by rw [hc2]; simp; omega
        have HT : Hid (tailOf r = c2 :: tailOf (r / 128)) := by show _ = _; rw [tailOf_more r hmo, hc2]
        have hmd : 128 + (r : Int) % 128 = (c2.toNat : Int) := by omega
        have hmd2 : (c2.toNat : Int) % 256 = (c2.toNat : Int) := by omega
        have HGa : Hid (Gath w (wr.alloc (.cells #[.int .u8 c2.toNat] 5)) (.slice ao no co) out) := HG.out.1.fr ((Fr.refl _ _).alloc _)
        have HSO : Hid (SrcAt (wr.alloc (.cells #[.int .u8 c2.toNat] 5)) (some ⟨wr.heap.size, 0, none⟩) [c2]) := src_one wr c2
        have HB : Hid (out.length + 1 ≤ 225179981368371) := by
          have h1 := congrArg List.length HG.out.2
          have h2 := HL.out
          simp at h1
          show _ ≤ _
          omega
        clear hc2 hcn
        go_wp2_with (at_builtin; refine wpList_gather rfl (.tmp 52) (.tmp 57) 35 35 rfl i Try.underlying35 Try.underlying35 J1.out J2.out J3.out J4.out (.slice ao no co) out (by go_simp) HGa.out (some ⟨wr.heap.size, 0, none⟩) 1 1 (by go_simp) [c2] HSO.out rfl HB.out ?_; intro a2 n2 c3 w2 Hn2 G2 Hf2)
        have HG2 : Hid (Gath w w2 (.slice a2 n2 c3) (out ++ [c2])) := G2
        clear G2
        go_wp2_with (fail)
        go_roundw
        case rel => exact ⟨n2, c3, r / 128, a2, out ++ [c2], rfl, by go_num, by omega, HG2.out, by rw [List.append_assoc, List.singleton_append, ← HT.out]; exact HG.out.2⟩
        case measure => simp [intOf]; omega
      · have hmi : ¬ (128 : Int) ≤ r := by omega
        have hmod2 : (r : Int) % 256 = r := by omega
        obtain ⟨c2, hc2⟩ : ∃ c2, c2 = UInt8.ofNat r := ⟨_, rfl⟩
        have hcn : r = c2.toNat := by rw [hc2]; simp; omega
        have HT : Hid (tailOf r = [c2]) := by show _ = _; rw [tailOf_last r (by omega), hc2]
        have HGa : Hid (Gath w (wr.alloc (.cells #[.int .u8 c2.toNat] 5)) (.slice ao no co) out) := HG.out.1.fr ((Fr.refl _ _).alloc _)
        have HSO : Hid (SrcAt (wr.alloc (.cells #[.int .u8 c2.toNat] 5)) (some ⟨wr.heap.size, 0, none⟩) [c2]) := src_one wr c2
        have HB : Hid (out.length + 1 ≤ 225179981368371) := by
          have h1 := congrArg List.length HG.out.2
          have h2 := HL.out
          rw [HT.out] at h1
          simp at h1
          show _ ≤ _
          omega
        have HGE : Hid (out ++ [c2] = all) := by show _ = _; rw [← HG.out.2, HT.out]
        clear hc2 HG HT
        subst hcn
        go_wp2_with (at_builtin; refine wpList_gather rfl (.tmp 61) (.tmp 64) 35 35 rfl i Try.underlying35 Try.underlying35 J1.out J2.out J3.out J4.out (.slice ao no co) out (by go_simp) HGa.out (some ⟨wr.heap.size, 0, none⟩) 1 1 (by go_simp) [c2] HSO.out rfl HB.out ?_; intro a2 n2 c3 w2 Hn2 G2 Hf2)
        have HG2 : Hid (Gath w w2 (.slice a2 n2 c3) (out ++ [c2])) := G2
        clear G2
        go_wp2_with (fail)
        go_ret2
        exact ⟨_, rfl, HGE.out ▸ HG2.out⟩

end Go.Proofs.Ytkipeifkfgbkeaa
