/- The walk of ReaderFails. -/
import Derived.Test.YtikaefjhmgcidaaTf
namespace Go.Proofs.Ytikaefjhmgcidaa
open Go.RowKit
set_option linter.unusedVariables false
set_option maxRecDepth 100000
set_option maxHeartbeats 4000000

def head8 (n k : Nat) : List UInt8 := [UInt8.ofNat (n / 65536), UInt8.ofNat (n / 256 % 256), UInt8.ofNat (n % 256), UInt8.ofNat k, 0, 0, 0, 0]
theorem head8_num (n k : Nat) (h : n < 16777216) (Z : List UInt8) : num ((head8 n k ++ Z).take 3) = n := by
  simp [head8, num]
  omega

theorem next9 (n k : Nat) (h1 : 16384 < n) (h2 : n ≤ 16777215) (X : Flt) (hX : X = ⟨false, 0, 0⟩ ∨ X = ⟨true, 0, 6⟩) : nextR 16384 (head8 n k ++ [1]) X = ((zeroF, false, ⟨true, 0, 6⟩), head8 n k ++ [1], ⟨true, 0, 6⟩) := by
  rcases hX with rfl | rfl
  · exact next_long 16384 (by omega) _ (by simp [head8]) (by rw [head8_num n k (by omega)]; omega)
  · exact next_failed _ _ _ rfl
/-- New blocks alone have changed. -/
theorem Fr.fresh {S : Nat → Prop} {w w1 w2 : World} (h : Fr (fun _ => False) w w1) (f : Fr S w1 w2) (hs : ∀ k, S k → w.heap.size ≤ k) : Fr (fun _ => False) w w2 :=
  ((h.mono (T := fun k => w.heap.size ≤ k) (fun _ _ e => e.elim)).trans (f.mono (fun k _ e => hs k e))).mono (fun k hk e => by omega)
theorem fails_walk (e0 e1 : Nat) (h0 : e0 < 4294967296) (h1 : e1 ≤ 255) (v : Value) (w : World) : Calls Try.prog 7 #[.int .u32 (e0 : Int), .int .u8 (e1 : Int), v] w fun e w' => e = .returned (.bool true) ∧ Below w.heap.size w w' := by
  obtain ⟨n, hn⟩ : ∃ n, n = 16385 + e0 % 16760831 := ⟨_, rfl⟩
  have hn1 : 16384 < n ∧ n ≤ 16777215 := by omega
  have hni : (16385 : Int) + (e0 : Int) % 16760831 = (n : Int) := by omega
  have HN : Hid (16384 < n ∧ n ≤ 16777215) := hn1
  clear hn
  go_enter Try.func7, Try.ntmps7
  go_upto_region 5 with (go_at_call 8; refine (New_rdr 16384 _ (by omega) (by omega)).mono ?_; rintro e w1 ⟨rfl, r1, f1⟩; have R1 : Hid (Rdr w1 w.heap.size 16384 [] ⟨false, 0, 0⟩ none 0 ∧ Fr (fun _ => False) w w1) := ⟨r1, f1⟩; clear r1 f1)
  obtain ⟨w2, hw2⟩ : ∃ w2, w2 = w1.alloc (.cells #[.int .u8 ((n : Int) / 65536), .int .u8 ((n : Int) / 256 % 256), .int .u8 ((n : Int) % 256), .int .u8 (e1 : Int), .int .u8 0, .int .u8 0, .int .u8 0, .int .u8 0] 5) := ⟨_, rfl⟩
  have hrow : (#[.int .u8 ((n : Int) / 65536), .int .u8 ((n : Int) / 256 % 256), .int .u8 ((n : Int) % 256), .int .u8 (e1 : Int), .int .u8 0, .int .u8 0, .int .u8 0, .int .u8 0] : Array Value) = (bv (head8 n e1)).toArray := by
    simp [bv, head8]
    omega
  have HS2 : Hid (SrcAt w2 (some ⟨w1.heap.size, 0, none⟩) (head8 n e1) ∧ Fr (fun _ => False) w1 w2) := by
    rw [hw2, hrow]
    exact ⟨SrcAt.row (heap_alloc_new w1 _) 0, (Fr.refl _ _).alloc _⟩
  have HFW2 : Hid (Fr (fun _ => False) w w2) := R1.out.2.trans HS2.out.2
  have KF := Feed_rdr w.heap.size 16384 [] ⟨false, 0, 0⟩ none 0 (some ⟨w1.heap.size, 0, none⟩) 8 8 (head8 n e1) w2 (R1.out.1.later HS2.out.2) (by omega) rfl HS2.out.1 rfl (by omega)
  clear hrow
  go_wp2_with (fail)
  rw [← hw2]
  clear hw2
  refine KF.mono ?_
  clear KF
  rintro e w3 ⟨rfl, ob3, r3, f3, o3⟩
  have R3 : Hid (Rdr w3 w.heap.size 16384 (head8 n e1) ⟨false, 0, 0⟩ ob3 8 ∧ Fr (fun _ => False) w w3 ∧ (∀ k, ob3 = some k → w.heap.size ≤ k)) := ⟨r3, HFW2.out.fresh f3 (fun k e => by rcases e with e | e; exact Nat.le_of_eq e.symm; cases e), fun k hk => by
    rcases o3 with e | ⟨j, hj, hj2⟩
    · rw [e] at hk; cases hk
    · rw [hj] at hk; cases hk; have := HFW2.out.size; omega⟩
  clear r3 f3 o3
  have KN := Next_in w.heap.size 16384 (head8 n e1) ⟨false, 0, 0⟩ ob3 8 w3 R3.out.1 (by omega) (by omega) (by decide)
  rw [next_short 16384 (by omega) (head8 n e1) (by simp [head8])] at KN
  go_upto_region 7 with (first
    | (go_at_call 12; refine KN.mono ?_; clear KN; rintro e w4 ⟨p, cp, q, cq, ob4, rfl, -, -, -, -, r4, f4, o4⟩; have R4 : Hid (Rdr w4 w.heap.size 16384 (head8 n e1) ⟨false, 0, 0⟩ ob4 16 ∧ Fr (fun _ => False) w w4 ∧ (∀ k, ob4 = some k → w.heap.size ≤ k)) := ⟨r4, R3.out.2.1.fresh f4 (fun k e => Nat.le_of_eq e.symm), fun k hk => (by
        rcases o4 with e | ⟨j, hj, hj2⟩
        · exact R3.out.2.2 k (e ▸ hk)
        · rw [hj] at hk; cases hk; have := R3.out.2.1.size; omega)⟩; clear r4 f4 o4)
    | (refine wpList_storeB rfl 36 (.tmp 10) (.tmp 41) rfl w4.heap.size #[.int .i64 0, .int .i64 0, .int .i64 0, .slice none 0 0, .int .i64 0, .int .u32 0, .int .i64 0, .int .i64 0, .int .i64 0, .bool false, .int .i64 0, .slice none 0 0] #[.int .i64 zeroF.k, .int .i64 zeroF.fl, .int .i64 zeroF.st, .slice p zeroF.X.length cp, .int .i64 zeroF.pad, .int .u32 zeroF.code, .int .i64 zeroF.last, .int .i64 zeroF.inc, .int .i64 zeroF.dep, .bool zeroF.only, .int .i64 zeroF.wt, .slice q zeroF.Y.length cq] 36 rfl rfl (past_at _ (heap_alloc_new w4 _)) rfl (by kernel_rfl) (by simp [Value.oneCell']) ?_; intro w5 H5 G5)
    | (refine wpList_storeB rfl 38 (.tmp 12) (.tmp 43) rfl (w4.heap.size + 1) #[.bool false, .int .i64 0, .int .i64 0] #[.bool false, .int .i64 0, .int .i64 0] 38 rfl rfl ((G5.out.block _ (by simp) (by omega)).trans (last_at _ (by simp))) rfl (by kernel_rfl) (by simp [Value.oneCell']) ?_; intro w6 H6 G6))
  have FF6 : Hid (Fr (fun _ => False) w4 w6) := ((((Fr.refl (fun k => k = w4.heap.size ∨ k = w4.heap.size + 1) _).alloc _).alloc _).trans ((G5.out.mono (fun _ _ e => .inl e)).trans (G6.out.mono (fun _ _ e => .inr e)))).mono (fun k hk e => by omega)
  have R6 : Hid (Rdr w6 w.heap.size 16384 (head8 n e1) ⟨false, 0, 0⟩ ob4 16 ∧ Fr (fun _ => False) w w6) := ⟨R4.out.1.later FF6.out, R4.out.2.1.trans FF6.out⟩
  have x0 : w6.cell? ⟨w4.heap.size + 1, 0, none⟩ = some (.bool false) := (cells3 H6.out).1
  obtain ⟨w7, hw7⟩ : ∃ w7, w7 = w6.alloc (.cells #[.int .u8 1] 5) := ⟨_, rfl⟩
  have HS7 : Hid (SrcAt w7 (some ⟨w6.heap.size, 0, none⟩) [1] ∧ Fr (fun _ => False) w6 w7) := by
    rw [hw7]
    exact ⟨src_one w6 1, (Fr.refl _ _).alloc _⟩
  have KF := Feed_rdr w.heap.size 16384 (head8 n e1) ⟨false, 0, 0⟩ ob4 16 (some ⟨w6.heap.size, 0, none⟩) 1 1 [1] w7 (R6.out.1.later HS7.out.2) (by omega) rfl HS7.out.1 rfl (by omega)
  go_wp2_with (fail)
  rw [← hw7]
  clear hw7
  refine KF.mono ?_
  clear KF
  rintro e w8 ⟨rfl, ob8, r8, f8, o8⟩
  have hbx : w4.heap.size + 1 < w6.heap.size := lt_of_heap H6.out
  have hbne : ¬ (w4.heap.size + 1 = w.heap.size ∨ ob4 = some (w4.heap.size + 1)) := by
    rintro (e | e)
    · have := R4.out.2.1.size; omega
    · have := (R4.out.1.lt.2 _ e).1; omega
  have R8 : Hid (Rdr w8 w.heap.size 16384 (head8 n e1 ++ [1]) ⟨false, 0, 0⟩ ob8 17 ∧ Fr (fun _ => False) w w8 ∧ (∀ k, ob8 = some k → w.heap.size ≤ k ∧ k ≠ w4.heap.size + 1) ∧ w8.heap[w4.heap.size + 1]? = some (.cells #[.bool false, .int .i64 0, .int .i64 0] 38 (0, 0))) := by
    refine ⟨r8, (R6.out.2.trans HS7.out.2).fresh f8 (fun k e => ?_), fun k hk => ?_, (f8.block _ (by have := HS7.out.2.size; omega) hbne).trans ((HS7.out.2.block _ hbx id).trans H6.out)⟩
    · rcases e with e | e
      · omega
      · exact R4.out.2.2 k e
    · rcases o8 with e | ⟨j, hj, hj2⟩
      · exact ⟨R4.out.2.2 k (e ▸ hk), fun e2 => hbne (.inr (by rw [← e, hk, e2]))⟩
      · rw [hj] at hk; cases hk; have := HS7.out.2.size; have := R6.out.2.size; omega
  have HBX : Hid (w.heap.size < w4.heap.size + 1) := by have := R4.out.2.1.size; show _ < _; omega
  obtain ⟨B9, hB9⟩ : ∃ B9, B9 = head8 n e1 ++ [1] := ⟨_, rfl⟩
  have HX9 : Hid (∀ X : Flt, X = ⟨false, 0, 0⟩ ∨ X = ⟨true, 0, 6⟩ → nextR 16384 B9 X = ((zeroF, false, ⟨true, 0, 6⟩), B9, ⟨true, 0, 6⟩)) := fun X hX => by rw [hB9]; exact next9 n e1 HN.out.1 HN.out.2 X hX
  have HL9 : Hid (B9.length = 9) := by rw [hB9]; rfl
  rw [← hB9] at R8
  clear r8 f8 o8 hbx hbne H5 G5 H6 G6 x0 hB9
  obtain ⟨bx, hbx⟩ : ∃ bx, bx = w4.heap.size + 1 := ⟨_, rfl⟩
  rw [← hbx] at R8 HBX
  go_wp2_with (fail)
  rw [← hbx]
  clear hbx
  go_loopw [11, 13] (fun v11 v13 wr => ∃ (i : Nat) (ob : Option Nat) (X xf : Flt), v13 = .int .i64 (i : Int) ∧ i ≤ 3 ∧ Hid ((X = ⟨false, 0, 0⟩ ∨ X = ⟨true, 0, 6⟩) ∧ Rdr wr w.heap.size 16384 B9 X ob 18 ∧ Fr (fun _ => False) w wr ∧ (∀ k, ob = some k → w.heap.size ≤ k ∧ k ≠ bx) ∧ wr.heap[bx]? = some (.cells #[.bool xf.is, .int .i64 xf.st, .int .i64 xf.code] 38 (0, 0)))) (fun _ v13 _ => 3 - (intOf v13).toNat)
  case atStart => exact ⟨0, ob8, ⟨false, 0, 0⟩, ⟨false, 0, 0⟩, rfl, by omega, .inl rfl, R8.out.1.mono (by omega), R8.out.2.1, R8.out.2.2.1, R8.out.2.2.2⟩
  case round =>
    obtain ⟨i, ob, X, xf, rfl, hi, HR⟩ := hrel
    by_cases hlt : i < 3
    · have hlti : (i : Int) < 3 := by omega
      have KN := Next_in w.heap.size 16384 B9 X ob 18 wr HR.out.2.1 (by omega) (by omega) (by decide)
      rw [HX9.out X HR.out.1] at KN
      have HBN : Hid (bx < wr.heap.size) := lt_of_heap HR.out.2.2.2.2
      go_upto_region 14 with (first
        | (go_at_call 12; refine KN.mono ?_; clear KN; rintro e y1 ⟨p, cp, q, cq, ob1, rfl, -, -, -, -, r1, f1, o1⟩; have Y1 : Hid (Rdr y1 w.heap.size 16384 B9 ⟨true, 0, 6⟩ ob1 18 ∧ Fr (fun _ => False) w y1 ∧ (∀ k, ob1 = some k → w.heap.size ≤ k ∧ k ≠ bx) ∧ y1.heap[bx]? = some (.cells #[.bool xf.is, .int .i64 xf.st, .int .i64 xf.code] 38 (0, 0))) := ⟨r1.mono (by rw [HL9.out]; exact Nat.le_refl _), HR.out.2.2.1.fresh f1 (fun k e => Nat.le_of_eq e.symm), fun k hk => (by
            rcases o1 with e | ⟨j, hj, hj2⟩
            · exact HR.out.2.2.2.1 k (e ▸ hk)
            · rw [hj] at hk; cases hk; have := HR.out.2.2.1.size; have := HBN.out; omega), (f1.block _ HBN.out (by have := HBX.out; omega)).trans HR.out.2.2.2.2⟩; clear r1 f1 o1)
        | (refine wpList_storeB rfl 38 (.tmp 12) (.tmp 61) rfl bx #[.bool xf.is, .int .i64 xf.st, .int .i64 xf.code] #[.bool true, .int .i64 0, .int .i64 6] 38 rfl rfl Y1.out.2.2.2 rfl (by kernel_rfl) (by simp [Value.oneCell']) ?_; intro y2 H2 G2))
      have Y2 : Hid (Rdr y2 w.heap.size 16384 B9 ⟨true, 0, 6⟩ ob1 18 ∧ Fr (fun _ => False) w y2) := ⟨Y1.out.1.fr G2.out (by have := HBX.out; omega) (fun k hk e => (Y1.out.2.2.1 k hk).2 e), Y1.out.2.1.fresh G2.out (fun k e => by have := HBX.out; omega)⟩
      obtain ⟨g0, g1, g2⟩ := cells3 H2.out
      have KA := Failed_rdr w.heap.size 16384 B9 ⟨true, 0, 6⟩ ob1 18 y2 Y2.out.1 (by omega)
      have KE := Feed_rdr_failed w.heap.size 16384 B9 ⟨true, 0, 6⟩ ob1 18 v y2 Y2.out.1 (by omega) rfl
      go_wp2_with (first
        | (go_at_call 15; refine KA.mono ?_; clear KA; rintro e w' ⟨rfl, rfl⟩)
        | (go_at_call 10; refine KE.mono ?_; clear KE; rintro e w' ⟨rfl, rfl⟩))
      go_roundw
      case rel => exact ⟨i + 1, ob1, ⟨true, 0, 6⟩, ⟨true, 0, 6⟩, by go_num, by omega, .inr rfl, Y2.out.1, Y2.out.2, Y1.out.2.2.1, H2.out⟩
      case measure => simp [intOf]; omega
    · have hlti : ¬ (i : Int) < 3 := by omega
      go_wp2_with (fail)
      go_ret
      exact ⟨rfl, HR.out.2.2.1.below (fun _ _ => id)⟩
end Go.Proofs.Ytikaefjhmgcidaa
