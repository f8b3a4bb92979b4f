/- There and back: the law's walk. -/
import Derived.Test.YtdndhidinbmpdaaDj
import Derived.Test.YtdndhidinbmpdaaCx
import Derived.Deep.Cut
namespace Go.Proofs.Ytdndhidinbmpdaa
open Go.RowKit
set_option linter.unusedVariables false
set_option maxRecDepth 100000
set_option maxHeartbeats 4000000

theorem split_fr {w : World} {sid : Int} {X : List UInt8} {en : Bool} {M N i : Nat} {a : Option Addr} (h1 : 1 ≤ sid) (h2 : sid ≤ 2147483647) (hX : X.length ≤ 65536) (hs : SrcAt w a (piece M X i)) : FrIn w (splitF sid X en M N i) a none 0 := by
  have hp : (piece M X i).length < 2 ^ 47 := by rw [piece_length]; omega
  refine ⟨hs, SetsAt.nil _, hp, by simp [splitF, zeroF], ?_, ?_, i64w (by simp only [splitF]; omega) (by simp only [splitF]; omega), by simp only [splitF, zeroF]; decide, by simp only [splitF, zeroF]; decide, by simp only [splitF, zeroF]; decide, by simp only [splitF, zeroF]; decide, by simp only [splitF, zeroF]; decide⟩
  · simp only [splitF]; split <;> decide
  · simp only [splitF]; split <;> split <;> decide

theorem bback_out (e0 : Nat) (p : Option Addr) (c : Nat) (X : List UInt8) (en : Bool) (e3 : Nat) (he0 : e0 < 4294967296) (he3 : e3 ≤ 65535) (hX : X.length < 2 ^ 47) (w : World) (hno : 65536 < X.length ∨ 5000 < X.length / (1 + e3)) :
    Calls Try.prog 5 #[.int .u32 (e0 : Int), .slice p X.length c, .bool en, .int .u16 (e3 : Int)] w fun e w' => e = .returned (.bool true) ∧ Below w.heap.size w w' := by
  have KA : Hid (Calls Try.prog 9 #[] w fun e w' => e = .returned (.bool true) ∧ Fr (fun _ => False) w w') := bawake_in w
  have w1 : wrap64 (1 + (e0 : Int) % 2147483647) = 1 + (e0 : Int) % 2147483647 := by unfold wrap64; omega
  have w2 : wrap64 (1 + (e3 : Int)) = 1 + (e3 : Int) := by unfold wrap64; omega
  have g5 : ¬ 1 + (e3 : Int) = 0 := by omega
  by_cases hb : 65536 < X.length
  · have h1 : (65536 : Int) < (X.length : Int) := by omega
    clear hno
    go_enter Try.func5, Try.ntmps5
    go_wp2_with (go_at_call 9; refine KA.out.mono ?_; rintro e w9 ⟨rfl, hf9⟩; have F9 : Hid (Fr (fun _ => False) w w9) := hf9; clear hf9)
    go_ret
    exact ⟨rfl, F9.out.below (fun _ _ => id)⟩
  · have h1 : ¬ (65536 : Int) < (X.length : Int) := by omega
    have h2 : 5000 < X.length / (1 + e3) := by rcases hno with h | h; exact (hb h).elim; exact h
    have g3 : (5000 : Int) < (X.length : Int) / (1 + (e3 : Int)) := by rw [show (1 : Int) + (e3 : Int) = ((1 + e3 : Nat) : Int) by omega, ← Int.natCast_ediv]; omega
    have g6 : wrap64 ((X.length : Int) / (1 + (e3 : Int))) = (X.length : Int) / (1 + (e3 : Int)) := by
      rw [show (1 : Int) + (e3 : Int) = ((1 + e3 : Nat) : Int) by omega, ← Int.natCast_ediv]
      have h := Nat.div_le_self X.length (1 + e3)
      generalize X.length / (1 + e3) = q at h ⊢
      unfold wrap64
      omega
    clear hno h2 hb
    go_enter Try.func5, Try.ntmps5
    go_wp2_with (go_at_call 9; refine KA.out.mono ?_; rintro e w9 ⟨rfl, hf9⟩; have F9 : Hid (Fr (fun _ => False) w w9) := hf9; clear hf9)
    go_ret
    exact ⟨rfl, F9.out.below (fun _ _ => id)⟩

theorem bback_in (e0 : Nat) (p : Option Addr) (c : Nat) (X : List UInt8) (en : Bool) (e3 : Nat) (he0 : e0 < 4294967296) (he3 : e3 ≤ 65535) (hX : X.length ≤ 65536) (hD : X.length / (1 + e3) ≤ 5000) (hc : X.length ≤ c) (w : World) (hs : SrcAt w p X) :
    Calls Try.prog 5 #[.int .u32 (e0 : Int), .slice p X.length c, .bool en, .int .u16 (e3 : Int)] w fun e w' => e = .returned (.bool true) ∧ Below w.heap.size w w' := by
  have w1 : wrap64 (1 + (e0 : Int) % 2147483647) = 1 + (e0 : Int) % 2147483647 := by unfold wrap64; omega
  have w2 : wrap64 (1 + (e3 : Int)) = 1 + (e3 : Int) := by unfold wrap64; omega
  have g5 : ¬ 1 + (e3 : Int) = 0 := by omega
  have h1 : ¬ (65536 : Int) < (X.length : Int) := by omega
  have g3 : ¬ (5000 : Int) < (X.length : Int) / (1 + (e3 : Int)) := by rw [show (1 : Int) + (e3 : Int) = ((1 + e3 : Nat) : Int) by omega, ← Int.natCast_ediv]; omega
  have g6 : wrap64 ((X.length : Int) / (1 + (e3 : Int))) = (X.length : Int) / (1 + (e3 : Int)) := by
    rw [show (1 : Int) + (e3 : Int) = ((1 + e3 : Nat) : Int) by omega, ← Int.natCast_ediv]
    have h := Nat.div_le_self X.length (1 + e3)
    generalize X.length / (1 + e3) = q at h ⊢
    unfold wrap64
    omega
  have HS : Hid (SrcAt w p X) := hs
  have HX : Hid (X.length ≤ 65536 ∧ X.length ≤ c) := ⟨hX, hc⟩
  have HN : Hid (nP (1 + e3) X.length ≤ 6000) := by show _ ≤ _; unfold nP; have := Nat.div_le_div_right (c := 1 + e3) (show X.length - 1 ≤ X.length by omega); omega
  obtain ⟨M, hMe⟩ : ∃ M, 1 + e3 = M := ⟨_, rfl⟩
  obtain ⟨sid, hsid⟩ : ∃ sid : Int, 1 + (e0 : Int) % 2147483647 = sid := ⟨_, rfl⟩
  have HP : Hid (1 ≤ sid ∧ sid ≤ 2147483647 ∧ 1 ≤ M ∧ M ≤ 65536) := ⟨by omega, by omega, by omega, by omega⟩
  have HME : Hid ((1 : Int) + (e3 : Int) = (M : Int)) := by show _ = _; omega
  rw [hMe] at HN
  clear hs hX hc hD
  go_enter Try.func5, Try.ntmps5
  go_upto_region 5 with (fail)
  rw [HME.out]
  clear w1 w2 g5 g3 g6 hsid hMe HME
  go_upto_region 6 with (go_at_call 10; refine (Split_yes sid X en M p c w HP.out.1 HP.out.2.1 HP.out.2.2.1 (by have := HP.out; omega) (by have := HX.out; omega) HX.out.2 HS.out HN.out).mono ?_; rintro e w4 ⟨g, cap, ls, rfl, hl, hall, hfrs, hfr⟩; have T4 : Hid (ls.length = nP M X.length ∧ (∀ k z, ls[k]? = some z → z.1 = splitF sid X en M (nP M X.length) k) ∧ Frs w.heap.size w4 (.slice (some ⟨g, 0, none⟩) ls.length cap) ls ∧ Fr (fun _ => False) w w4) := ⟨hl, hall, hfrs, hfr⟩; clear hl hall hfrs hfr)
  obtain ⟨N, hN⟩ : ∃ N, nP M X.length = N + 1 := ⟨_, rfl⟩
  have hlN : ls.length = N + 1 := by rw [T4.out.1, hN]
  have HNN : Hid (nP M X.length = N + 1) := hN
  have HLN : Hid (ls.length = N + 1) := hlN
  have HN6 : Hid (N < 6000) := by have := HN.out; show _ < _; omega
  rw [hlN]
  clear hlN hN
  have KN : Hid (Calls Try.prog 13 #[.int .i64 65536] w4 fun e w' => e = .returned (.tuple #[.pointer (some ⟨w4.heap.size, 0, none⟩), .int .i64 0]) ∧ JC w' w4.heap.size 65536 none (.slice none 0 0) ∧ Fr (fun _ => False) w4 w') := New_yes 65536 w4 (by decide) (by decide)
  go_wp2_with (go_at_call 13; refine KN.out.mono ?_; rintro e w5 ⟨rfl, hj5, hf5⟩; have T5 : Hid (JC w5 w4.heap.size ((65536 : Nat) : Int) none (.slice none 0 0) ∧ Fr (fun _ => False) w4 w5) := ⟨hj5, hf5⟩; clear hj5 hf5)
  go_loopw [15] (fun x15 wr => ∃ (i : Nat) (v : Value), x15 = .int .i64 (i : Int) ∧ i ≤ N + 1 ∧ JAt wr w4.heap.size 65536 (bkO en sid (N + 1) i) (bkH X M (N + 1) i) v ∧ (∀ k, v.ownBlock = some k → w4.heap.size ≤ k) ∧ Fr (fun _ => False) w4 wr) (fun x15 _ => N + 1 - (intOf x15).toNat)
  case atStart => exact ⟨0, _, rfl, by omega, JAt.none T5.out.1 (by decide), fun k hk => by simp [Value.ownBlock] at hk, T5.out.2⟩
  case round =>
    obtain ⟨i, v, rfl, hi, hJ, hv, hfr⟩ := hrel
    have hN6 := HN6.out
    by_cases hin : i < N + 1
    · have HJ : Hid (JAt wr w4.heap.size 65536 (bkO en sid (N + 1) i) (bkH X M (N + 1) i) v) := hJ
      have HV : Hid (∀ k, v.ownBlock = some k → w4.heap.size ≤ k) := hv
      have HFR : Hid (Fr (fun _ => False) w4 wr) := hfr
      have HIN : Hid (i < N + 1) := hin
      obtain ⟨z, hz⟩ : ∃ z, ls[i]? = some z := ⟨ls[i]'(by rw [HLN.out]; exact hin), List.getElem?_eq_getElem _⟩
      have hF4 : Frs w.heap.size wr (.slice (some ⟨g, 0, none⟩) (N + 1) cap) ls := by have := T4.out.2.2.1.later hfr; rwa [HLN.out] at this
      have hp := hF4.pay z (List.mem_of_getElem? hz)
      have hz1 := T4.out.2.1 i z hz
      obtain ⟨F, a, d, q, cq⟩ := z
      dsimp only at hp hz1
      obtain ⟨hp1, hp2, -⟩ := hp
      cases hp2
      have HZ : Hid (ls[i]? = some (F, a, d, none, 0)) := hz
      have hFX : F.X = piece M X i := by rw [hz1]; rfl
      have KI : Hid (Calls Try.prog 15 #[.pointer (some ⟨w4.heap.size, 0, none⟩), .agg #[.int .i64 F.k, .int .i64 F.fl, .int .i64 F.st, .slice a F.X.length d, .int .i64 F.pad, .int .u32 F.code, .int .i64 F.last, .int .i64 F.inc, .int .i64 F.dep, .bool F.only, .int .i64 F.wt, .slice none F.Y.length 0]] wr fun e w' => InAs wr w4.heap.size 65536 v (if i + 1 = N + 1 then ⟨wholeF (some (en, sid)) X, true, 0, none, []⟩ else ⟨zeroF, false, 0, some (en, sid), X.take ((i + 1) * M)⟩) e w') := by
        have h8 := In_in w4.heap.size 65536 (bkO en sid (N + 1) i) (bkH X M (N + 1) i) v F a none d 0 wr HJ.out (by rw [hz1]; exact split_fr HP.out.1 HP.out.2.1 HX.out.1 (by have := own_src hp1; rwa [hFX] at this))
        have h9 := back_step HP.out.2.2.1 en sid (i := i) (X := X) (by rw [HNN.out]; exact hin) HX.out.1
        rw [HNN.out] at h9 hz1
        rw [← hz1] at h9
        rw [h9] at h8
        exact h8
      have hlen : F.X.length ≤ M := by rw [hFX, piece_length]; omega
      have HFL : Hid (F.X.length ≤ M) := hlen
      obtain ⟨c0, c1, c2, c3, c4, c5, c6, c7, c8, c9, c10, c11⟩ := hF4.twelve HLN.out hz
      have n1 : (i : Int) < (N : Int) + 1 := by omega
      have wi : wrap64 ((i : Int) + 1) = (i : Int) + 1 := by unfold wrap64; omega
      have wn : wrap64 ((N : Int) + 1 - 1) = (N : Int) := by unfold wrap64; omega
      have wn2 : wrap64 (N : Int) = (N : Int) := by unfold wrap64; omega
      have l9 : ¬ (M : Int) < (F.X.length : Int) := by omega
      clear hF4 hp1 hz hJ hv hfr hin hi hz1 hFX hlen hN6
      by_cases hlast : i = N
      · rw [if_pos (by omega)] at KI
        subst hlast
        go_upto_region 13 with (first
          | (go_at_call 15; refine KI.out.mono ?_; rintro e w3 ⟨p3, cp3, q3, cq3, v3, rfl, hs3, -, hn3, hj3, hf3, hb3⟩; have T3 : Hid (JAt w3 w4.heap.size 65536 none ([]) v3 ∧ SrcAt w3 p3 (wholeF (some (en, sid)) X).X ∧ Fr (fun k => k = w4.heap.size ∨ v.ownBlock = some k) wr w3 ∧ (v3.ownBlock = v.ownBlock ∨ v3.ownBlock = none ∨ ∃ k, v3.ownBlock = some k ∧ wr.heap.size ≤ k)) := ⟨hj3, hs3, hf3, hb3⟩; clear hj3 hs3 hf3 hb3 hn3; obtain ⟨OF, hOF⟩ : ∃ OF, (if en = true then (5 : Int) else 4) = OF := ⟨_, rfl⟩; dsimp only [wholeF, zeroF, opF, opS]; rw [hOF]; have HOF : Hid ((if en = true then (5 : Int) else 4) = OF) := hOF; clear hOF)
          | (refine wpList_storeB rfl 34 (.tmp 16) (.tmp 77) rfl w3.heap.size #[.int .i64 0, .int .i64 0, .int .i64 0, .slice none 0 0, .int .i64 0, .int .u32 0, .int .i64 0, .int .i64 0, .int .i64 0, .bool false, .int .i64 0, .slice none 0 0] #[.int .i64 1, .int .i64 OF, .int .i64 sid, .slice p3 X.length cp3, .int .i64 0, .int .u32 0, .int .i64 0, .int .i64 0, .int .i64 0, .bool false, .int .i64 0, .slice q3 0 cq3] 34 rfl rfl (past_at _ (heap_alloc_new w3 _)) rfl (by kernel_rfl) (by simp [Value.oneCell']) ?_; intro x1 X1 Y1)
          | (refine wpList_storeB rfl 43 (.tmp 18) (.tmp 79) rfl (w3.heap.size + 1) #[.bool false, .int .i64 0, .int .i64 0] #[.bool false, .int .i64 0, .int .i64 0] 43 rfl rfl ((Y1.out.block _ (by simp) (by omega)).trans (last_at _ (by simp))) rfl (by kernel_rfl) (by simp [Value.oneCell']) ?_; intro x2 X2 Y2))
        have F3 : Hid (Fr (fun _ => False) w3 x2) := ((((Fr.refl (fun k => k = w3.heap.size ∨ k = w3.heap.size + 1) _).alloc _).alloc _).trans ((Y1.out.mono (fun _ _ e => .inl e)).trans (Y2.out.mono (fun _ _ e => .inr e)))).mono (fun k hk e => by omega)
        have A3 : Hid (FAt x2 w3.heap.size (wholeF (some (en, sid)) X) p3 cp3 q3 cq3) := by rw [← HOF.out] at X1; exact (Y2.out.block _ (lt_of_heap X1.out) (by omega)).trans X1.out
        have S3 : Hid (SrcAt x2 p3 (wholeF (some (en, sid)) X).X) := T3.out.2.1.oldF F3.out
        have J3 : Hid (JAt x2 w4.heap.size 65536 none ([]) v3) := T3.out.1.later F3.out
        have HFRX : Hid (Fr (fun _ => False) w4 x2) := (((HFR.out.mono (T := fun k => w4.heap.size ≤ k) (fun _ _ e => e.elim)).trans (T3.out.2.2.1.mono (fun k _ e => by rcases e with e | e; omega; exact HV.out k e))).trans (F3.out.mono (fun _ _ e => e.elim))).mono (fun k hk e => by omega)
        have HFRW : Hid (Fr (fun _ => False) w x2) := T4.out.2.2.2.trans HFRX.out
        obtain ⟨s0, s1, s2⟩ := cells3 X2.out
        clear c0 c1 c2 c3 c4 c5 c6 c7 c8 c9 c10 c11
        have hF5 : Frs w.heap.size x2 (.slice (some ⟨g, 0, none⟩) (i + 1) cap) ls := by have := T4.out.2.2.1.later HFRX.out; rwa [HLN.out] at this
        obtain ⟨c0, c1, c2, c3, c4, c5, c6, c7, c8, c9, c10, c11⟩ := hF5.twelve HLN.out HZ.out
        clear hF5
        have HFC : Hid (FAt x2 w3.heap.size (wholeF (some (en, sid)) X) p3 cp3 q3 cq3) := A3.out
        obtain ⟨f0, f1, f2, f3, f4, f5, f6, f7, f8, f9, f10, f11⟩ := fcells HFC.out
        have v1 : (convert 22 9 (.slice p3 X.length cp3)).run Try.prog x2 = .ok (.string ⟨X.toArray⟩) x2 := S3.out.str rfl cp3
        have v2 : (convert 22 9 (.slice p X.length c)).run Try.prog x2 = .ok (.string ⟨X.toArray⟩) x2 := (HS.out.oldF HFRW.out).str rfl c
        have q1 : x2.cell? ⟨w3.heap.size, 1, none⟩ = some (.int .i64 (if en = true then 5 else 4)) := f1
        have q3' : x2.cell? ⟨w3.heap.size, 3, none⟩ = some (.slice p3 X.length cp3) := f3
        have q2 : x2.cell? ⟨w3.heap.size, 2, none⟩ = some (.int .i64 sid) := f2
        have q0 : x2.cell? ⟨w3.heap.size, 0, none⟩ = some (.int .i64 1) := f0
        clear f0 f1 f2 f3 f4 f5 f6 f7 f8 f9 f10 f11 c0 c1 c2 c4 c5 c6 c7 c8 c9 c10 c11
        have KIND : Hid (∀ k, v3.ownBlock = some k → w4.heap.size ≤ k) := own_next T3.out.2.2.2 HV.out HFR.out.size
        cases en
        all_goals (
          simp only [if_true, if_false, Bool.false_eq_true] at q1
          go_wp2_with (fail)
          go_roundw
          case rel => exact ⟨i + 1, rfl, HIN.out, v3, by have h7 := J3.out; simpa [bkO, bkH] using h7, KIND.out, HFRX.out⟩
          case measure => exact meas_next2 HIN.out)
      · rw [if_neg (by omega)] at KI
        have m1 : ¬ (i : Int) = (N : Int) := by omega
        have m2 : ((i : Int) == (N : Int)) = false := by simpa using m1
        have m3 : decide (i = N) = false := by simpa using hlast
        have m4 : (i == N) = false := by simpa using hlast
        have HLAST : Hid (¬ i = N) := hlast
        clear hlast
        go_upto_region 13 with (first
          | (go_at_call 15; refine KI.out.mono ?_; rintro e w3 ⟨p3, cp3, q3, cq3, v3, rfl, hs3, -, hn3, hj3, hf3, hb3⟩; have T3 : Hid (JAt w3 w4.heap.size 65536 (some (en, sid)) (X.take ((i + 1) * M)) v3 ∧ SrcAt w3 p3 zeroF.X ∧ Fr (fun k => k = w4.heap.size ∨ v.ownBlock = some k) wr w3 ∧ (v3.ownBlock = v.ownBlock ∨ v3.ownBlock = none ∨ ∃ k, v3.ownBlock = some k ∧ wr.heap.size ≤ k)) := ⟨hj3, hs3, hf3, hb3⟩; clear hj3 hs3 hf3 hb3 hn3; dsimp only [zeroF])
          | (refine wpList_storeB rfl 34 (.tmp 16) (.tmp 77) rfl w3.heap.size #[.int .i64 0, .int .i64 0, .int .i64 0, .slice none 0 0, .int .i64 0, .int .u32 0, .int .i64 0, .int .i64 0, .int .i64 0, .bool false, .int .i64 0, .slice none 0 0] #[.int .i64 0, .int .i64 0, .int .i64 0, .slice p3 0 cp3, .int .i64 0, .int .u32 0, .int .i64 0, .int .i64 0, .int .i64 0, .bool false, .int .i64 0, .slice q3 0 cq3] 34 rfl rfl (past_at _ (heap_alloc_new w3 _)) rfl (by kernel_rfl) (by simp [Value.oneCell']) ?_; intro x1 X1 Y1)
          | (refine wpList_storeB rfl 43 (.tmp 18) (.tmp 79) rfl (w3.heap.size + 1) #[.bool false, .int .i64 0, .int .i64 0] #[.bool false, .int .i64 0, .int .i64 0] 43 rfl rfl ((Y1.out.block _ (by simp) (by omega)).trans (last_at _ (by simp))) rfl (by kernel_rfl) (by simp [Value.oneCell']) ?_; intro x2 X2 Y2))
        have F3 : Hid (Fr (fun _ => False) w3 x2) := ((((Fr.refl (fun k => k = w3.heap.size ∨ k = w3.heap.size + 1) _).alloc _).alloc _).trans ((Y1.out.mono (fun _ _ e => .inl e)).trans (Y2.out.mono (fun _ _ e => .inr e)))).mono (fun k hk e => by omega)
        have A3 : Hid (FAt x2 w3.heap.size zeroF p3 cp3 q3 cq3) := by exact (Y2.out.block _ (lt_of_heap X1.out) (by omega)).trans X1.out
        have S3 : Hid (SrcAt x2 p3 zeroF.X) := T3.out.2.1.oldF F3.out
        have J3 : Hid (JAt x2 w4.heap.size 65536 (some (en, sid)) (X.take ((i + 1) * M)) v3) := T3.out.1.later F3.out
        have HFRX : Hid (Fr (fun _ => False) w4 x2) := (((HFR.out.mono (T := fun k => w4.heap.size ≤ k) (fun _ _ e => e.elim)).trans (T3.out.2.2.1.mono (fun k _ e => by rcases e with e | e; omega; exact HV.out k e))).trans (F3.out.mono (fun _ _ e => e.elim))).mono (fun k hk e => by omega)
        have HFRW : Hid (Fr (fun _ => False) w x2) := T4.out.2.2.2.trans HFRX.out
        obtain ⟨s0, s1, s2⟩ := cells3 X2.out
        clear c0 c1 c2 c3 c4 c5 c6 c7 c8 c9 c10 c11
        have hF5 : Frs w.heap.size x2 (.slice (some ⟨g, 0, none⟩) (N + 1) cap) ls := by have := T4.out.2.2.1.later HFRX.out; rwa [HLN.out] at this
        obtain ⟨c0, c1, c2, c3, c4, c5, c6, c7, c8, c9, c10, c11⟩ := hF5.twelve HLN.out HZ.out
        clear hF5
        have KIND : Hid (∀ k, v3.ownBlock = some k → w4.heap.size ≤ k) := own_next T3.out.2.2.2 HV.out HFR.out.size
        go_wp2_with (fail)
        go_roundw
        case rel => exact ⟨i + 1, rfl, HIN.out, v3, by have h6 : ¬ (i + 1 = 0 ∨ i + 1 = N + 1) := (by have := HLAST.out; omega); rw [bkO, bkH, if_neg h6, if_neg h6]; exact J3.out, KIND.out, HFRX.out⟩
        case measure => exact meas_next2 HIN.out
    · obtain rfl : i = N + 1 := by omega
      have n1 : ¬ ((N : Int) + 1) < (N : Int) + 1 := by omega
      have hJN : JAt wr w4.heap.size 65536 none [] v := by have := hJ; simpa [bkO, bkH] using this
      obtain ⟨rfl, -⟩ := hJN.nil rfl
      have KS : Hid (Calls Try.prog 17 #[.pointer (some ⟨w4.heap.size, 0, none⟩)] wr fun e w' => e = .returned (.int .i64 0) ∧ wr = w') := Stream_in w4.heap.size _ none _ wr hJN.c
      have KH : Hid (Calls Try.prog 18 #[.pointer (some ⟨w4.heap.size, 0, none⟩)] wr fun e w' => e = .returned (.int .i64 0) ∧ wr = w') := Held_in w4.heap.size _ none none 0 0 wr hJN.c
      have HFR : Hid (Fr (fun _ => False) w4 wr) := hfr
      clear hJ hJN hv hfr hin hi
      go_wp2_with (first
        | (go_at_call 17; refine KS.out.mono ?_; rintro e w' ⟨rfl, rfl⟩)
        | (go_at_call 18; refine KH.out.mono ?_; rintro e w' ⟨rfl, rfl⟩))
      go_ret
      exact ⟨rfl, (T4.out.2.2.2.trans HFR.out).below (fun _ _ => id)⟩
theorem bback_walk (e0 : Nat) (he0 : e0 < 4294967296) (p : Option Addr) (c : Nat) (X : List UInt8) (en : Bool) (e3 : Nat) (he3 : e3 ≤ 65535) (w : World) (hs : SrcAt w p X) (hX : X.length < 2 ^ 47) (hc : X.length ≤ c) :
    Calls Try.prog 5 #[.int .u32 (e0 : Int), .slice p X.length c, .bool en, .int .u16 (e3 : Int)] w fun e w' => e = .returned (.bool true) ∧ Below w.heap.size w w' := by
  by_cases h1 : 65536 < X.length
  · exact bback_out e0 p c X en e3 he0 he3 hX w (.inl h1)
  · by_cases h2 : 5000 < X.length / (1 + e3)
    · exact bback_out e0 p c X en e3 he0 he3 hX w (.inr h2)
    · exact bback_in e0 p c X en e3 he0 he3 (by omega) (by omega) hc w hs
end Go.Proofs.Ytdndhidinbmpdaa
