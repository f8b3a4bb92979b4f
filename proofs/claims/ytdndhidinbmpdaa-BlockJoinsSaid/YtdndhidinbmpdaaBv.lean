/- Contract of the document's Split. -/
import Derived.Test.YtdndhidinbmpdaaBu
import Derived.Test.YtdndhidinbmpdaaSt
import Derived.Deep.Cut
namespace Go.Proofs.Ytdndhidinbmpdaa
open Go.RowKit
set_option linter.unusedVariables false
set_option maxRecDepth 100000
set_option maxHeartbeats 4000000

def kdOf (k : Nat) : Int := if k = 0 then 1 else 9
def fgOf (k : Nat) (en : Bool) : Int := if k = 0 ∧ en = true then 1 else 0
theorem fcl_split {sid : Int} {X : List UInt8} {en : Bool} {M N k : Nat} {a : Option Addr} {d n : Nat} {kd fl : Int} (hk : kdOf k = kd) (hf : fgOf k en + (if k + 1 = N then 4 else 0) = fl) (hn : n = (piece M X k).length) :
    fcl (splitF sid X en M N k, a, d, none, 0) = [.int .i64 kd, .int .i64 fl, .int .i64 sid, .slice a n d, .int .i64 0, .int .u32 0, .int .i64 0, .int .i64 0, .int .i64 0, .bool false, .int .i64 0, .slice none 0 0] := by
  subst hn
  subst hk
  subst hf
  rfl
theorem all_snoc {ls : List FM} {z : FM} {k : Nat} {F : Nat → Fra} (h : ∀ j y, ls[j]? = some y → y.1 = F j) (hl : ls.length = k) (hz : z.1 = F k) : ∀ j y, (ls ++ [z])[j]? = some y → y.1 = F j := by
  intro j y hj
  rcases Nat.lt_or_ge j ls.length with h1 | h1
  · rw [List.getElem?_append_left h1] at hj; exact h j y hj
  · rw [List.getElem?_append_right h1] at hj
    obtain ⟨rfl⟩ : j = ls.length := by
      have := (List.getElem?_eq_some_iff.1 hj).1
      simp at this
      omega
    simp at hj
    rw [← hj, hz, hl]
def slLen : Value → Nat | .slice _ n _ => n | _ => 0
theorem rSplit_no (sid : Int) (v : Value) (en : Bool) (m : Int) (w : World) (h : ¬ (1 ≤ sid ∧ sid ≤ 2147483647 ∧ 1 ≤ m)) :
    Calls Try.prog 11 #[.int .i64 sid, v, .bool en, .int .i64 m] w fun e w' => e = .returned (.tuple #[.slice none 0 0, .int .i64 1]) ∧ w = w' := by
  by_cases h1 : sid < 1
  · clear h
    go_enter Try.func11, Try.ntmps11
    go_wp2
    go_ret2
    exact ⟨rfl, rfl⟩
  · by_cases h2 : 2147483647 < sid
    · clear h
      go_enter Try.func11, Try.ntmps11
      go_wp2
      go_ret2
      exact ⟨rfl, rfl⟩
    · have h3 : m < 1 := by omega
      clear h
      go_enter Try.func11, Try.ntmps11
      go_wp2
      go_ret2
      exact ⟨rfl, rfl⟩
theorem Split_no (sid : Int) (v : Value) (en : Bool) (m : Int) (w : World) (h : ¬ (1 ≤ sid ∧ sid ≤ 2147483647 ∧ 1 ≤ m)) :
    Calls Try.prog 10 #[.int .i64 sid, v, .bool en, .int .i64 m] w fun e w' => e = .returned (.tuple #[.slice none 0 0, .int .i64 1]) ∧ Fr (fun _ => False) w w' := by
  have q0 : (w.alloc (.cells #[.int .i64 sid] 3)).cell? ⟨w.heap.size, 0, none⟩ = some (.int .i64 sid) := cell_of_heap (heap_alloc_new w _) rfl
  by_cases h1 : sid < 1
  · clear h
    go_enter Try.func10, Try.ntmps10
    go_wp2
    go_ret2
    exact ⟨rfl, (Fr.refl _ _).alloc _⟩
  · by_cases h2 : 2147483647 < sid
    · clear h
      go_enter Try.func10, Try.ntmps10
      go_wp2
      go_ret2
      exact ⟨rfl, (Fr.refl _ _).alloc _⟩
    · have h3 : m < 1 := by omega
      clear h
      go_enter Try.func10, Try.ntmps10
      go_wp2
      go_ret2
      exact ⟨rfl, (Fr.refl _ _).alloc _⟩

/-- Where the document's gathering stands. -/
structure RGat (w : World) (sid : Int) (X : List UInt8) (en : Bool) (M : Nat) (k : Nat) (dp : Option Addr) (d : Nat) (v : Value) (ls : List FM) (W : World) : Prop where
  src : SrcAt w dp (X.drop (k * M))
  cap : X.length - k * M ≤ d
  frs : Frs w.heap.size W v ls
  len : ls.length = k
  all : ∀ j z, ls[j]? = some z → z.1 = splitF sid X en M (nP M X.length) j
  fr : Fr (fun _ => False) w W

theorem rSplit_true (sid : Int) (X : List UInt8) (M : Nat) (p : Option Addr) (c : Nat) (w : World) (h1 : 1 ≤ sid) (h2 : sid ≤ 2147483647) (hM : 1 ≤ M) (hM2 : M ≤ 9223372036854775807) (hX : X.length < 2 ^ 47) (hc : X.length ≤ c) (hs : SrcAt w p X) (hN : nP M X.length ≤ 6000) :
    Calls Try.prog 11 #[.int .i64 sid, .slice p X.length c, .bool true, .int .i64 (M : Int)] w fun e w' => SplitAs w sid X true M (fun _ => .int .i64 0) e w' := by
  have hM3 : ¬ (M : Int) < 1 := by omega
  have HG0 : Hid (RGat w sid X true M 0 p c (.slice none 0 0) [] w) := ⟨by simpa using hs, by simpa using hc, Frs.nil _ _, rfl, fun j z hj => by simp at hj, Fr.refl _ _⟩
  obtain ⟨i8, e1, e2, e3, e4⟩ := info5
  have E1 : Hid (Try.prog.info? 5 = some i8) := e1
  have E2 : Hid (i8.zero = some (.int .u8 0)) := e2
  have E3 : Hid (i8.size = 1) := e3
  have E4 : Hid (i8.bytes = 1) := e4
  obtain ⟨i5, i1, i2, i3, i4⟩ := info_frame
  have I1 : Hid (Try.prog.info? 34 = some i5) := i1
  have I2 : Hid (i5.zero = some frameZ) := i2
  have I3 : Hid (i5.size = 12) := i3
  have I4 : Hid (i5.bytes = 128) := i4
  have HX : Hid (X.length < 2 ^ 47 ∧ nP M X.length ≤ 6000) := ⟨hX, hN⟩
  clear hs e1 e2 e3 e4 i1 i2 i3 i4 hX hc hN
  go_enter Try.func11, Try.ntmps11
  go_wp2
  go_loopw [1, 10, 11, 12] (fun x1 x10 x11 x12 wr => ∃ (k : Nat) (dp : Option Addr) (d : Nat) (v : Value) (ls : List FM), k < nP M X.length ∧ x1 = .slice dp (X.length - k * M) d ∧ x10 = v ∧ x11 = .int .i64 (kdOf k) ∧ x12 = .int .i64 (fgOf k true) ∧ RGat w sid X true M k dp d v ls wr)
    (fun x1 x10 x11 x12 wr => slLen x1)
  case atStart => exact ⟨0, p, c, _, [], Nat.succ_pos _, by simp, rfl, rfl, rfl, HG0.out⟩
  case round =>
    obtain ⟨k, dp, d, v, ls, hk, rfl, hv, rfl, rfl, hG⟩ := hrel
    obtain rfl : v = _ := hv.symm
    obtain ⟨hnx, hle⟩ := nP_next hM hk
    obtain ⟨A, hA⟩ : ∃ A, k * M = A := ⟨_, rfl⟩
    rw [hA] at hnx hle ⊢
    obtain ⟨R, hR⟩ : ∃ R, X.length - A = R := ⟨_, rfl⟩
    rw [hR]
    obtain ⟨kd, hkd⟩ : ∃ kd : Int, kdOf k = kd := ⟨_, rfl⟩
    obtain ⟨fg, hfg⟩ : ∃ fg : Int, fgOf k true = fg := ⟨_, rfl⟩
    rw [hkd, hfg]
    have HG : Hid (RGat w sid X true M k dp d v ls wr) := hG
    have HRD : Hid (R ≤ d) := by have := hG.cap; rw [hA, hR] at this; exact this
    have HLEN : Hid (ls.length = k) := hG.len
    have HKF : Hid (kdOf k = kd ∧ fgOf k true = fg ∧ 0 ≤ fg ∧ fg ≤ 1) := ⟨hkd, hfg, by rw [← hfg]; unfold fgOf; split <;> omega, by rw [← hfg]; unfold fgOf; split <;> omega⟩
    have HNX : Hid ((k + 1 < nP M X.length ↔ A + M < X.length) ∧ A ≤ X.length ∧ k < nP M X.length ∧ k * M = A ∧ X.length - A = R) := ⟨hnx, hle, hk, hA, hR⟩
    have hsrcA : SrcAt w dp (X.drop A) := by have := hG.src; rwa [hA] at this
    have hdl : (X.drop A).length = R := by rw [List.length_drop]; exact hR
    obtain ⟨n, hn⟩ : ∃ n, min M R = n := ⟨_, rfl⟩
    have HPC : Hid ((X.drop A).take n = piece M X k) := by show _ = _; rw [← hA]; exact piece_take (by rw [hA, hR]; exact hn.symm)
    have HPL : Hid ((piece M X k).length = n) := by show _ = _; rw [piece_length, hA, hR, hn]
    have HBN : Hid (n ≤ 225179981368371) := by have := HX.out; show _ ≤ _; omega
    have hcu := cutUpto dp R d n (by have := HRD.out; omega)
    obtain ⟨dp2, hcf, hsf⟩ := cutF dp R d n (X.drop A) hdl HRD.out (by omega)
    have HSP : Hid (SrcAt wr dp (piece M X k)) := by rw [← HPC.out]; exact (hsrcA.take n).oldF hG.fr
    have HS2 : Hid (SrcAt w dp2 (X.drop (A + n))) := by rw [← List.drop_drop]; exact hsf w hsrcA
    clear hsrcA hsf hG hdl hkd hfg
    by_cases hlast : R ≤ M
    · obtain rfl : n = R := by omega
      have m1 : (n : Int) ≤ (M : Int) := by omega
      have m2 : wrap64 (fg + 4) = fg + 4 := by have := HKF.out; unfold wrap64; omega
      have HLL : Hid (¬ k + 1 < nP M X.length) := by have := HNX.out; show ¬ _; rw [hnx]; omega
      rw [Nat.sub_self] at hcf
      clear hlast hn hnx hle hk hA hR
      go_upto_region 10 with (first | (refine wpList_gather (w0 := wr) rfl (.tmp 33) (.tmp 36) 22 22 rfl i8 Try.underlying22 Try.underlying22 E1.out E2.out E3.out E4.out (.slice (some ⟨wr.heap.size, 0, none⟩) 0 0) [] (by go_simp) (Gath.start (Fr.refl _ _)) dp n d (by go_simp) (piece M X k) (HSP.out.oldF ((Fr.refl _ _).alloc _)) HPL.out (by have := HBN.out; simpa using this) ?_; intro a3 n3 c3 w3 N3 G3 F3; have HG3 : Hid (Gath wr w3 (.slice a3 n3 c3) (piece M X k)) := G3; clear G3) | (refine wpList_storeB rfl 34 (.tmp 14) (.tmp 38) rfl w3.heap.size #[.int .i64 0, .int .i64 0, .int .i64 0, .slice none 0 0, .int .i64 0, .int .u32 0, .int .i64 0, .int .i64 0, .int .i64 0, .bool false, .int .i64 0, .slice none 0 0] #[.int .i64 kd, .int .i64 fg, .int .i64 sid, .slice a3 n3 c3, .int .i64 0, .int .u32 0, .int .i64 0, .int .i64 0, .int .i64 0, .bool false, .int .i64 0, .slice none 0 0] 34 rfl rfl (heap_alloc_new w3 _) rfl (by kernel_rfl) (by simp [Value.oneCell']) ?_; intro w4 H4 G4; obtain ⟨d0, d1, d2, d3, d4, d5, d6, d7, d8, d9, d10, d11⟩ := cells12 H4.out; have y1 : w4.frozen? ⟨w3.heap.size, 1, none⟩ = false := frozen_of_heap H4.out))
      go_upto_region 13 with (fail)
      obtain ⟨w5, hw5⟩ : ∃ w5, w5 = w4.setCell ⟨w3.heap.size, 1, none⟩ (.int .i64 (fg + 4)) := ⟨_, rfl⟩
      have H5 : Hid (w5.heap[w3.heap.size]? = some (.cells #[.int .i64 kd, .int .i64 (fg + 4), .int .i64 sid, .slice a3 n3 c3, .int .i64 0, .int .u32 0, .int .i64 0, .int .i64 0, .int .i64 0, .bool false, .int .i64 0, .slice none 0 0] 34 (0, 0))) := by
        show _ = _
        rw [hw5]
        have := heap_set1 (j := 1) (.int .i64 (fg + 4)) H4.out
        simpa using this
      have G5 : Hid (Fr (fun k => k = w3.heap.size) w4 w5) := by rw [hw5]; exact (Fr.refl _ _).setB _ _
      rw [← hw5]
      clear hw5 d0 d1 d2 d3 d4 d5 d6 d7 d8 d9 d10 d11 y1
      obtain ⟨d0, d1, d2, d3, d4, d5, d6, d7, d8, d9, d10, d11⟩ := cells12 H5.out
      have HN3 : Hid (n3 = (piece M X k).length) := by have := N3.out; show _ = _; rw [HPL.out]; simpa using this
      have HF34 : Hid (Fr (fun _ => False) wr w5) := ((HG3.out.2.2.mono (T := fun k => k = w3.heap.size) (fun _ _ e => e.elim)).trans (((Fr.refl _ _).alloc _).trans (G4.out.trans G5.out))).mono (fun k hk e => by have := HG3.out.2.2.size; omega)
      have HOW : Hid (OwnAt w5 5 (.slice a3 n3 c3) (bv (piece M X k))) := (HG3.out.1.fr (((Fr.refl (fun _ => False) _).alloc _)) (fun _ _ => id)).fr (G4.out.trans G5.out) (fun k hk e => by have := HG3.out.1.lt k hk; have e2 : k = w3.heap.size := e; omega)
      have HOA : Hid (OwnAt (w5.alloc (.cells #[.int .i64 kd, .int .i64 (fg + 4), .int .i64 sid, .slice a3 n3 c3, .int .i64 0, .int .u32 0, .int .i64 0, .int .i64 0, .int .i64 0, .bool false, .int .i64 0, .slice none 0 0] 34)) 5 (.slice a3 (piece M X k).length c3) (bv (piece M X k))) := cast (congrArg (fun t => OwnAt (w5.alloc (.cells #[.int .i64 kd, .int .i64 (fg + 4), .int .i64 sid, .slice a3 n3 c3, .int .i64 0, .int .u32 0, .int .i64 0, .int .i64 0, .int .i64 0, .bool false, .int .i64 0, .slice none 0 0] 34)) 5 (.slice a3 t c3) (bv (piece M X k))) HN3.out) (HOW.out.fr ((Fr.refl (fun _ => False) _).alloc _) (fun _ _ => id))
      have HNEW : Hid (∀ ad, a3 = some ad → w.heap.size ≤ ad.block) := fun ad e => Nat.le_trans HG.out.fr.size (HG3.out.new ad e)
      have HFRS : Hid (Frs w.heap.size (w5.alloc (.cells #[.int .i64 kd, .int .i64 (fg + 4), .int .i64 sid, .slice a3 n3 c3, .int .i64 0, .int .u32 0, .int .i64 0, .int .i64 0, .int .i64 0, .bool false, .int .i64 0, .slice none 0 0] 34)) v ls) := (HG.out.frs.later HF34.out).later ((Fr.refl _ _).alloc _)
      have HR5 : Hid ((w5.alloc (.cells #[.int .i64 kd, .int .i64 (fg + 4), .int .i64 sid, .slice a3 n3 c3, .int .i64 0, .int .u32 0, .int .i64 0, .int .i64 0, .int .i64 0, .bool false, .int .i64 0, .slice none 0 0] 34)).ownsRow 0 34 12 v ls.length (frows ls)) := HFRS.out.row
      have HNW : Hid (∀ (j : Nat) u, ([.int .i64 kd, .int .i64 (fg + 4), .int .i64 sid, .slice a3 n3 c3, .int .i64 0, .int .u32 0, .int .i64 0, .int .i64 0, .int .i64 0, .bool false, .int .i64 0, .slice none 0 0] : List Value)[j]? = some u → (w5.alloc (.cells #[.int .i64 kd, .int .i64 (fg + 4), .int .i64 sid, .slice a3 n3 c3, .int .i64 0, .int .u32 0, .int .i64 0, .int .i64 0, .int .i64 0, .bool false, .int .i64 0, .slice none 0 0] 34)).cell? ((⟨w5.heap.size, 0, none⟩ : Addr).add j) = some u) := fun j u hj => by
        rw [add_none, Nat.zero_add]
        exact cell_of_heap (heap_alloc_new w5 _) (by rw [← Array.getElem?_toList]; exact hj)
      have HON : Hid (∀ u ∈ ([.int .i64 kd, .int .i64 (fg + 4), .int .i64 sid, .slice a3 n3 c3, .int .i64 0, .int .u32 0, .int .i64 0, .int .i64 0, .int .i64 0, .bool false, .int .i64 0, .slice none 0 0] : List Value), u.oneCell' = true) := by
        intro u hu
        simp only [List.mem_cons, List.not_mem_nil, or_false] at hu
        rcases hu with h | h | h | h | h | h | h | h | h | h | h | h <;> subst h <;> rfl
      have HFR5 : Hid (Fr (fun _ => False) w (w5.alloc (.cells #[.int .i64 kd, .int .i64 (fg + 4), .int .i64 sid, .slice a3 n3 c3, .int .i64 0, .int .u32 0, .int .i64 0, .int .i64 0, .int .i64 0, .bool false, .int .i64 0, .slice none 0 0] 34))) := (HG.out.fr.trans HF34.out).alloc _
      have HW5 : Hid (w.heap.size ≤ (w5.alloc (.cells #[.int .i64 kd, .int .i64 (fg + 4), .int .i64 sid, .slice a3 n3 c3, .int .i64 0, .int .u32 0, .int .i64 0, .int .i64 0, .int .i64 0, .bool false, .int .i64 0, .slice none 0 0] 34)).heap.size) := HFR5.out.size
      clear H4 G4 G5
      go_wp2_with (refine wpList_append_wide2 rfl (.tmp 49) (.tmp 51) 24 rfl 34 i5 frameZ 12 128 Try.underlying24 I1.out I2.out I3.out I4.out rfl (by decide) v ls.length (frows ls) (by go_simp) HR5.out ⟨w5.heap.size, 0, none⟩ 1 1 ([.int .i64 kd, .int .i64 (fg + 4), .int .i64 sid, .slice a3 n3 c3, .int .i64 0, .int .u32 0, .int .i64 0, .int .i64 0, .int .i64 0, .bool false, .int .i64 0, .slice none 0 0] : List Value) (by go_simp) (by decide) rfl HNW.out HON.out (by have := HX.out; have := HLEN.out; have := HNX.out; unfold maxLen; omega) (by have := HX.out; have := HLEN.out; have := HNX.out; omega) ?_; intro a7 n7 c7 w7 N7 O7 F7 K7)
      obtain ⟨z, hz⟩ : ∃ z : FM, z = (splitF sid X true M (nP M X.length) k, a3, c3, none, 0) := ⟨_, rfl⟩
      have hfcl : fcl z = ([.int .i64 kd, .int .i64 (fg + 4), .int .i64 sid, .slice a3 n3 c3, .int .i64 0, .int .u32 0, .int .i64 0, .int .i64 0, .int .i64 0, .bool false, .int .i64 0, .slice none 0 0] : List Value) := by rw [hz]; exact fcl_split HKF.out.1 (by rw [if_pos (nP_end hM HNX.out.2.2.1 HLL.out), HKF.out.2.1]) HN3.out
      have hfrs : Frs w.heap.size w7 (.slice a7 n7 c7) (ls ++ [z]) := HFRS.out.add (by rw [hz]; exact ⟨HOA.out, rfl, HNEW.out⟩) (by rw [hfcl]; exact O7.out) F7.out (by
        rcases K7.out with e | e
        · exact .inl e
        · exact .inr ⟨_, e, HW5.out⟩)
      have hn7 : n7 = ls.length + 1 := N7.out
      have hll : (ls ++ [z]).length = ls.length + 1 := by simp
      obtain ⟨g7, e7⟩ : ∃ g7, a7 = some ⟨g7, 0, none⟩ := by
        rcases O7.out.2 with ⟨e, -⟩ | ⟨g, cap, cur, e, -⟩
        · cases e; omega
        · cases e; exact ⟨g, rfl⟩
      subst e7
      subst hn7
      go_ret2
      refine ⟨g7, c7, ls ++ [z], by rw [hll]; rfl, ?_, ?_, by rw [hll]; exact hfrs, ?_⟩
      · rw [hll, HLEN.out]; exact nP_end hM HNX.out.2.2.1 HLL.out
      · exact all_snoc HG.out.all HLEN.out (by rw [hz])
      · exact ((HFR5.out.mono (T := fun k => w.heap.size ≤ k) (fun _ _ e => e.elim)).trans (F7.out.mono (fun k _ e => HFRS.out.new k e))).mono (fun k hk e => by omega)
    · obtain rfl : n = M := by omega
      have m1 : ¬ (R : Int) ≤ (n : Int) := by omega
      obtain ⟨R2, hR2⟩ : ∃ R2, R - n = R2 + 1 := ⟨R - n - 1, by omega⟩
      have HR2 : Hid (R - n = R2 + 1) := hR2
      have HLL : Hid (k + 1 < nP n X.length) := by have := HNX.out; show _ < _; rw [hnx]; omega
      rw [hR2] at hcf
      clear hlast hn hnx hle hk hA hR hR2
      go_upto_region 10 with (first | (refine wpList_gather (w0 := wr) rfl (.tmp 33) (.tmp 36) 22 22 rfl i8 Try.underlying22 Try.underlying22 E1.out E2.out E3.out E4.out (.slice (some ⟨wr.heap.size, 0, none⟩) 0 0) [] (by go_simp) (Gath.start (Fr.refl _ _)) dp n d (by go_simp) (piece n X k) (HSP.out.oldF ((Fr.refl _ _).alloc _)) HPL.out (by have := HBN.out; simpa using this) ?_; intro a3 n3 c3 w3 N3 G3 F3; have HG3 : Hid (Gath wr w3 (.slice a3 n3 c3) (piece n X k)) := G3; clear G3) | (refine wpList_storeB rfl 34 (.tmp 14) (.tmp 38) rfl w3.heap.size #[.int .i64 0, .int .i64 0, .int .i64 0, .slice none 0 0, .int .i64 0, .int .u32 0, .int .i64 0, .int .i64 0, .int .i64 0, .bool false, .int .i64 0, .slice none 0 0] #[.int .i64 kd, .int .i64 fg, .int .i64 sid, .slice a3 n3 c3, .int .i64 0, .int .u32 0, .int .i64 0, .int .i64 0, .int .i64 0, .bool false, .int .i64 0, .slice none 0 0] 34 rfl rfl (heap_alloc_new w3 _) rfl (by kernel_rfl) (by simp [Value.oneCell']) ?_; intro w4 H4 G4; obtain ⟨d0, d1, d2, d3, d4, d5, d6, d7, d8, d9, d10, d11⟩ := cells12 H4.out; have y1 : w4.frozen? ⟨w3.heap.size, 1, none⟩ = false := frozen_of_heap H4.out))
      go_upto_region 14 with (fail)
      obtain ⟨w5, hw5⟩ : ∃ w5, w5 = w4 := ⟨_, rfl⟩
      have H5 : Hid (w5.heap[w3.heap.size]? = some (.cells #[.int .i64 kd, .int .i64 fg, .int .i64 sid, .slice a3 n3 c3, .int .i64 0, .int .u32 0, .int .i64 0, .int .i64 0, .int .i64 0, .bool false, .int .i64 0, .slice none 0 0] 34 (0, 0))) := by rw [hw5]; exact H4.out
      have G5 : Hid (Fr (fun k => k = w3.heap.size) w4 w5) := by rw [hw5]; exact Fr.refl _ _
      rw [← hw5]
      clear hw5 d0 d1 d2 d3 d4 d5 d6 d7 d8 d9 d10 d11 y1
      obtain ⟨d0, d1, d2, d3, d4, d5, d6, d7, d8, d9, d10, d11⟩ := cells12 H5.out
      have HN3 : Hid (n3 = (piece n X k).length) := by have := N3.out; show _ = _; rw [HPL.out]; simpa using this
      have HF34 : Hid (Fr (fun _ => False) wr w5) := ((HG3.out.2.2.mono (T := fun k => k = w3.heap.size) (fun _ _ e => e.elim)).trans (((Fr.refl _ _).alloc _).trans (G4.out.trans G5.out))).mono (fun k hk e => by have := HG3.out.2.2.size; omega)
      have HOW : Hid (OwnAt w5 5 (.slice a3 n3 c3) (bv (piece n X k))) := (HG3.out.1.fr (((Fr.refl (fun _ => False) _).alloc _)) (fun _ _ => id)).fr (G4.out.trans G5.out) (fun k hk e => by have := HG3.out.1.lt k hk; have e2 : k = w3.heap.size := e; omega)
      have HOA : Hid (OwnAt (w5.alloc (.cells #[.int .i64 kd, .int .i64 fg, .int .i64 sid, .slice a3 n3 c3, .int .i64 0, .int .u32 0, .int .i64 0, .int .i64 0, .int .i64 0, .bool false, .int .i64 0, .slice none 0 0] 34)) 5 (.slice a3 (piece n X k).length c3) (bv (piece n X k))) := cast (congrArg (fun t => OwnAt (w5.alloc (.cells #[.int .i64 kd, .int .i64 fg, .int .i64 sid, .slice a3 n3 c3, .int .i64 0, .int .u32 0, .int .i64 0, .int .i64 0, .int .i64 0, .bool false, .int .i64 0, .slice none 0 0] 34)) 5 (.slice a3 t c3) (bv (piece n X k))) HN3.out) (HOW.out.fr ((Fr.refl (fun _ => False) _).alloc _) (fun _ _ => id))
      have HNEW : Hid (∀ ad, a3 = some ad → w.heap.size ≤ ad.block) := fun ad e => Nat.le_trans HG.out.fr.size (HG3.out.new ad e)
      have HFRS : Hid (Frs w.heap.size (w5.alloc (.cells #[.int .i64 kd, .int .i64 fg, .int .i64 sid, .slice a3 n3 c3, .int .i64 0, .int .u32 0, .int .i64 0, .int .i64 0, .int .i64 0, .bool false, .int .i64 0, .slice none 0 0] 34)) v ls) := (HG.out.frs.later HF34.out).later ((Fr.refl _ _).alloc _)
      have HR5 : Hid ((w5.alloc (.cells #[.int .i64 kd, .int .i64 fg, .int .i64 sid, .slice a3 n3 c3, .int .i64 0, .int .u32 0, .int .i64 0, .int .i64 0, .int .i64 0, .bool false, .int .i64 0, .slice none 0 0] 34)).ownsRow 0 34 12 v ls.length (frows ls)) := HFRS.out.row
      have HNW : Hid (∀ (j : Nat) u, ([.int .i64 kd, .int .i64 fg, .int .i64 sid, .slice a3 n3 c3, .int .i64 0, .int .u32 0, .int .i64 0, .int .i64 0, .int .i64 0, .bool false, .int .i64 0, .slice none 0 0] : List Value)[j]? = some u → (w5.alloc (.cells #[.int .i64 kd, .int .i64 fg, .int .i64 sid, .slice a3 n3 c3, .int .i64 0, .int .u32 0, .int .i64 0, .int .i64 0, .int .i64 0, .bool false, .int .i64 0, .slice none 0 0] 34)).cell? ((⟨w5.heap.size, 0, none⟩ : Addr).add j) = some u) := fun j u hj => by
        rw [add_none, Nat.zero_add]
        exact cell_of_heap (heap_alloc_new w5 _) (by rw [← Array.getElem?_toList]; exact hj)
      have HON : Hid (∀ u ∈ ([.int .i64 kd, .int .i64 fg, .int .i64 sid, .slice a3 n3 c3, .int .i64 0, .int .u32 0, .int .i64 0, .int .i64 0, .int .i64 0, .bool false, .int .i64 0, .slice none 0 0] : List Value), u.oneCell' = true) := by
        intro u hu
        simp only [List.mem_cons, List.not_mem_nil, or_false] at hu
        rcases hu with h | h | h | h | h | h | h | h | h | h | h | h <;> subst h <;> rfl
      have HFR5 : Hid (Fr (fun _ => False) w (w5.alloc (.cells #[.int .i64 kd, .int .i64 fg, .int .i64 sid, .slice a3 n3 c3, .int .i64 0, .int .u32 0, .int .i64 0, .int .i64 0, .int .i64 0, .bool false, .int .i64 0, .slice none 0 0] 34))) := (HG.out.fr.trans HF34.out).alloc _
      have HW5 : Hid (w.heap.size ≤ (w5.alloc (.cells #[.int .i64 kd, .int .i64 fg, .int .i64 sid, .slice a3 n3 c3, .int .i64 0, .int .u32 0, .int .i64 0, .int .i64 0, .int .i64 0, .bool false, .int .i64 0, .slice none 0 0] 34)).heap.size) := HFR5.out.size
      clear H4 G4 G5
      go_wp2_with (refine wpList_append_wide2 rfl (.tmp 53) (.tmp 55) 24 rfl 34 i5 frameZ 12 128 Try.underlying24 I1.out I2.out I3.out I4.out rfl (by decide) v ls.length (frows ls) (by go_simp) HR5.out ⟨w5.heap.size, 0, none⟩ 1 1 ([.int .i64 kd, .int .i64 fg, .int .i64 sid, .slice a3 n3 c3, .int .i64 0, .int .u32 0, .int .i64 0, .int .i64 0, .int .i64 0, .bool false, .int .i64 0, .slice none 0 0] : List Value) (by go_simp) (by decide) rfl HNW.out HON.out (by have := HX.out; have := HLEN.out; have := HNX.out; unfold maxLen; omega) (by have := HX.out; have := HLEN.out; have := HNX.out; omega) ?_; intro a7 n7 c7 w7 N7 O7 F7 K7)
      obtain ⟨z, hz⟩ : ∃ z : FM, z = (splitF sid X true n (nP n X.length) k, a3, c3, none, 0) := ⟨_, rfl⟩
      have hfcl : fcl z = ([.int .i64 kd, .int .i64 fg, .int .i64 sid, .slice a3 n3 c3, .int .i64 0, .int .u32 0, .int .i64 0, .int .i64 0, .int .i64 0, .bool false, .int .i64 0, .slice none 0 0] : List Value) := by rw [hz]; exact fcl_split HKF.out.1 (by rw [if_neg (by have := HLL.out; omega), HKF.out.2.1]; omega) HN3.out
      have hfrs : Frs w.heap.size w7 (.slice a7 n7 c7) (ls ++ [z]) := HFRS.out.add (by rw [hz]; exact ⟨HOA.out, rfl, HNEW.out⟩) (by rw [hfcl]; exact O7.out) F7.out (by
        rcases K7.out with e | e
        · exact .inl e
        · exact .inr ⟨_, e, HW5.out⟩)
      have hll : (ls ++ [z]).length = ls.length + 1 := by simp
      have hfr7 : Fr (fun _ => False) w w7 := ((HFR5.out.mono (T := fun k => w.heap.size ≤ k) (fun _ _ e => e.elim)).trans (F7.out.mono (fun k _ e => HFRS.out.new k e))).mono (fun k hk e => by omega)
      go_roundw
      case rel =>
        obtain ⟨b1, b2, b3, b4, b5⟩ := HNX.out
        have b6 := HR2.out
        have b7 : (k + 1) * n = A + n := by rw [Nat.succ_mul, b4]
        refine ⟨k + 1, dp2, d - n, .slice a7 n7 c7, ls ++ [z], HLL.out, ?_, rfl, rfl, rfl, ⟨?_, ?_, hfrs, ?_, ?_, hfr7⟩⟩
        · rw [b7, show X.length - (A + n) = R2 + 1 by omega]
        · rw [b7]; exact HS2.out
        · rw [b7]; have := HRD.out; omega
        · rw [hll, HLEN.out]
        · exact all_snoc HG.out.all HLEN.out (by rw [hz])
      case measure => simp only [slLen]; have := HR2.out; omega
theorem rSplit_false (sid : Int) (X : List UInt8) (M : Nat) (p : Option Addr) (c : Nat) (w : World) (h1 : 1 ≤ sid) (h2 : sid ≤ 2147483647) (hM : 1 ≤ M) (hM2 : M ≤ 9223372036854775807) (hX : X.length < 2 ^ 47) (hc : X.length ≤ c) (hs : SrcAt w p X) (hN : nP M X.length ≤ 6000) :
    Calls Try.prog 11 #[.int .i64 sid, .slice p X.length c, .bool false, .int .i64 (M : Int)] w fun e w' => SplitAs w sid X false M (fun _ => .int .i64 0) e w' := by
  have hM3 : ¬ (M : Int) < 1 := by omega
  have HG0 : Hid (RGat w sid X false M 0 p c (.slice none 0 0) [] w) := ⟨by simpa using hs, by simpa using hc, Frs.nil _ _, rfl, fun j z hj => by simp at hj, Fr.refl _ _⟩
  obtain ⟨i8, e1, e2, e3, e4⟩ := info5
  have E1 : Hid (Try.prog.info? 5 = some i8) := e1
  have E2 : Hid (i8.zero = some (.int .u8 0)) := e2
  have E3 : Hid (i8.size = 1) := e3
  have E4 : Hid (i8.bytes = 1) := e4
  obtain ⟨i5, i1, i2, i3, i4⟩ := info_frame
  have I1 : Hid (Try.prog.info? 34 = some i5) := i1
  have I2 : Hid (i5.zero = some frameZ) := i2
  have I3 : Hid (i5.size = 12) := i3
  have I4 : Hid (i5.bytes = 128) := i4
  have HX : Hid (X.length < 2 ^ 47 ∧ nP M X.length ≤ 6000) := ⟨hX, hN⟩
  clear hs e1 e2 e3 e4 i1 i2 i3 i4 hX hc hN
  go_enter Try.func11, Try.ntmps11
  go_wp2
  go_loopw [1, 10, 11, 12] (fun x1 x10 x11 x12 wr => ∃ (k : Nat) (dp : Option Addr) (d : Nat) (v : Value) (ls : List FM), k < nP M X.length ∧ x1 = .slice dp (X.length - k * M) d ∧ x10 = v ∧ x11 = .int .i64 (kdOf k) ∧ x12 = .int .i64 (fgOf k false) ∧ RGat w sid X false M k dp d v ls wr)
    (fun x1 x10 x11 x12 wr => slLen x1)
  case atStart => exact ⟨0, p, c, _, [], Nat.succ_pos _, by simp, rfl, rfl, rfl, HG0.out⟩
  case round =>
    obtain ⟨k, dp, d, v, ls, hk, rfl, hv, rfl, rfl, hG⟩ := hrel
    obtain rfl : v = _ := hv.symm
    obtain ⟨hnx, hle⟩ := nP_next hM hk
    obtain ⟨A, hA⟩ : ∃ A, k * M = A := ⟨_, rfl⟩
    rw [hA] at hnx hle ⊢
    obtain ⟨R, hR⟩ : ∃ R, X.length - A = R := ⟨_, rfl⟩
    rw [hR]
    obtain ⟨kd, hkd⟩ : ∃ kd : Int, kdOf k = kd := ⟨_, rfl⟩
    obtain ⟨fg, hfg⟩ : ∃ fg : Int, fgOf k false = fg := ⟨_, rfl⟩
    rw [hkd, hfg]
    have HG : Hid (RGat w sid X false M k dp d v ls wr) := hG
    have HRD : Hid (R ≤ d) := by have := hG.cap; rw [hA, hR] at this; exact this
    have HLEN : Hid (ls.length = k) := hG.len
    have HKF : Hid (kdOf k = kd ∧ fgOf k false = fg ∧ 0 ≤ fg ∧ fg ≤ 1) := ⟨hkd, hfg, by rw [← hfg]; unfold fgOf; split <;> omega, by rw [← hfg]; unfold fgOf; split <;> omega⟩
    have HNX : Hid ((k + 1 < nP M X.length ↔ A + M < X.length) ∧ A ≤ X.length ∧ k < nP M X.length ∧ k * M = A ∧ X.length - A = R) := ⟨hnx, hle, hk, hA, hR⟩
    have hsrcA : SrcAt w dp (X.drop A) := by have := hG.src; rwa [hA] at this
    have hdl : (X.drop A).length = R := by rw [List.length_drop]; exact hR
    obtain ⟨n, hn⟩ : ∃ n, min M R = n := ⟨_, rfl⟩
    have HPC : Hid ((X.drop A).take n = piece M X k) := by show _ = _; rw [← hA]; exact piece_take (by rw [hA, hR]; exact hn.symm)
    have HPL : Hid ((piece M X k).length = n) := by show _ = _; rw [piece_length, hA, hR, hn]
    have HBN : Hid (n ≤ 225179981368371) := by have := HX.out; show _ ≤ _; omega
    have hcu := cutUpto dp R d n (by have := HRD.out; omega)
    obtain ⟨dp2, hcf, hsf⟩ := cutF dp R d n (X.drop A) hdl HRD.out (by omega)
    have HSP : Hid (SrcAt wr dp (piece M X k)) := by rw [← HPC.out]; exact (hsrcA.take n).oldF hG.fr
    have HS2 : Hid (SrcAt w dp2 (X.drop (A + n))) := by rw [← List.drop_drop]; exact hsf w hsrcA
    clear hsrcA hsf hG hdl hkd hfg
    by_cases hlast : R ≤ M
    · obtain rfl : n = R := by omega
      have m1 : (n : Int) ≤ (M : Int) := by omega
      have m2 : wrap64 (fg + 4) = fg + 4 := by have := HKF.out; unfold wrap64; omega
      have HLL : Hid (¬ k + 1 < nP M X.length) := by have := HNX.out; show ¬ _; rw [hnx]; omega
      rw [Nat.sub_self] at hcf
      clear hlast hn hnx hle hk hA hR
      go_upto_region 10 with (first | (refine wpList_gather (w0 := wr) rfl (.tmp 33) (.tmp 36) 22 22 rfl i8 Try.underlying22 Try.underlying22 E1.out E2.out E3.out E4.out (.slice (some ⟨wr.heap.size, 0, none⟩) 0 0) [] (by go_simp) (Gath.start (Fr.refl _ _)) dp n d (by go_simp) (piece M X k) (HSP.out.oldF ((Fr.refl _ _).alloc _)) HPL.out (by have := HBN.out; simpa using this) ?_; intro a3 n3 c3 w3 N3 G3 F3; have HG3 : Hid (Gath wr w3 (.slice a3 n3 c3) (piece M X k)) := G3; clear G3) | (refine wpList_storeB rfl 34 (.tmp 14) (.tmp 38) rfl w3.heap.size #[.int .i64 0, .int .i64 0, .int .i64 0, .slice none 0 0, .int .i64 0, .int .u32 0, .int .i64 0, .int .i64 0, .int .i64 0, .bool false, .int .i64 0, .slice none 0 0] #[.int .i64 kd, .int .i64 fg, .int .i64 sid, .slice a3 n3 c3, .int .i64 0, .int .u32 0, .int .i64 0, .int .i64 0, .int .i64 0, .bool false, .int .i64 0, .slice none 0 0] 34 rfl rfl (heap_alloc_new w3 _) rfl (by kernel_rfl) (by simp [Value.oneCell']) ?_; intro w4 H4 G4; obtain ⟨d0, d1, d2, d3, d4, d5, d6, d7, d8, d9, d10, d11⟩ := cells12 H4.out; have y1 : w4.frozen? ⟨w3.heap.size, 1, none⟩ = false := frozen_of_heap H4.out))
      go_upto_region 13 with (fail)
      obtain ⟨w5, hw5⟩ : ∃ w5, w5 = w4.setCell ⟨w3.heap.size, 1, none⟩ (.int .i64 (fg + 4)) := ⟨_, rfl⟩
      have H5 : Hid (w5.heap[w3.heap.size]? = some (.cells #[.int .i64 kd, .int .i64 (fg + 4), .int .i64 sid, .slice a3 n3 c3, .int .i64 0, .int .u32 0, .int .i64 0, .int .i64 0, .int .i64 0, .bool false, .int .i64 0, .slice none 0 0] 34 (0, 0))) := by
        show _ = _
        rw [hw5]
        have := heap_set1 (j := 1) (.int .i64 (fg + 4)) H4.out
        simpa using this
      have G5 : Hid (Fr (fun k => k = w3.heap.size) w4 w5) := by rw [hw5]; exact (Fr.refl _ _).setB _ _
      rw [← hw5]
      clear hw5 d0 d1 d2 d3 d4 d5 d6 d7 d8 d9 d10 d11 y1
      obtain ⟨d0, d1, d2, d3, d4, d5, d6, d7, d8, d9, d10, d11⟩ := cells12 H5.out
      have HN3 : Hid (n3 = (piece M X k).length) := by have := N3.out; show _ = _; rw [HPL.out]; simpa using this
      have HF34 : Hid (Fr (fun _ => False) wr w5) := ((HG3.out.2.2.mono (T := fun k => k = w3.heap.size) (fun _ _ e => e.elim)).trans (((Fr.refl _ _).alloc _).trans (G4.out.trans G5.out))).mono (fun k hk e => by have := HG3.out.2.2.size; omega)
      have HOW : Hid (OwnAt w5 5 (.slice a3 n3 c3) (bv (piece M X k))) := (HG3.out.1.fr (((Fr.refl (fun _ => False) _).alloc _)) (fun _ _ => id)).fr (G4.out.trans G5.out) (fun k hk e => by have := HG3.out.1.lt k hk; have e2 : k = w3.heap.size := e; omega)
      have HOA : Hid (OwnAt (w5.alloc (.cells #[.int .i64 kd, .int .i64 (fg + 4), .int .i64 sid, .slice a3 n3 c3, .int .i64 0, .int .u32 0, .int .i64 0, .int .i64 0, .int .i64 0, .bool false, .int .i64 0, .slice none 0 0] 34)) 5 (.slice a3 (piece M X k).length c3) (bv (piece M X k))) := cast (congrArg (fun t => OwnAt (w5.alloc (.cells #[.int .i64 kd, .int .i64 (fg + 4), .int .i64 sid, .slice a3 n3 c3, .int .i64 0, .int .u32 0, .int .i64 0, .int .i64 0, .int .i64 0, .bool false, .int .i64 0, .slice none 0 0] 34)) 5 (.slice a3 t c3) (bv (piece M X k))) HN3.out) (HOW.out.fr ((Fr.refl (fun _ => False) _).alloc _) (fun _ _ => id))
      have HNEW : Hid (∀ ad, a3 = some ad → w.heap.size ≤ ad.block) := fun ad e => Nat.le_trans HG.out.fr.size (HG3.out.new ad e)
      have HFRS : Hid (Frs w.heap.size (w5.alloc (.cells #[.int .i64 kd, .int .i64 (fg + 4), .int .i64 sid, .slice a3 n3 c3, .int .i64 0, .int .u32 0, .int .i64 0, .int .i64 0, .int .i64 0, .bool false, .int .i64 0, .slice none 0 0] 34)) v ls) := (HG.out.frs.later HF34.out).later ((Fr.refl _ _).alloc _)
      have HR5 : Hid ((w5.alloc (.cells #[.int .i64 kd, .int .i64 (fg + 4), .int .i64 sid, .slice a3 n3 c3, .int .i64 0, .int .u32 0, .int .i64 0, .int .i64 0, .int .i64 0, .bool false, .int .i64 0, .slice none 0 0] 34)).ownsRow 0 34 12 v ls.length (frows ls)) := HFRS.out.row
      have HNW : Hid (∀ (j : Nat) u, ([.int .i64 kd, .int .i64 (fg + 4), .int .i64 sid, .slice a3 n3 c3, .int .i64 0, .int .u32 0, .int .i64 0, .int .i64 0, .int .i64 0, .bool false, .int .i64 0, .slice none 0 0] : List Value)[j]? = some u → (w5.alloc (.cells #[.int .i64 kd, .int .i64 (fg + 4), .int .i64 sid, .slice a3 n3 c3, .int .i64 0, .int .u32 0, .int .i64 0, .int .i64 0, .int .i64 0, .bool false, .int .i64 0, .slice none 0 0] 34)).cell? ((⟨w5.heap.size, 0, none⟩ : Addr).add j) = some u) := fun j u hj => by
        rw [add_none, Nat.zero_add]
        exact cell_of_heap (heap_alloc_new w5 _) (by rw [← Array.getElem?_toList]; exact hj)
      have HON : Hid (∀ u ∈ ([.int .i64 kd, .int .i64 (fg + 4), .int .i64 sid, .slice a3 n3 c3, .int .i64 0, .int .u32 0, .int .i64 0, .int .i64 0, .int .i64 0, .bool false, .int .i64 0, .slice none 0 0] : List Value), u.oneCell' = true) := by
        intro u hu
        simp only [List.mem_cons, List.not_mem_nil, or_false] at hu
        rcases hu with h | h | h | h | h | h | h | h | h | h | h | h <;> subst h <;> rfl
      have HFR5 : Hid (Fr (fun _ => False) w (w5.alloc (.cells #[.int .i64 kd, .int .i64 (fg + 4), .int .i64 sid, .slice a3 n3 c3, .int .i64 0, .int .u32 0, .int .i64 0, .int .i64 0, .int .i64 0, .bool false, .int .i64 0, .slice none 0 0] 34))) := (HG.out.fr.trans HF34.out).alloc _
      have HW5 : Hid (w.heap.size ≤ (w5.alloc (.cells #[.int .i64 kd, .int .i64 (fg + 4), .int .i64 sid, .slice a3 n3 c3, .int .i64 0, .int .u32 0, .int .i64 0, .int .i64 0, .int .i64 0, .bool false, .int .i64 0, .slice none 0 0] 34)).heap.size) := HFR5.out.size
      clear H4 G4 G5
      go_wp2_with (refine wpList_append_wide2 rfl (.tmp 49) (.tmp 51) 24 rfl 34 i5 frameZ 12 128 Try.underlying24 I1.out I2.out I3.out I4.out rfl (by decide) v ls.length (frows ls) (by go_simp) HR5.out ⟨w5.heap.size, 0, none⟩ 1 1 ([.int .i64 kd, .int .i64 (fg + 4), .int .i64 sid, .slice a3 n3 c3, .int .i64 0, .int .u32 0, .int .i64 0, .int .i64 0, .int .i64 0, .bool false, .int .i64 0, .slice none 0 0] : List Value) (by go_simp) (by decide) rfl HNW.out HON.out (by have := HX.out; have := HLEN.out; have := HNX.out; unfold maxLen; omega) (by have := HX.out; have := HLEN.out; have := HNX.out; omega) ?_; intro a7 n7 c7 w7 N7 O7 F7 K7)
      obtain ⟨z, hz⟩ : ∃ z : FM, z = (splitF sid X false M (nP M X.length) k, a3, c3, none, 0) := ⟨_, rfl⟩
      have hfcl : fcl z = ([.int .i64 kd, .int .i64 (fg + 4), .int .i64 sid, .slice a3 n3 c3, .int .i64 0, .int .u32 0, .int .i64 0, .int .i64 0, .int .i64 0, .bool false, .int .i64 0, .slice none 0 0] : List Value) := by rw [hz]; exact fcl_split HKF.out.1 (by rw [if_pos (nP_end hM HNX.out.2.2.1 HLL.out), HKF.out.2.1]) HN3.out
      have hfrs : Frs w.heap.size w7 (.slice a7 n7 c7) (ls ++ [z]) := HFRS.out.add (by rw [hz]; exact ⟨HOA.out, rfl, HNEW.out⟩) (by rw [hfcl]; exact O7.out) F7.out (by
        rcases K7.out with e | e
        · exact .inl e
        · exact .inr ⟨_, e, HW5.out⟩)
      have hn7 : n7 = ls.length + 1 := N7.out
      have hll : (ls ++ [z]).length = ls.length + 1 := by simp
      obtain ⟨g7, e7⟩ : ∃ g7, a7 = some ⟨g7, 0, none⟩ := by
        rcases O7.out.2 with ⟨e, -⟩ | ⟨g, cap, cur, e, -⟩
        · cases e; omega
        · cases e; exact ⟨g, rfl⟩
      subst e7
      subst hn7
      go_ret2
      refine ⟨g7, c7, ls ++ [z], by rw [hll]; rfl, ?_, ?_, by rw [hll]; exact hfrs, ?_⟩
      · rw [hll, HLEN.out]; exact nP_end hM HNX.out.2.2.1 HLL.out
      · exact all_snoc HG.out.all HLEN.out (by rw [hz])
      · exact ((HFR5.out.mono (T := fun k => w.heap.size ≤ k) (fun _ _ e => e.elim)).trans (F7.out.mono (fun k _ e => HFRS.out.new k e))).mono (fun k hk e => by omega)
    · obtain rfl : n = M := by omega
      have m1 : ¬ (R : Int) ≤ (n : Int) := by omega
      obtain ⟨R2, hR2⟩ : ∃ R2, R - n = R2 + 1 := ⟨R - n - 1, by omega⟩
      have HR2 : Hid (R - n = R2 + 1) := hR2
      have HLL : Hid (k + 1 < nP n X.length) := by have := HNX.out; show _ < _; rw [hnx]; omega
      rw [hR2] at hcf
      clear hlast hn hnx hle hk hA hR hR2
      go_upto_region 10 with (first | (refine wpList_gather (w0 := wr) rfl (.tmp 33) (.tmp 36) 22 22 rfl i8 Try.underlying22 Try.underlying22 E1.out E2.out E3.out E4.out (.slice (some ⟨wr.heap.size, 0, none⟩) 0 0) [] (by go_simp) (Gath.start (Fr.refl _ _)) dp n d (by go_simp) (piece n X k) (HSP.out.oldF ((Fr.refl _ _).alloc _)) HPL.out (by have := HBN.out; simpa using this) ?_; intro a3 n3 c3 w3 N3 G3 F3; have HG3 : Hid (Gath wr w3 (.slice a3 n3 c3) (piece n X k)) := G3; clear G3) | (refine wpList_storeB rfl 34 (.tmp 14) (.tmp 38) rfl w3.heap.size #[.int .i64 0, .int .i64 0, .int .i64 0, .slice none 0 0, .int .i64 0, .int .u32 0, .int .i64 0, .int .i64 0, .int .i64 0, .bool false, .int .i64 0, .slice none 0 0] #[.int .i64 kd, .int .i64 fg, .int .i64 sid, .slice a3 n3 c3, .int .i64 0, .int .u32 0, .int .i64 0, .int .i64 0, .int .i64 0, .bool false, .int .i64 0, .slice none 0 0] 34 rfl rfl (heap_alloc_new w3 _) rfl (by kernel_rfl) (by simp [Value.oneCell']) ?_; intro w4 H4 G4; obtain ⟨d0, d1, d2, d3, d4, d5, d6, d7, d8, d9, d10, d11⟩ := cells12 H4.out; have y1 : w4.frozen? ⟨w3.heap.size, 1, none⟩ = false := frozen_of_heap H4.out))
      go_upto_region 14 with (fail)
      obtain ⟨w5, hw5⟩ : ∃ w5, w5 = w4 := ⟨_, rfl⟩
      have H5 : Hid (w5.heap[w3.heap.size]? = some (.cells #[.int .i64 kd, .int .i64 fg, .int .i64 sid, .slice a3 n3 c3, .int .i64 0, .int .u32 0, .int .i64 0, .int .i64 0, .int .i64 0, .bool false, .int .i64 0, .slice none 0 0] 34 (0, 0))) := by rw [hw5]; exact H4.out
      have G5 : Hid (Fr (fun k => k = w3.heap.size) w4 w5) := by rw [hw5]; exact Fr.refl _ _
      rw [← hw5]
      clear hw5 d0 d1 d2 d3 d4 d5 d6 d7 d8 d9 d10 d11 y1
      obtain ⟨d0, d1, d2, d3, d4, d5, d6, d7, d8, d9, d10, d11⟩ := cells12 H5.out
      have HN3 : Hid (n3 = (piece n X k).length) := by have := N3.out; show _ = _; rw [HPL.out]; simpa using this
      have HF34 : Hid (Fr (fun _ => False) wr w5) := ((HG3.out.2.2.mono (T := fun k => k = w3.heap.size) (fun _ _ e => e.elim)).trans (((Fr.refl _ _).alloc _).trans (G4.out.trans G5.out))).mono (fun k hk e => by have := HG3.out.2.2.size; omega)
      have HOW : Hid (OwnAt w5 5 (.slice a3 n3 c3) (bv (piece n X k))) := (HG3.out.1.fr (((Fr.refl (fun _ => False) _).alloc _)) (fun _ _ => id)).fr (G4.out.trans G5.out) (fun k hk e => by have := HG3.out.1.lt k hk; have e2 : k = w3.heap.size := e; omega)
      have HOA : Hid (OwnAt (w5.alloc (.cells #[.int .i64 kd, .int .i64 fg, .int .i64 sid, .slice a3 n3 c3, .int .i64 0, .int .u32 0, .int .i64 0, .int .i64 0, .int .i64 0, .bool false, .int .i64 0, .slice none 0 0] 34)) 5 (.slice a3 (piece n X k).length c3) (bv (piece n X k))) := cast (congrArg (fun t => OwnAt (w5.alloc (.cells #[.int .i64 kd, .int .i64 fg, .int .i64 sid, .slice a3 n3 c3, .int .i64 0, .int .u32 0, .int .i64 0, .int .i64 0, .int .i64 0, .bool false, .int .i64 0, .slice none 0 0] 34)) 5 (.slice a3 t c3) (bv (piece n X k))) HN3.out) (HOW.out.fr ((Fr.refl (fun _ => False) _).alloc _) (fun _ _ => id))
      have HNEW : Hid (∀ ad, a3 = some ad → w.heap.size ≤ ad.block) := fun ad e => Nat.le_trans HG.out.fr.size (HG3.out.new ad e)
      have HFRS : Hid (Frs w.heap.size (w5.alloc (.cells #[.int .i64 kd, .int .i64 fg, .int .i64 sid, .slice a3 n3 c3, .int .i64 0, .int .u32 0, .int .i64 0, .int .i64 0, .int .i64 0, .bool false, .int .i64 0, .slice none 0 0] 34)) v ls) := (HG.out.frs.later HF34.out).later ((Fr.refl _ _).alloc _)
      have HR5 : Hid ((w5.alloc (.cells #[.int .i64 kd, .int .i64 fg, .int .i64 sid, .slice a3 n3 c3, .int .i64 0, .int .u32 0, .int .i64 0, .int .i64 0, .int .i64 0, .bool false, .int .i64 0, .slice none 0 0] 34)).ownsRow 0 34 12 v ls.length (frows ls)) := HFRS.out.row
      have HNW : Hid (∀ (j : Nat) u, ([.int .i64 kd, .int .i64 fg, .int .i64 sid, .slice a3 n3 c3, .int .i64 0, .int .u32 0, .int .i64 0, .int .i64 0, .int .i64 0, .bool false, .int .i64 0, .slice none 0 0] : List Value)[j]? = some u → (w5.alloc (.cells #[.int .i64 kd, .int .i64 fg, .int .i64 sid, .slice a3 n3 c3, .int .i64 0, .int .u32 0, .int .i64 0, .int .i64 0, .int .i64 0, .bool false, .int .i64 0, .slice none 0 0] 34)).cell? ((⟨w5.heap.size, 0, none⟩ : Addr).add j) = some u) := fun j u hj => by
        rw [add_none, Nat.zero_add]
        exact cell_of_heap (heap_alloc_new w5 _) (by rw [← Array.getElem?_toList]; exact hj)
      have HON : Hid (∀ u ∈ ([.int .i64 kd, .int .i64 fg, .int .i64 sid, .slice a3 n3 c3, .int .i64 0, .int .u32 0, .int .i64 0, .int .i64 0, .int .i64 0, .bool false, .int .i64 0, .slice none 0 0] : List Value), u.oneCell' = true) := by
        intro u hu
        simp only [List.mem_cons, List.not_mem_nil, or_false] at hu
        rcases hu with h | h | h | h | h | h | h | h | h | h | h | h <;> subst h <;> rfl
      have HFR5 : Hid (Fr (fun _ => False) w (w5.alloc (.cells #[.int .i64 kd, .int .i64 fg, .int .i64 sid, .slice a3 n3 c3, .int .i64 0, .int .u32 0, .int .i64 0, .int .i64 0, .int .i64 0, .bool false, .int .i64 0, .slice none 0 0] 34))) := (HG.out.fr.trans HF34.out).alloc _
      have HW5 : Hid (w.heap.size ≤ (w5.alloc (.cells #[.int .i64 kd, .int .i64 fg, .int .i64 sid, .slice a3 n3 c3, .int .i64 0, .int .u32 0, .int .i64 0, .int .i64 0, .int .i64 0, .bool false, .int .i64 0, .slice none 0 0] 34)).heap.size) := HFR5.out.size
      clear H4 G4 G5
      go_wp2_with (refine wpList_append_wide2 rfl (.tmp 53) (.tmp 55) 24 rfl 34 i5 frameZ 12 128 Try.underlying24 I1.out I2.out I3.out I4.out rfl (by decide) v ls.length (frows ls) (by go_simp) HR5.out ⟨w5.heap.size, 0, none⟩ 1 1 ([.int .i64 kd, .int .i64 fg, .int .i64 sid, .slice a3 n3 c3, .int .i64 0, .int .u32 0, .int .i64 0, .int .i64 0, .int .i64 0, .bool false, .int .i64 0, .slice none 0 0] : List Value) (by go_simp) (by decide) rfl HNW.out HON.out (by have := HX.out; have := HLEN.out; have := HNX.out; unfold maxLen; omega) (by have := HX.out; have := HLEN.out; have := HNX.out; omega) ?_; intro a7 n7 c7 w7 N7 O7 F7 K7)
      obtain ⟨z, hz⟩ : ∃ z : FM, z = (splitF sid X false n (nP n X.length) k, a3, c3, none, 0) := ⟨_, rfl⟩
      have hfcl : fcl z = ([.int .i64 kd, .int .i64 fg, .int .i64 sid, .slice a3 n3 c3, .int .i64 0, .int .u32 0, .int .i64 0, .int .i64 0, .int .i64 0, .bool false, .int .i64 0, .slice none 0 0] : List Value) := by rw [hz]; exact fcl_split HKF.out.1 (by rw [if_neg (by have := HLL.out; omega), HKF.out.2.1]; omega) HN3.out
      have hfrs : Frs w.heap.size w7 (.slice a7 n7 c7) (ls ++ [z]) := HFRS.out.add (by rw [hz]; exact ⟨HOA.out, rfl, HNEW.out⟩) (by rw [hfcl]; exact O7.out) F7.out (by
        rcases K7.out with e | e
        · exact .inl e
        · exact .inr ⟨_, e, HW5.out⟩)
      have hll : (ls ++ [z]).length = ls.length + 1 := by simp
      have hfr7 : Fr (fun _ => False) w w7 := ((HFR5.out.mono (T := fun k => w.heap.size ≤ k) (fun _ _ e => e.elim)).trans (F7.out.mono (fun k _ e => HFRS.out.new k e))).mono (fun k hk e => by omega)
      go_roundw
      case rel =>
        obtain ⟨b1, b2, b3, b4, b5⟩ := HNX.out
        have b6 := HR2.out
        have b7 : (k + 1) * n = A + n := by rw [Nat.succ_mul, b4]
        refine ⟨k + 1, dp2, d - n, .slice a7 n7 c7, ls ++ [z], HLL.out, ?_, rfl, rfl, rfl, ⟨?_, ?_, hfrs, ?_, ?_, hfr7⟩⟩
        · rw [b7, show X.length - (A + n) = R2 + 1 by omega]
        · rw [b7]; exact HS2.out
        · rw [b7]; have := HRD.out; omega
        · rw [hll, HLEN.out]
        · exact all_snoc HG.out.all HLEN.out (by rw [hz])
      case measure => simp only [slLen]; have := HR2.out; omega
end Go.Proofs.Ytdndhidinbmpdaa
