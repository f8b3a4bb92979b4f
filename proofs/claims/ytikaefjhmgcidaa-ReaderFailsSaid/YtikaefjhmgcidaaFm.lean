/- Cuts by three indices; how many bytes parts have at least. -/
import Derived.Test.YtikaefjhmgcidaaFg
import Derived.Test.YtikaefjhmgcidaaFl
namespace Go.Proofs.Ytikaefjhmgcidaa
open Go.RowKit
set_option linter.unusedVariables false
set_option maxRecDepth 100000
set_option maxHeartbeats 4000000

theorem addr_add (a : Addr) (k j : Nat) : (a.add k).add j = a.add (k + j) := by
  unfold Addr.add
  by_cases h1 : k = 0
  · subst h1; simp
  · by_cases h2 : j = 0
    · subst h2; simp [h1]
    · simp [h1, h2, Nat.add_assoc]
/-- A cut by three indices, the last two the same. -/
theorem cut3 (a : Option Addr) (len cap lo hi : Nat) (b : List UInt8) (hl : b.length = len) (hc : len ≤ cap) (h1 : lo ≤ hi) (h2 : hi ≤ len) : ∃ dp : Option Addr,
    (∀ w, (Instr.slice 31 (.slice a len cap) (some (.int .i64 (lo : Int))) (some (.int .i64 (hi : Int))) (some (.int .i64 (hi : Int)))).run Try.prog w = .ok (.slice dp (hi - lo) (hi - lo)) w) ∧
    (∀ w, SrcAt w a b → SrcAt w dp ((b.drop lo).take (hi - lo))) ∧ (∀ ad, dp = some ad → ∃ ad', a = some ad' ∧ ad.block = ad'.block) := by
  have hsz : (Try.prog.info? 5).map (·.size) = some 1 := by kernel_rfl
  have hb1 := fun w => run_sliceBound (P := Try.prog) (w := w) .i64 (hi : Int) cap .slice3Acap (by omega) (by omega)
  have hb2 := fun w => run_sliceBound (P := Try.prog) (w := w) .i64 (hi : Int) hi .slice3B (by omega) (by omega)
  have hb3 := fun w => run_sliceBound (P := Try.prog) (w := w) .i64 (lo : Int) hi .slice3C (by omega) (by omega)
  cases hi5 : Try.prog.info? 5 with
  | none => simp [hi5] at hsz
  | some i =>
  have h1' : i.size = 1 := by simpa [hi5] using hsz
  cases a with
  | none =>
    refine ⟨none, fun w => ?_, fun w hs => ?_, fun ad e => by cases e⟩
    · simp [Instr.slice, run_underlying Try.underlying31, Instr.sliceBounds, hb1, hb2, hb3, sizeOf, typeInfo, hi5]
    · have h0 : b = [] := by
        cases b with
        | nil => rfl
        | cons x r => obtain ⟨ad, e, _⟩ := hs 0 x rfl; cases e
      subst h0
      simpa using SrcAt.nil w none
  | some ad =>
    refine ⟨if hi = lo then some ad else some (ad.add lo), fun w => ?_, fun w hs => ?_, fun ad' e => ?_⟩
    · simp [Instr.slice, run_underlying Try.underlying31, Instr.sliceBounds, hb1, hb2, hb3, sizeOf, typeInfo, hi5, h1']
    · by_cases he : hi = lo
      · rw [if_pos he, he, Nat.sub_self, List.take_zero]
        exact SrcAt.nil _ _
      · rw [if_neg he]
        intro j c hj
        rw [List.getElem?_take] at hj
        split at hj
        · rw [List.getElem?_drop] at hj
          obtain ⟨ad', e, hcell⟩ := hs (lo + j) c hj
          cases e
          exact ⟨_, rfl, by rw [addr_add]; exact hcell⟩
        · cases hj
    · refine ⟨ad, rfl, ?_⟩
      split at e
      · cases e; rfl
      · cases e; unfold Addr.add; split <;> rfl

/-- A cut by three indices, from the beginning, the last two the same. -/
theorem cut3n (a : Option Addr) (len cap hi : Nat) (b : List UInt8) (hl : b.length = len) (hc : len ≤ cap) (h2 : hi ≤ len) : ∃ dp : Option Addr,
    (∀ w, (Instr.slice 31 (.slice a len cap) none (some (.int .i64 (hi : Int))) (some (.int .i64 (hi : Int)))).run Try.prog w = .ok (.slice dp hi hi) w) ∧
    (∀ w, SrcAt w a b → SrcAt w dp (b.take hi)) := by
  have hsz : (Try.prog.info? 5).map (·.size) = some 1 := by kernel_rfl
  have hb1 := fun w => run_sliceBound (P := Try.prog) (w := w) .i64 (hi : Int) cap .slice3Acap (by omega) (by omega)
  have hb2 := fun w => run_sliceBound (P := Try.prog) (w := w) .i64 (hi : Int) hi .slice3B (by omega) (by omega)
  cases hi5 : Try.prog.info? 5 with
  | none => simp [hi5] at hsz
  | some i =>
  have h1' : i.size = 1 := by simpa [hi5] using hsz
  refine ⟨a, fun w => ?_, fun w hs => hs.take hi⟩
  have ha : ∀ ad : Addr, ad.add 0 = ad := fun ad => by simp [Addr.add]
  cases a <;> simp [Instr.slice, run_underlying Try.underlying31, Instr.sliceBounds, hb1, hb2, sizeOf, typeInfo, hi5, ha]

theorem leastP_next {js : List Nat} {i j : Nat} (h : js[i]? = some j) : leastP (js.take (i + 1)) = leastP (js.take i) + sizeP j := by
  rw [List.take_add_one, h]
  simp [leastP]
theorem sizeP_le (j : Nat) : sizeP j ≤ 8 := by
  unfold sizeP
  repeat' split
  all_goals omega
theorem leastP_le (js : List Nat) : leastP js ≤ js.length * 8 := by
  induction js with
  | nil => simp [leastP]
  | cons j js ih =>
    have := sizeP_le j
    simp only [leastP, List.map_cons, List.sum_cons, List.length_cons] at *
    omega

theorem least_in (sp : Option Addr) (js : List Nat) (n c : Nat) (w : World) (hn : js.length = n) (h3 : n ≤ 3) (h : PartsC w sp js) :
    Calls Try.prog 64 #[.slice sp n c] w fun e w' => e = .returned (.int .i64 (leastP js : Nat)) ∧ Fr (fun _ => False) w w' := by
  have HN : Hid (js.length = n) := hn
  have H0 : Hid (PartsC w sp js) := h
  have HB : Hid (∀ i, leastP (js.take i) ≤ 24) := fun i => by
    have := leastP_le (js.take i)
    simp at this
    show _ ≤ _
    omega
  clear hn h
  go_enter Try.func64, Try.ntmps64
  go_wp2_with (fail)
  go_loopw [3, 8] (fun x3 x8 wr => ∃ (i s : Nat), x3 = .int .i64 (s : Int) ∧ x8 = .int .i64 (i : Int) ∧ i ≤ n ∧ Hid (s = leastP (js.take i) ∧ PartsC wr sp js ∧ Fr (fun _ => False) w wr)) (fun _ x8 _ => n - (intOf x8).toNat)
  case atStart => exact ⟨0, 0, rfl, rfl, by omega, rfl, H0.out, Fr.refl _ _⟩
  case round =>
    obtain ⟨i, s, rfl, rfl, hi, HS⟩ := hrel
    by_cases hin : i < n
    · obtain ⟨j, hj⟩ : ∃ j, js[i]? = some j := ⟨js[i]'(by rw [HN.out]; exact hin), List.getElem?_eq_getElem _⟩
      obtain ⟨gp, o, rfl, d0, d1, d2⟩ := HS.out.2.1 i j hj
      have HX : Hid (js[i]? = some j) := hj
      have hin2 : (i : Int) < (n : Int) := by omega
      have hs1 : s ≤ 24 := by rw [HS.out.1]; exact HB.out i
      have hs2 := sizeP_le j
      obtain ⟨sz, hsz⟩ : ∃ sz, sizeP j = sz := ⟨_, rfl⟩
      have HZ : Hid (sizeP j = sz) := hsz
      rw [hsz] at d0 hs2
      clear hj hsz
      go_wp2_with (fail)
      go_roundw
      case rel =>
        refine ⟨i + 1, s + sz, by go_num, by go_num, by omega, ?_⟩
        refine ⟨by rw [leastP_next HX.out, HS.out.1, HZ.out], HS.out.2.1.fr ((Fr.refl (fun _ => False) wr).alloc _) (fun _ _ _ _ => id), HS.out.2.2.alloc _⟩
      case measure => simp [intOf]; omega
    · obtain rfl : n = i := by omega
      go_wp2_with (fail)
      go_ret
      have h := HS.out
      rw [List.take_of_length_le (Nat.le_of_eq HN.out)] at h
      exact ⟨by rw [← h.1]; rfl, h.2.2⟩
end Go.Proofs.Ytikaefjhmgcidaa
