/- The walk of SettingParts. -/
import Derived.Test.YtmpknmcgljpfkaaMi
namespace Go.Proofs.Ytmpknmcgljpfkaa
open Go.RowKit Go.Maps
set_option linter.unusedVariables false
set_option maxRecDepth 100000
set_option maxHeartbeats 4000000

theorem cut_mid2 (g o len cap l h : Nat) (hl : l ≤ h) (hn : h ≤ cap) (hc : l < cap) (w : World) : (Instr.slice 33 (.slice (some ⟨g, o, none⟩) len cap) (some (.int .i64 (l : Int))) (some (.int .i64 (h : Int))) none).run Try.prog w = .ok (.slice (some ⟨g, o + l * 2, none⟩) (h - l) (cap - l)) w := by
  have hb := run_sliceBound (P := Try.prog) (w := w) .i64 (h : Int) cap .sliceAcap (by omega) (by omega)
  have hb2 := run_sliceBound (P := Try.prog) (w := w) .i64 (l : Int) h .sliceB (by omega) (by omega)
  have hsz : (Try.prog.info? 24).map (·.size) = some 2 := by kernel_rfl
  have h2 : ¬ cap = l := by omega
  cases hq : Try.prog.info? 24 with
  | none => simp [hq] at hsz
  | some inf =>
    have h1 : inf.size = 2 := by simpa [hq] using hsz
    simp [Instr.slice, run_underlying Try.underlying33, Instr.sliceBounds, hb, hb2, sizeOf, typeInfo, hq, h1, add_none, h2]
theorem cut_one (g o n c i : Nat) (hi : i < n) (hc : n ≤ c) (w : World) : (Instr.slice 33 (.slice (some ⟨g, o, none⟩) n c) (some (.int .i64 (i : Int))) (some (.int .i64 ((i : Int) + 1))) none).run Try.prog w = .ok (.slice (some ⟨g, o + i * 2, none⟩) 1 (c - i)) w := by
  have h := cut_mid2 g o n c i (i + 1) (by omega) (by omega) (by omega) w
  rw [show i + 1 - i = 1 by omega, show ((i + 1 : Nat) : Int) = (i : Int) + 1 by omega] at h
  exact h
theorem sets_one {w : World} {g o c : Nat} {Y : List (Int × Nat)} (h : SetsAt w (some ⟨g, o, none⟩) c Y) (i : Nat) (s : Int × Nat) (hs : Y[i]? = some s) : SetsAt w (some ⟨g, o + i * 2, none⟩) (c - i) [s] := by
  have hl := (List.getElem?_eq_some_iff.1 hs).1
  have hc := h.cap
  have hb := h.big
  refine ⟨by simp; omega, by omega, by simp, fun r x hr => ?_⟩
  cases r with
  | zero =>
    simp at hr
    subst hr
    obtain ⟨b, o', hq, hlt, h0, h1, h2⟩ := h.cells i s hs
    cases hq
    exact ⟨g, o + i * 2, rfl, hlt, by simpa using h0, by simpa using h1, h2⟩
  | succ r => simp at hr
/-- Applied one by one. -/
theorem apply_one (V : Int → Nat) (s : Int × Nat) (r : List (Int × Nat)) : (applyO V [s]).2 = 0 → applyO V (s :: r) = applyO (applyO V [s]).1 r := by
  intro h
  simp only [applyO] at h ⊢
  split
  · rename_i hk
    rw [if_pos hk] at h
    split
    · rfl
    · rename_i hc
      rw [if_neg hc] at h
      exact absurd h hc
  · rfl
theorem apply_bad (V : Int → Nat) (s : Int × Nat) (r : List (Int × Nat)) : (applyO V [s]).2 ≠ 0 → applyO V (s :: r) = applyO V [s] ∧ (applyO V [s]).1 = V := by
  intro h
  simp only [applyO] at h ⊢
  split
  · rename_i hk
    rw [if_pos hk] at h
    split
    · rename_i hc
      rw [if_pos hc] at h
      exact absurd rfl h
    · exact ⟨rfl, rfl⟩
  · rename_i hk
    rw [if_neg hk] at h
    exact absurd rfl h
theorem Set1.step {w0 w w' : World} {g b b' : Nat} {v : Value} {V : Int → Nat} (h : Set1 w0 w g b v V) (hf : Fr (fun k => k = b') w w') (h0 : w0.heap.size ≤ b') (h1 : g ≠ b') (h2 : b ≠ b') : Set1 w0 w' g b v V :=
  ⟨h.set.fr hf h1, h.vals.fr hf h2, h.ok, fr_new h.fr hf (fun k e => by omega), h.new⟩
/-- Where the parts stand: t's values, the fault so far. -/
structure PartS (w : World) (g1 b1 g2 b2 gx gb : Nat) (V1 : Int → Nat) (cd : Int) (q : Option Addr) (c : Nat) (Y : List (Int × Nat)) (i : Nat) (A : Int) (Vi : Int → Nat) (bc : Int) (wr : World) : Prop where
  one : Set1 w wr g1 b1 (.slice none 0 0) V1
  two : Set1 w wr g2 b2 (.slice none 0 0) Vi
  xx : wr.heap[gx]? = some (.cells #[.bool (cd != 0), .int .i64 0, .int .i64 cd] 37 (0, 0))
  bad : wr.heap[gb]? = some (.cells #[.bool (bc != 0), .int .i64 0, .int .i64 bc] 37 (0, 0))
  sum : A = (Vi 4 : Int) - 65535
  good : bc = 0 → applyO firstV Y = applyO Vi (Y.drop i)
  fell : bc ≠ 0 → applyO firstV Y = (Vi, bc)
  sets : SetsAt wr q c Y
  apart : b1 ≠ b2 ∧ b2 ≠ g1 ∧ w.heap.size ≤ gb ∧ gx ≠ gb
theorem PartS.later {w : World} {g1 b1 g2 b2 gx gb : Nat} {V1 : Int → Nat} {cd : Int} {q : Option Addr} {c : Nat} {Y : List (Int × Nat)} {i : Nat} {A : Int} {Vi : Int → Nat} {bc : Int} {wr w' : World} (h : PartS w g1 b1 g2 b2 gx gb V1 cd q c Y i A Vi bc wr) (hf : Fr (fun _ => False) wr w') : PartS w g1 b1 g2 b2 gx gb V1 cd q c Y i A Vi bc w' :=
  { h with one := h.one.later hf, two := h.two.later hf, xx := (hf.block _ (lt_of_heap h.xx) id).trans h.xx, bad := (hf.block _ (lt_of_heap h.bad) id).trans h.bad, sets := h.sets.later hf }
theorem cells_ne {w : World} {g g' : Nat} {cs cs' : Array Value} {t t' : TypeId} {fr fr' : Nat × Nat} (h : w.heap[g]? = some (.cells cs t fr)) (h' : w.heap[g']? = some (.cells cs' t' fr')) (ht : t ≠ t') : g ≠ g' := by
  rintro rfl
  rw [h] at h'
  cases h'
  exact ht rfl
theorem parts_walk (q : Option Addr) (c : Nat) (Y : List (Int × Nat)) (w : World) (hY : SetsAt w q c Y) :
    Calls Try.prog 6 #[.slice q Y.length c] w fun e w' => e = .returned (.bool true) ∧ Below w.heap.size w w' := by
  have K1 := New1 w w (Fr.refl _ _)
  have KA : Hid (∀ w, Calls Try.prog 11 #[] w fun e w' => e = .returned (.bool true) ∧ Fr (fun _ => False) w w') := fun w => sawake_in w
  obtain ⟨n, hn⟩ : ∃ n, Y.length = n := ⟨_, rfl⟩
  have HY : Hid (SetsAt w q c Y) := hY
  have HN : Hid (Y.length = n) := hn
  have hn2 : (n : Int) ≤ 9223372036854775806 := by have := hY.few; omega
  have HNC : Hid (n ≤ c) := by have := hY.cap; show _ ≤ _; omega
  obtain ⟨⟨V1, cd⟩, ho⟩ : ∃ o, applyO firstV Y = o := ⟨_, rfl⟩
  have HO : Hid (applyO firstV Y = (V1, cd)) := ho
  rw [hn]
  clear hn hY ho
  go_enter Try.func6, Try.ntmps6
  go_wp2_with (fail)
  refine K1.mono ?_
  clear K1
  rintro e w1 ⟨g1, b1, rfl, h1, -, -, -⟩
  have S1 : Hid (Set1 w w1 g1 b1 (.slice none 0 0) firstV) := h1
  have K2 := New1 w w1 h1.fr
  clear h1
  go_wp2_with (fail)
  refine K2.mono ?_
  clear K2
  rintro e w2 ⟨g2, b2, rfl, h2, hf2, hg2, hb2⟩
  have S2 : Hid (Set1 w w2 g2 b2 (.slice none 0 0) firstV ∧ Set1 w w2 g1 b1 (.slice none 0 0) firstV) := ⟨h2, S1.out.later hf2⟩
  have HA : Hid (b1 ≠ b2 ∧ b2 ≠ g1 ∧ g2 ≠ b1) := by
    have h3 := S1.out.vals.lt
    have h4 := S1.out.set.lt
    show _ ∧ _
    omega
  clear h2 hf2 hg2 hb2 S1
  have K3 := Apply1 S2.out.2 q c n Y (HY.out.later S2.out.1.fr) HN.out HO.out
  unfold Appl1 at K3
  rw [show firstV 4 = 65535 from rfl] at K3
  obtain ⟨y4, hy4⟩ : ∃ y4, V1 4 = y4 := ⟨_, rfl⟩
  have HY4 : Hid (V1 4 = y4) := hy4
  rw [hy4] at K3
  obtain ⟨N, hN⟩ : ∃ N, (if cd = 0 then (y4 : Int) - (65535 : Nat) else 0) = N := ⟨_, rfl⟩
  have HNN : Hid (cd = 0 → N = (y4 : Int) - 65535) := fun e => by rw [← hN, if_pos e]; rfl
  rw [hN] at K3
  clear hy4 hN
  obtain ⟨bb, hbb⟩ : ∃ bb, (cd != 0) = bb := ⟨_, rfl⟩
  have HBB : Hid ((cd != 0) = bb) := hbb
  rw [hbb] at K3
  clear hbb
  go_upto_region 7 with (go_at_call 14; refine K3.mono ?_; clear K3; rintro e w3 ⟨rfl, h3, hf3⟩)
  obtain ⟨w4, hw4⟩ : ∃ w4, w4 = w3.alloc (.cells #[.bool bb, .int .i64 0, .int .i64 cd] 37) := ⟨_, rfl⟩
  obtain ⟨gx, hgx⟩ : ∃ gx, gx = w3.heap.size := ⟨_, rfl⟩
  have hx4 : w4.heap[gx]? = some (.cells #[.bool bb, .int .i64 0, .int .i64 cd] 37 (0, 0)) := by rw [hw4, hgx]; exact heap_alloc_new w3 _
  have S4 : Hid (Set1 w w4 g1 b1 (.slice none 0 0) V1 ∧ Set1 w w4 g2 b2 (.slice none 0 0) firstV) := by
    rw [hw4]
    exact ⟨h3.later ((Fr.refl _ _).alloc _), (S2.out.1.step hf3 h3.new.1 HA.out.2.2 HA.out.1.symm).later ((Fr.refl _ _).alloc _)⟩
  rw [← hw4, ← hgx]
  clear hw4 hgx h3 hf3 S2
  go_upto_region 8 with (fail)
  obtain ⟨w5, hw5⟩ : ∃ w5, w5 = w4.alloc (.cells #[.bool false, .int .i64 0, .int .i64 0] 37) := ⟨_, rfl⟩
  obtain ⟨gb, hgb⟩ : ∃ gb, gb = w4.heap.size := ⟨_, rfl⟩
  have S5 : Hid (PartS w g1 b1 g2 b2 gx gb V1 cd q c Y 0 0 firstV 0 w5) := by
    have ha : Fr (fun _ => False) w4 w5 := by rw [hw5]; exact (Fr.refl _ _).alloc _
    have hlx := lt_of_heap hx4
    have hsz := S4.out.1.fr.size
    refine ⟨S4.out.1.later ha, S4.out.2.later ha, ?_, ?_, rfl, fun _ => rfl, fun e => absurd rfl e, HY.out.later (S4.out.1.fr.trans ha), HA.out.1, HA.out.2.1, by omega, by omega⟩
    · rw [ha.block _ hlx id, hx4, HBB.out]
    · rw [hw5, hgb]; exact heap_alloc_new w4 _
  rw [← hw5, ← hgb]
  clear hw5 hgb S4 hx4
  go_wp2_with (fail)
  go_loopw [7, 9] (fun x7 x9 wr => ∃ (i : Nat) (A : Int) (Vi : Int → Nat) (bc : Int), x7 = .int .i64 A ∧ x9 = .int .i64 (i : Int) ∧ i ≤ n ∧ Hid (PartS w g1 b1 g2 b2 gx gb V1 cd q c Y i A Vi bc wr)) (fun _ x9 _ => n - (intOf x9).toNat)
  case atStart => exact ⟨0, 0, firstV, 0, rfl, rfl, by omega, S5.out⟩
  case round =>
    clear S5
    obtain ⟨i, A, Vi, bc, rfl, rfl, hin, HS⟩ := hrel
    by_cases hlt : i < n ∧ bc = 0
    · obtain ⟨hlt, rfl⟩ := hlt
      obtain ⟨sx, hs⟩ : ∃ s, Y[i]? = some s := ⟨Y[i]'(by rw [HN.out]; exact hlt), List.getElem?_eq_getElem _⟩
      obtain ⟨gq, oq, rfl, -⟩ := HS.out.sets.cells i sx hs
      have HD : Hid (Y.drop i = sx :: Y.drop (i + 1)) := List.drop_eq_getElem?_toList_append.trans (by rw [hs]; rfl)
      obtain ⟨⟨Vj, b'⟩, hj⟩ : ∃ o, applyO Vi [sx] = o := ⟨_, rfl⟩
      have K4 := Apply1 HS.out.two (some ⟨gq, oq + i * 2, none⟩) (c - i) 1 [sx] (sets_one HS.out.sets i sx hs) rfl hj
      have hcut := cut_one gq oq n c i hlt HNC.out
      have hc0 : wr.cell? ⟨gb, 0, none⟩ = some (.bool false) := cell_of_heap HS.out.bad rfl
      have HE : Hid ((b' = 0 → applyO firstV Y = applyO Vj (Y.drop (i + 1))) ∧ (b' ≠ 0 → applyO firstV Y = (Vj, b')) ∧ (b' ≠ 0 → Vj = Vi)) := by
        have h1 := apply_one Vi sx (Y.drop (i + 1))
        have h2 := apply_bad Vi sx (Y.drop (i + 1))
        rw [hj] at h1 h2
        have h3 := HS.out.good rfl
        rw [HD.out] at h3
        exact ⟨fun e => h3.trans (h1 e), fun e => h3.trans (h2 e).1, fun e => (h2 e).2⟩
      unfold Appl1 at K4
      obtain ⟨kk, hkk⟩ : ∃ kk, (if b' = 0 then (Vj 4 : Int) - (Vi 4 : Int) else 0) = kk := ⟨_, rfl⟩
      have hok : ∀ x, Vi x < 4294967296 := HS.out.two.ok.1
      have hoj : ∀ x, Vj x < 4294967296 := by
        have := apply_ok [sx] Vi HS.out.two.ok (fun s hs' => by
          simp at hs'
          subst hs'
          obtain ⟨_, _, _, _, _, _, _, h7⟩ := HS.out.sets.cells i s hs
          exact h7)
        rw [hj] at this
        exact this.1
      have HSUM : Hid (A + kk = (Vj 4 : Int) - 65535) := by
        show _ = _
        rw [← hkk, HS.out.sum]
        split
        · omega
        · rename_i e; rw [HE.out.2.2 e]; omega
      have hk1 : -4294967295 ≤ kk ∧ kk ≤ 4294967295 := by
        have h4 := hok 4
        have h5 := hoj 4
        rw [← hkk]
        split <;> omega
      have ha1 : -4294967295 ≤ A ∧ A ≤ 4294967295 := by
        have h4 := hok 4
        rw [HS.out.sum]
        omega
      obtain ⟨hk1, hk2⟩ := hk1
      obtain ⟨ha1, ha2⟩ := ha1
      rw [hkk] at K4
      obtain ⟨be, hbe⟩ : ∃ be, (b' != 0) = be := ⟨_, rfl⟩
      have HBE : Hid ((b' != 0) = be) := hbe
      rw [hbe] at K4
      have hlt2 : (i : Int) < (n : Int) := by omega
      clear hs hj hkk hbe hok hoj
      go_upto_region 12 with (go_at_call 14; refine K4.mono ?_; clear K4; rintro e w6 ⟨rfl, h6, hf6⟩)
      clear hc0 hcut
      obtain ⟨w7, hw7⟩ : ∃ w7, w7 = w6.alloc (.cells #[.bool be, .int .i64 0, .int .i64 b'] 37) := ⟨_, rfl⟩
      obtain ⟨gy, hgy⟩ : ∃ gy, gy = w6.heap.size := ⟨_, rfl⟩
      have hy7 : w7.heap[gy]? = some (.cells #[.bool be, .int .i64 0, .int .i64 b'] 37 (0, 0)) := by rw [hw7, hgy]; exact heap_alloc_new w6 _
      have ha7 : Fr (fun _ => False) w6 w7 := by rw [hw7]; exact (Fr.refl _ _).alloc _
      rw [← hw7, ← hgy]
      clear hw7 hgy
      have hb2x : b2 ≠ gx := by have := HS.out.two.vals.ne HS.out.xx; exact this
      have hb2b : b2 ≠ gb := HS.out.two.vals.ne HS.out.bad
      have F7 : Fr (fun k => k = b2) wr w7 := hf6.trans (ha7.mono (fun _ _ e => e.elim))
      have H7 : Hid (Set1 w w7 g1 b1 (.slice none 0 0) V1 ∧ Set1 w w7 g2 b2 (.slice none 0 0) Vj ∧ w7.heap[gx]? = some (.cells #[.bool (cd != 0), .int .i64 0, .int .i64 cd] 37 (0, 0)) ∧ w7.heap[gb]? = some (.cells #[.bool false, .int .i64 0, .int .i64 0] 37 (0, 0)) ∧ SetsAt w7 (some ⟨gq, oq, none⟩) c Y) :=
        ⟨HS.out.one.step F7 h6.new.1 (fun e => HS.out.apart.2.1 e.symm) HS.out.apart.1, h6.later ha7, (F7.block _ (lt_of_heap HS.out.xx) (fun e => hb2x e.symm)).trans HS.out.xx, (F7.block _ (lt_of_heap HS.out.bad) (fun e => hb2b e.symm)).trans HS.out.bad, HS.out.sets.fr F7 (sets_ne HS.out.two.vals HS.out.sets)⟩
      have y0 : w7.cell? ⟨gy, 0, none⟩ = some (.bool be) := cell_of_heap hy7 rfl
      have y1 : w7.cell? ⟨gy, 1, none⟩ = some (.int .i64 0) := cell_of_heap hy7 rfl
      have y2 : w7.cell? ⟨gy, 2, none⟩ = some (.int .i64 b') := cell_of_heap hy7 rfl
      have HAP : Hid (b1 ≠ b2 ∧ b2 ≠ g1 ∧ w.heap.size ≤ gb ∧ gx ≠ gb) := HS.out.apart
      clear hy7 ha7 h6 hf6 hb2x hb2b F7 HS
      go_wp2_with (refine wpList_storeB rfl 37 (.tmp 8) (.tmp 52) rfl gb #[.bool false, .int .i64 0, .int .i64 0] #[.bool be, .int .i64 0, .int .i64 b'] 37 rfl rfl H7.out.2.2.2.1 rfl (by kernel_rfl) (by simp [Value.oneCell']) ?_; intro y HB GB)
      go_roundw
      case rel =>
        have hm1 := H7.out.1.vals.ne H7.out.2.2.2.1
        have hm2 := H7.out.2.1.vals.ne H7.out.2.2.2.1
        have hn1 := cells_ne H7.out.1.set H7.out.2.2.2.1 (by decide)
        have hn2 := cells_ne H7.out.2.1.set H7.out.2.2.2.1 (by decide)
        refine ⟨i + 1, A + kk, Vj, b', rfl, by go_num, by omega, ⟨H7.out.1.step GB.out HAP.out.2.2.1 hn1 hm1, H7.out.2.1.step GB.out HAP.out.2.2.1 hn2 hm2, (GB.out.block _ (lt_of_heap H7.out.2.2.1) HAP.out.2.2.2).trans H7.out.2.2.1, by rw [HBE.out]; exact HB.out, HSUM.out, HE.out.1, HE.out.2.1, ?_, HAP.out⟩⟩
        refine H7.out.2.2.2.2.fr GB.out (fun ad e hl e2 => ?_)
        have h8 := HAP.out.2.2.1
        cases e
        have : gq < w.heap.size := by
          obtain ⟨_, _, e9, h9, _⟩ := HY.out.cells 0 Y[0] (by simp)
          cases e9
          exact h9
        simp at e2
        omega
      case measure => simp [intOf]; omega
    · have HX : Hid (Vi = V1 ∧ bc = cd) := by
        have : applyO firstV Y = (Vi, bc) := by
          by_cases hb : bc = 0
          · have hi : ¬ i < n := fun e => hlt ⟨e, hb⟩
            rw [HS.out.good hb, List.drop_of_length_le (by rw [HN.out]; omega), applyO, hb]
          · exact HS.out.fell hb
        rw [HO.out] at this
        cases this
        exact ⟨rfl, rfl⟩
      obtain ⟨rfl, rfl⟩ := HX.out
      have S8 : Hid (Set1 w wr g1 b1 (.slice none 0 0) Vi ∧ Set1 w wr g2 b2 (.slice none 0 0) Vi) := ⟨HS.out.one, HS.out.two⟩
      have hXX := HS.out.xx
      have hBD := HS.out.bad
      by_cases hb : bc = 0
      case' pos =>
        subst hb
        have hi : ¬ (i : Int) < (n : Int) := by omega
        obtain rfl : A = N := by rw [HS.out.sum, HNN.out rfl, HY4.out]
        rw [show ((0 : Int) != 0) = false from rfl] at hXX hBD
        have x0 : wr.cell? ⟨gx, 0, none⟩ = some (.bool false) := cell_of_heap hXX rfl
        have x1 : wr.cell? ⟨gx, 1, none⟩ = some (.int .i64 0) := cell_of_heap hXX rfl
        have x2 : wr.cell? ⟨gx, 2, none⟩ = some (.int .i64 0) := cell_of_heap hXX rfl
        have y0 : wr.cell? ⟨gb, 0, none⟩ = some (.bool false) := cell_of_heap hBD rfl
        have y1 : wr.cell? ⟨gb, 1, none⟩ = some (.int .i64 0) := cell_of_heap hBD rfl
        have y2 : wr.cell? ⟨gb, 2, none⟩ = some (.int .i64 0) := cell_of_heap hBD rfl
        clear hXX hBD HS HX HBB HNN
        go_upto_region 16 with (fail)
        clear x0 x1 x2 y0 y1 y2 hi
      case' neg =>
        have hb1 : (bc != 0) = true := by simp [hb]
        rw [hb1] at hXX hBD
        have x0 : wr.cell? ⟨gx, 0, none⟩ = some (.bool true) := cell_of_heap hXX rfl
        have x1 : wr.cell? ⟨gx, 1, none⟩ = some (.int .i64 0) := cell_of_heap hXX rfl
        have x2 : wr.cell? ⟨gx, 2, none⟩ = some (.int .i64 bc) := cell_of_heap hXX rfl
        have y0 : wr.cell? ⟨gb, 0, none⟩ = some (.bool true) := cell_of_heap hBD rfl
        have y1 : wr.cell? ⟨gb, 1, none⟩ = some (.int .i64 0) := cell_of_heap hBD rfl
        have y2 : wr.cell? ⟨gb, 2, none⟩ = some (.int .i64 bc) := cell_of_heap hBD rfl
        clear hXX hBD HS HX HBB HNN hb1 hb hlt
        by_cases hi : (i : Int) < (n : Int)
        all_goals go_upto_region 16 with (fail)
        all_goals clear x0 x1 x2 y0 y1 y2 hi
      all_goals go_wp2_with (fail)
      all_goals go_loopw [12] (fun x12 wz => ∃ k : Nat, x12 = .int .i64 (k : Int) ∧ k ≤ 10 ∧ Hid (Set1 w wz g1 b1 (.slice none 0 0) Vi ∧ Set1 w wz g2 b2 (.slice none 0 0) Vi)) (fun x12 _ => 10 - (intOf x12).toNat)
      all_goals first | (case atStart => exact ⟨0, rfl, by omega, S8.out⟩) | skip
      all_goals
        rename World => wz
        obtain ⟨k, rfl, hk, HZ⟩ := hrel
        clear S8
        by_cases hk10 : k < 10
        · have hkI : IsI (k : Int) := by unfold IsI; omega
          have K5 := Get1 HZ.out.1 k hkI
          have K6 := Get1 HZ.out.2 k hkI
          obtain ⟨x, hx⟩ : ∃ x, getV Vi (k : Int) = x := ⟨_, rfl⟩
          rw [hx] at K5 K6
          clear hx
          go_wp2_with (fail)
          refine K5.mono ?_
          rintro e w5 ⟨rfl, rfl⟩
          go_wp2_with (fail)
          refine K6.mono ?_
          rintro e w5 ⟨rfl, rfl⟩
          go_wp2_with (fail)
          go_roundw
          case rel => exact ⟨k + 1, by go_num, by omega, HZ.out⟩
          case measure => simp [intOf]; omega
        · go_wp2_with (go_at_call 11; refine (KA.out _).mono ?_; rintro e w9 ⟨rfl, hf9⟩)
          go_ret
          exact ⟨rfl, (HZ.out.1.fr.trans hf9).below (fun _ _ => id)⟩
end Go.Proofs.Ytmpknmcgljpfkaa
