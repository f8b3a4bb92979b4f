/- The code is whole; contracts of the document's spans and symbol (aqueductref03). -/
import Derived.Test.YtcmdhdpedonihaaR3
import Derived.Test.YtcmdhdpedonihaaP2
import Derived.Test.YtcmdhdpedonihaaG1
import Derived.Deep.DeepAppendWide
namespace Go.Proofs.Ytcmdhdpedonihaa
open Go.RowKit
set_option maxRecDepth 100000
set_option maxHeartbeats 4000000
set_option linter.unusedVariables false

theorem rowT_facts : ∀ k < 21, (stAt k).2.2 ≤ (tbl.getD k (0, [])).1 ∧ (tbl.getD k (0, [])).1 ≤ 30 ∧ (tbl.getD k (0, [])).2.all (fun s => decide (s < 256)) = true := by decide +kernel
/-- Behind i rows: a code begins T, or T's first bits are the next word or above it. -/
theorem whole_step (T : List Bool) (hT : 30 ≤ T.length) : ∀ i, i ≤ 21 → (∃ s, s ≤ 256 ∧ (codeOf s).2 ≤ T.length ∧ val (T.take (codeOf s).2) = (codeOf s).1) ∨ ((stAt i).2.2 ≤ 30 ∧ (stAt i).2.1 ≤ val (T.take (stAt i).2.2)) := by
  intro i
  induction i with
  | zero => intro _; exact .inr ⟨by decide, by simp [stAt]⟩
  | succ i ih =>
    intro hi
    rcases ih (by omega) with h | ⟨h1, h2⟩
    · exact .inl h
    · have hk : tbl[i]? = some (tbl.getD i (0, [])) := by
        have : i < tbl.length := by show i < 21; omega
        simp [List.getD_eq_getElem?_getD, this]
      obtain ⟨f1, f2, f3⟩ := rowT_facts i (by omega)
      obtain ⟨⟨b, l⟩, hbl⟩ : ∃ r, r = tbl.getD i (0, []) := ⟨_, rfl⟩
      rw [← hbl] at hk f1 f2 f3
      simp only at f1 f2 f3
      have hnx := stAt_next i b l hk
      have hv : (stAt i).2.1 * 2 ^ (b - (stAt i).2.2) ≤ val (T.take b) := by
        have h3 := val_take_drop (T.take b) (stAt i).2.2
        rw [List.take_take, Nat.min_eq_left f1, show (T.take b).length = b by rw [List.length_take]; omega] at h3
        rw [h3]
        have := Nat.mul_le_mul_right (2 ^ (b - (stAt i).2.2)) h2
        omega
      by_cases hlt : val (T.take b) < (stAt i).2.1 * 2 ^ (b - (stAt i).2.2) + l.length
      · obtain ⟨j, hj⟩ : ∃ j, j = val (T.take b) - (stAt i).2.1 * 2 ^ (b - (stAt i).2.2) := ⟨_, rfl⟩
        have hjl : j < l.length := by omega
        have hs : l[j]? = some l[j] := List.getElem?_eq_getElem hjl
        have hc := placeT i j l[j] b l hk hs
        have hs2 : l[j] < 256 := by
          have := List.all_eq_true.1 f3 l[j] (List.getElem_mem hjl)
          simpa using this
        refine .inl ⟨l[j], by omega, ?_, ?_⟩
        · rw [hc]; simp only; omega
        · rw [hc]; simp only; omega
      · rw [hnx]
        exact .inr ⟨f2, by simp only; omega⟩
theorem whole (T : List Bool) (hT : 30 ≤ T.length) : ∃ s, s ≤ 256 ∧ (codeOf s).2 ≤ T.length ∧ val (T.take (codeOf s).2) = (codeOf s).1 := by
  rcases whole_step T hT 21 (by omega) with h | ⟨h1, h2⟩
  · exact h
  · rw [stAt_end] at h2
    simp only at h2
    have h3 := val_lt (T.take 30)
    rw [show (T.take 30).length = 30 by rw [List.length_take]; omega] at h3
    exact ⟨256, by omega, by rw [code_end']; exact hT, by rw [code_end']; simp only; omega⟩
/-- Bits of which no beginning is a code are few. -/
def Fresh (R : List Bool) : Prop := ∀ k, 0 < k → k ≤ R.length → find (R.take k) = none
theorem fresh_nil : Fresh [] := fun k h0 hk => by simp at hk; omega
theorem fresh_few {R : List Bool} (h : Fresh R) : R.length < 30 := by
  rcases Nat.lt_or_ge R.length 30 with hl | hl
  · exact hl
  · obtain ⟨s, hs, h1, h2⟩ := whole R hl
    have h5 := (code_size s hs).1
    have h3 := find_code' s hs (R.take (codeOf s).2) (by
      have e : (R.take (codeOf s).2).length = (codeOf s).2 := by rw [List.length_take]; omega
      rw [e, h2])
    rw [h _ (by omega) h1] at h3
    cases h3
theorem fresh_snoc {R : List Bool} {t : Bool} (h : Fresh R) (hf : find (R ++ [t]) = none) : Fresh (R ++ [t]) := by
  intro k h0 hk
  rw [List.length_append, List.length_singleton] at hk
  by_cases hkl : k ≤ R.length
  · rw [List.take_append_of_le_length hkl]
    exact h k h0 hkl
  · rw [List.take_of_length_le (by simp; omega)]
    exact hf
def symOf (R : List Bool) : Int := match find R with | none => -1 | some s => s

/-- The row k of the spans, the lists' blocks beginning at b. -/
def spanRow (b k : Nat) : List Value := [.int .i64 ((tblR.getD k (0, [])).1 : Int), .int .u64 (firstOf k : Int), .slice (some ⟨b + k, 0, none⟩) (tblR.getD k (0, [])).2.length (tblR.getD k (0, [])).2.length]
def spanCells (b n : Nat) : List Value := (List.range n).flatMap (spanRow b)
theorem spanCells_succ (b n : Nat) : spanCells b (n + 1) = spanCells b n ++ spanRow b n := by simp [spanCells, List.range_succ]
theorem spanCells_len (b n : Nat) : (spanCells b n).length = n * 3 := by
  induction n with
  | zero => rfl
  | succ n ih => rw [spanCells_succ, List.length_append, ih]; simp [spanRow]; omega
theorem spanCells_get (b : Nat) : ∀ n k j, k < n → j < 3 → (spanCells b n)[k * 3 + j]? = (spanRow b k)[j]? := by
  intro n
  induction n with
  | zero => intro k j h; omega
  | succ n ih =>
    intro k j hk hj
    rw [spanCells_succ]
    by_cases h : k < n
    · rw [List.getElem?_append_left (by rw [spanCells_len]; omega), ih k j h hj]
    · obtain rfl : k = n := by omega
      rw [List.getElem?_append_right (by rw [spanCells_len]; omega), spanCells_len, show k * 3 + j - k * 3 = j by omega]
/-- The document's table, with its lists' blocks. -/
def RTb (w : World) (n b : Nat) : Prop := ∀ k r, tblR[k]? = some r → w.cell? ⟨n, k * 2, none⟩ = some (.int .i64 (r.1 : Int)) ∧
  w.cell? ⟨n, k * 2 + 1, none⟩ = some (.slice (some ⟨b + k, 0, none⟩) r.2.length r.2.length) ∧ ∀ (j s : Nat), r.2[j]? = some s → w.cell? ⟨b + k, j, none⟩ = some (.int .i64 (s : Int))
theorem rrows_b (w : World) : Calls Try.prog 14 #[] w fun e w' => ∃ n, e = .returned (.slice (some ⟨n, 0, none⟩) 21 21) ∧ RTb w' n w.heap.size ∧ Fr (fun _ => False) w w' := by
  refine (rrows_raw w).mono ?_
  rintro e w' ⟨rfl, rfl⟩
  refine ⟨_, rfl, ?_, (laidR_fr tblR w w (Fr.refl _ w)).alloc _⟩
  intro k r hr
  have h1 := outerR_get tblR w.heap.size k r hr
  have hl : ((laidR w tblR).alloc (.cells (outerR w.heap.size tblR).toArray 50)).heap[w.heap.size + 21]? = some (.cells (outerR w.heap.size tblR).toArray 50) := last_at _ (by rw [laidR_size]; rfl)
  refine ⟨cell_of_heap hl (by simpa using h1.1), cell_of_heap hl (by simpa using h1.2), ?_⟩
  intro j s hj
  exact cell_of_heap (past_at _ (laidR_heap tblR w k r hr)) (by simp [ints, hj])
/-- The spans lie at block g. -/
def ST (w : World) (g : Nat) : Prop := ∀ k, k < 21 → w.cell? ⟨g, k * 3, none⟩ = some (.int .i64 ((tblR.getD k (0, [])).1 : Int)) ∧ w.cell? ⟨g, k * 3 + 1, none⟩ = some (.int .u64 (firstOf k : Int)) ∧
  ∃ m, w.cell? ⟨g, k * 3 + 2, none⟩ = some (.slice (some ⟨m, 0, none⟩) (tblR.getD k (0, [])).2.length (tblR.getD k (0, [])).2.length) ∧ ∀ (j s : Nat), (tblR.getD k (0, [])).2[j]? = some s → w.cell? ⟨m, j, none⟩ = some (.int .i64 (s : Int))
theorem ST.old {w w' : World} {g : Nat} (h : ST w g) (hf : Fr (fun _ => False) w w') : ST w' g := by
  intro k hk
  obtain ⟨h1, h2, m, h3, h4⟩ := h k hk
  have c : ∀ a v, w.cell? a = some v → w'.cell? a = some v := fun a v e => by rw [hf.cell (World.block_lt_of_cell? _ _ e) id]; exact e
  exact ⟨c _ _ h1, c _ _ h2, m, c _ _ h3, fun j s hj => c _ _ (h4 j s hj)⟩
theorem Fr.grown {w w' : World} {row : Option Nat} (h : w.grownBy w' row) : Fr (fun k => row = some k) w w' := ⟨h.os, h.tape, h.output, h.size, fun k hk hn => h.block k hk (fun e => hn e.symm)⟩

theorem info_span : ∃ i z, Try.prog.info? 52 = some i ∧ i.zero = some z ∧ i.size = 3 ∧ i.bytes = 40 ∧ z.cells.size = 3 :=
  ⟨(Try.prog.info? 52).get (by kernel_rfl), ((Try.prog.info? 52).get (by kernel_rfl)).zero.get (by kernel_rfl), by kernel_rfl, by kernel_rfl, by kernel_rfl, by kernel_rfl, by kernel_rfl⟩

def SpanPost (w : World) (e : Ending) (w' : World) : Prop := ∃ g cap, e = .returned (.slice (some ⟨g, 0, none⟩) 21 cap) ∧ ST w' g ∧ Fr (fun _ => False) w w'
theorem rspans_any (w : World) : Calls Try.prog 11 #[] w fun e w' => SpanPost w e w' := by
  obtain ⟨i, z, hi1, hi2, hi3, hi4, hi5⟩ := info_span
  have J : Hid (Try.prog.info? 52 = some i ∧ i.zero = some z ∧ i.size = 3 ∧ i.bytes = 40 ∧ z.cells.size = 3) := ⟨hi1, hi2, hi3, hi4, hi5⟩
  clear hi1 hi2 hi3 hi4 hi5
  go_enter Try.func11, Try.ntmps11
  go_wp2_with (fail)
  refine (rrows_b w).mono ?_
  rintro e w1 ⟨n, rfl, hrt, hf⟩
  have HF : Hid (Fr (fun _ => False) w w1) := hf
  have HRT : Hid (RTb w1 n w.heap.size) := hrt
  clear hf hrt
  go_wp2_with (fail)
  go_loopw [1, 2, 3, 5] (fun v1 v2 v3 v5 wr => ∃ (k : Nat), k ≤ 21 ∧ v2 = .int .u64 (preR k).1 ∧ v3 = .int .i64 (preR k).2 ∧ v5 = .int .i64 k ∧ Hid (wr.ownsRow w1.heap.size 52 3 v1 k (spanCells w.heap.size k) ∧ Fr (fun _ => False) w1 wr)) (fun _ _ _ v5 _ => 21 - (intOf v5).toNat)
  case atStart => exact ⟨0, by omega, rfl, rfl, rfl, World.ownsRow_nil _ _ _ _, Fr.refl _ _⟩
  case round =>
    rename World => wo
    obtain ⟨k, hk, rfl, rfl, rfl, HO⟩ := hrel
    by_cases hlt : k < 21
    · have hci : (k : Int) < 21 := by omega
      have hfs := rowR_facts k hlt
      obtain ⟨c0', c1', cj⟩ := HRT.out k _ (row_at k hlt)
      have c0 : wo.cell? ⟨n, k * 2, none⟩ = some (.int .i64 ((tblR.getD k (0, [])).1 : Int)) := by rw [HO.out.2.cell (World.block_lt_of_cell? _ _ c0') id]; exact c0'
      have c1 : wo.cell? ⟨n, k * 2 + 1, none⟩ = some (.slice (some ⟨w.heap.size + k, 0, none⟩) (tblR.getD k (0, [])).2.length (tblR.getD k (0, [])).2.length) := by rw [HO.out.2.cell (World.block_lt_of_cell? _ _ c1') id]; exact c1'
      have hpre : preR k = ((stAt k).2.1, (stAt k).2.2) := by simp [preR, hlt]
      have hfo : firstOf k = (stAt k).2.1 * 2 ^ ((tblR.getD k (0, [])).1 - (stAt k).2.2) := rfl
      have hrow : spanRow w.heap.size k = [.int .i64 ((tblR.getD k (0, [])).1 : Int), .int .u64 (firstOf k : Int), .slice (some ⟨w.heap.size + k, 0, none⟩) (tblR.getD k (0, [])).2.length (tblR.getD k (0, [])).2.length] := rfl
      rw [hpre]
      have HNB : Hid (n < w1.heap.size) := World.block_lt_of_cell? _ _ c1'
      clear c0' c1' cj
      generalize hwd : (stAt k).2.1 = wd at *
      generalize hbt : (stAt k).2.2 = bt at *
      generalize hfi : firstOf k = fi at *
      generalize hrw : tblR.getD k (0, []) = r at *
      obtain ⟨b, l⟩ := r
      simp only at *
      obtain ⟨f1, f2, f3, f4, f5, f6, f7⟩ := hfs
      have HP : Hid (preR (k + 1) = (fi + l.length, b)) := f7
      have HFO : Hid (fi = wd * 2 ^ (b - bt)) := hfo
      obtain ⟨ll, hll⟩ : ∃ ll, ll = l.length := ⟨_, rfl⟩
      rw [← hll] at HP hrow f3 f5 f6 c1
      have HROW : Hid (spanRow w.heap.size k = [.int .i64 (b : Int), .int .u64 (fi : Int), .slice (some ⟨w.heap.size + k, 0, none⟩) ll ll]) := hrow
      clear hwd hbt hfi hrw hpre f7 hfo hrow hll
      go_wp2_with (fail)
      go_loop [2, 3] (fun v2 v3 => ∃ d : Nat, bt + d ≤ b ∧ v2 = .int .u64 (wd * 2 ^ d : Nat) ∧ v3 = .int .i64 (bt + d : Nat)) (fun _ v3 => b - (intOf v3).toNat)
      case atStart => exact ⟨0, by omega, by simp, rfl⟩
      case round =>
        obtain ⟨d, hd, rfl, rfl⟩ := hrel
        by_cases hdl : bt + d < b
        · have hci2 : ((bt + d : Nat) : Int) < (b : Int) := by omega
          have hx : wd * 2 ^ d ≤ 1073741824 := by
            have h1 : wd * 2 ^ d ≤ fi := by rw [HFO.out]; exact Nat.mul_le_mul_left _ (Nat.pow_le_pow_right (by omega) (by omega))
            omega
          obtain ⟨x, hxx⟩ : ∃ x, x = wd * 2 ^ d := ⟨_, rfl⟩
          obtain ⟨bd, hbd⟩ : ∃ bd, bd = bt + d := ⟨_, rfl⟩
          rw [← hxx] at hx ⊢
          rw [← hbd] at hci2 ⊢
          have HXX : Hid (x = wd * 2 ^ d) := hxx
          have HBD : Hid (bd = bt + d) := hbd
          clear hxx hbd hdl hd
          go_wp2_with (fail)
          go_round
          case rel =>
            refine ⟨d + 1, by have := HBD.out; omega, ?_, ?_⟩
            · rw [Nat.pow_succ, ← Nat.mul_assoc, ← HXX.out]; go_num
            · rw [← Nat.add_assoc, ← HBD.out]; go_num
          case measure => simp [intOf]; omega
        · have hbd : bt + d = b := by omega
          have hci2 : ¬ (b : Int) < (b : Int) := by omega
          have hfi : wd * 2 ^ d = fi := by rw [HFO.out]; congr 2; omega
          rw [hfi, hbd]
          clear hfi hbd hdl hd HFO
          have hlast := heap_alloc_new wo (.cells #[.int .i64 (b : Int), .int .u64 (fi : Int), .slice (some ⟨w.heap.size + k, 0, none⟩) ll ll] 52)
          have HOA : Hid ((wo.alloc (.cells #[.int .i64 (b : Int), .int .u64 (fi : Int), .slice (some ⟨w.heap.size + k, 0, none⟩) ll ll] 52)).ownsRow w1.heap.size 52 3 u1 k (spanCells w.heap.size k)) := HO.out.1.alloc _
          have HNW : Hid (∀ (j : Nat) u, (spanRow w.heap.size k)[j]? = some u → (wo.alloc (.cells #[.int .i64 (b : Int), .int .u64 (fi : Int), .slice (some ⟨w.heap.size + k, 0, none⟩) ll ll] 52)).cell? ((⟨wo.heap.size, 0, none⟩ : Addr).add j) = some u) := by
            intro j u hj
            rw [HROW.out] at hj
            rw [add_none, Nat.zero_add]
            exact cell_of_heap (last_at _ rfl) (by simpa using hj)
          have HONE : Hid (∀ u ∈ spanRow w.heap.size k, u.oneCell' = true) := by
            intro u hu
            rw [HROW.out] at hu
            simp at hu
            rcases hu with rfl | rfl | rfl <;> rfl
          have HLEN : Hid ((spanRow w.heap.size k).length = 1 * 3) := rfl
          have HSZ : Hid (w1.heap.size ≤ (wo.alloc (.cells #[.int .i64 (b : Int), .int .u64 (fi : Int), .slice (some ⟨w.heap.size + k, 0, none⟩) ll ll] 52)).heap.size) := by
            show _ ≤ _
            have := HO.out.2.size
            simp
            omega
          have HMX : Hid (k + 1 ≤ maxLen) := by show _ ≤ _; unfold maxLen; omega
          have HBY : Hid (((k + 1) + (k + 1) / 4 + 192) * 40 ≤ 281474976710656) := by show _ ≤ _; omega
          have c0n : (wo.cell? ⟨n, k * 2 + 1, none⟩).isSome = true := by rw [c1]; rfl
          have hnb : n < wo.heap.size := World.block_lt_of_cell? _ _ c1
          have HEND : Hid (∀ v2 w2, w2.ownsRow w1.heap.size 52 3 v2 (k + 1) (spanCells w.heap.size k ++ spanRow w.heap.size k) → (wo.alloc (.cells #[.int .i64 (b : Int), .int .u64 (fi : Int), .slice (some ⟨w.heap.size + k, 0, none⟩) ll ll] 52)).grownBy w2 u1.ownBlock → w2.ownsRow w1.heap.size 52 3 v2 (k + 1) (spanCells w.heap.size (k + 1)) ∧ Fr (fun _ => False) w1 w2) := by
            intro v2 w2 h1 h2
            refine ⟨by rw [spanCells_succ]; exact h1, ?_⟩
            have h3 : Fr (fun k => w1.heap.size ≤ k) w1 w2 := ((HO.out.2.alloc _).mono (fun _ _ e => e.elim)).trans ((Fr.grown h2).mono (fun k _ e => (HOA.out.lt k e).1))
            exact h3.old
          have HCK : Hid (∀ w2, (wo.alloc (.cells #[.int .i64 (b : Int), .int .u64 (fi : Int), .slice (some ⟨w.heap.size + k, 0, none⟩) ll ll] 52)).grownBy w2 u1.ownBlock → w2.cell? ⟨n, k * 2 + 1, none⟩ = some (.slice (some ⟨w.heap.size + k, 0, none⟩) ll ll)) := by
            intro w2 hg
            refine hg.cell (by rw [((Fr.refl (fun _ => False) wo).alloc _).cell (p := ⟨n, k * 2 + 1, none⟩) hnb id]; exact c1) (fun e => ?_)
            have := (HOA.out.lt n e.symm).1
            have hn1 : n < w1.heap.size := HNB.out
            omega
          clear hlast c0n
          go_wp2_with (at_builtin; refine wpList_append_own_wide _ rfl (.tmp 24) (.tmp 33) 37 rfl w1.heap.size 52 i z 3 40 Try.underlying37 J.out.1 J.out.2.1 J.out.2.2.1 J.out.2.2.2.1 J.out.2.2.2.2 (by omega) u1 k (spanCells w.heap.size k) (by go_simp) HOA.out ⟨wo.heap.size, 0, none⟩ 1 1 (spanRow w.heap.size k) (by go_simp) HLEN.out HNW.out HONE.out HMX.out HBY.out HSZ.out ?_; intro v2 w2 Hrow Hgr Hiff; have c2 := HCK.out w2 Hgr; have HR2 : Hid (w2.ownsRow w1.heap.size 52 3 v2 (k + 1) (spanCells w.heap.size (k + 1)) ∧ Fr (fun _ => False) w1 w2) := HEND.out v2 w2 Hrow Hgr; clear Hrow Hgr Hiff)
          go_roundw
          case rel =>
            refine ⟨k + 1, by omega, ?_, ?_, by go_num, HR2⟩
            · rw [HP.out]; go_num
            · rw [HP.out]
          case measure => simp [intOf]; omega
    · obtain rfl : k = 21 := by omega
      have hci : ¬ ((21 : Nat) : Int) < 21 := by omega
      have HE : Hid (∃ g cap, u1 = .slice (some ⟨g, 0, none⟩) 21 cap ∧ ST wo g) := by
        obtain ⟨hl, h⟩ := HO.out.1
        rcases h with ⟨_, h0⟩ | ⟨g, cap, cur, rfl, hb, hg, h1, h2, h3, h4⟩
        · omega
        · refine ⟨g, cap, rfl, ?_⟩
          intro k hk
          have hget : ∀ j u, j < 3 → (spanRow w.heap.size k)[j]? = some u → wo.cell? ⟨g, k * 3 + j, none⟩ = some u := by
            intro j u hj hu
            rw [← spanCells_get w.heap.size 21 k j hk hj, ← h4, List.getElem?_take, if_pos (by omega)] at hu
            exact cell_of_heap hg (by simpa using hu)
          obtain ⟨-, -, hj⟩ := HRT.out k _ (row_at k hk)
          refine ⟨hget 0 _ (by omega) rfl, hget 1 _ (by omega) rfl, w.heap.size + k, hget 2 _ (by omega) rfl, ?_⟩
          intro j s hs
          have := hj j s hs
          rw [HO.out.2.cell (World.block_lt_of_cell? _ _ this) id]
          exact this
      go_wp2_with (fail)
      go_ret
      obtain ⟨g, cap, e, hst⟩ := HE.out
      exact ⟨g, cap, by subst e; rfl, hst, HF.out.trans HO.out.2⟩

/-- None of the first i rows has the code R. -/
def NotRow (R : List Bool) (i : Nat) : Prop := ∀ k < i, ¬ ((tblR.getD k (0, [])).1 = R.length ∧ firstOf k ≤ val R ∧ val R < firstOf k + (tblR.getD k (0, [])).2.length)
theorem notRow_end {R : List Bool} (h : NotRow R 21) : symOf R = -1 := by
  have : find R = none := by
    apply find_none
    intro s hs e
    obtain ⟨k, j, hk, hj⟩ := in_some s hs
    have hc := place_code k j s hk hj
    rw [e] at hc
    have hjl := (List.getElem?_eq_some_iff.1 hj).1
    simp only [Prod.mk.injEq] at hc
    exact h k hk ⟨hc.2.symm, by omega, by omega⟩
  rw [symOf, this]
theorem row_sym {R : List Bool} {k j s : Nat} (hk : k < 21) (hj : (tblR.getD k (0, [])).2[j]? = some s) (hb : (tblR.getD k (0, [])).1 = R.length) (hv : val R = firstOf k + j) : symOf R = s := by
  have hc := place_code k j s hk hj
  rw [hb, ← hv] at hc
  rw [symOf, find_code' s (in_le k j s hk hj) R hc]

theorem rsymbol_any (g cap : Nat) (R : List Bool) (w : World) (hst : ST w g) (hR : R.length ≤ 30) :
    Calls Try.prog 12 #[.slice (some ⟨g, 0, none⟩) 21 cap, .int .u64 (val R : Nat), .int .i64 (R.length : Nat)] w fun e w' => e = .returned (.int .i64 (symOf R)) ∧ Fr (fun _ => False) w w' := by
  have hvl : val R < 1073741824 := Nat.lt_of_lt_of_le (val_lt R) (Nat.le_trans (Nat.pow_le_pow_right (by omega) hR) (by decide))
  have HST : Hid (ST w g) := hst
  have HNE : Hid (NotRow R 21 → symOf R = -1) := notRow_end
  have HRS : Hid (∀ k j s : Nat, k < 21 → (tblR.getD k (0, [])).2[j]? = some s → (tblR.getD k (0, [])).1 = R.length → val R = firstOf k + j → symOf R = (s : Int)) := fun k j s h1 h2 h3 h4 => row_sym h1 h2 h3 h4
  have HNS : Hid (∀ k, NotRow R k → ¬ ((tblR.getD k (0, [])).1 = R.length ∧ firstOf k ≤ val R ∧ val R < firstOf k + (tblR.getD k (0, [])).2.length) → NotRow R (k + 1)) := by
    intro k h1 h2 k' hk'
    rcases Nat.lt_or_ge k' k with h | h
    · exact h1 k' h
    · obtain rfl : k' = k := by omega
      exact h2
  have HN0 : Hid (NotRow R 0) := fun k hk => by omega
  obtain ⟨c, hc⟩ : ∃ c, c = val R := ⟨_, rfl⟩
  obtain ⟨n, hn⟩ : ∃ n, n = R.length := ⟨_, rfl⟩
  rw [← hc, ← hn]
  rw [← hc] at HRS HNS hvl
  rw [← hn] at HRS HNS hR
  clear hst hc hn
  go_enter Try.func12, Try.ntmps12
  go_wp2_with (fail)
  go_loopw [7] (fun v7 wr => ∃ k : Nat, k ≤ 21 ∧ v7 = .int .i64 k ∧ Hid (NotRow R k ∧ Fr (fun _ => False) w wr)) (fun v7 _ => 21 - (intOf v7).toNat)
  case atStart => exact ⟨0, by omega, rfl, HN0.out, Fr.refl _ _⟩
  case round =>
    obtain ⟨k, hk, rfl, HJ⟩ := hrel
    by_cases hlt : k < 21
    · have hci : (k : Int) < 21 := by omega
      obtain ⟨c0, c1, m, c2, cj⟩ := (HST.out.old HJ.out.2) k hlt
      have hfs := rowR_facts k hlt
      have HRSk : Hid (∀ j s : Nat, (tblR.getD k (0, [])).2[j]? = some s → (tblR.getD k (0, [])).1 = n → c = firstOf k + j → symOf R = (s : Int)) := fun j s h2 h3 h4 => HRS.out k j s hlt h2 h3 h4
      have HNSk : Hid (¬ ((tblR.getD k (0, [])).1 = n ∧ firstOf k ≤ c ∧ c < firstOf k + (tblR.getD k (0, [])).2.length) → NotRow R (k + 1)) := HNS.out k HJ.out.1
      generalize firstOf k = fi at *
      generalize tblR.getD k (0, []) = r at *
      obtain ⟨b, l⟩ := r
      simp only at *
      obtain ⟨f1, f2, f3, f4, f5, f6, -⟩ := hfs
      have HCJ : Hid (∀ (j s : Nat), l[j]? = some s → wr.cell? ⟨m, j, none⟩ = some (.int .i64 (s : Int))) := cj
      obtain ⟨ll, hll⟩ : ∃ ll, ll = l.length := ⟨_, rfl⟩
      rw [← hll] at c2 HNSk f3 f5 f6
      have HLL : Hid (ll = l.length) := hll
      clear cj f1 f4 hll
      obtain ⟨e, he⟩ : ∃ e, e = fi + ll := ⟨_, rfl⟩
      have hei : (fi : Int) + ll = (e : Int) := by omega
      have heb : e ≤ 1073741824 := by omega
      rw [← he] at HNSk
      have HE : Hid (e = fi + ll) := he
      clear he
      by_cases h1 : b = n
      · have h1i : (b : Int) = n := by omega
        by_cases h2 : fi ≤ c
        · have h2i : (fi : Int) ≤ c := by omega
          have h2d : decide ((fi : Int) ≤ c) = true := by simp; omega
          by_cases h3 : c < e
          · have h3i : (c : Int) < e := by omega
            have h3d : decide ((c : Int) < e) = true := by simp; omega
            obtain ⟨j, hj⟩ : ∃ j, j = c - fi := ⟨_, rfl⟩
            have hji : (c : Int) - fi = (j : Int) := by omega
            have hjl : j < ll := by have := HE.out; omega
            have hjli : (j : Int) < ll := by omega
            obtain ⟨s, hs⟩ : ∃ s, l[j]? = some s := ⟨_, List.getElem?_eq_getElem (by rw [← HLL.out]; exact hjl)⟩
            have cs := HCJ.out j s hs
            have HSY : Hid (symOf R = (s : Int)) := HRSk.out j s hs h1 (by omega)
            clear HRSk HNSk hs hj
            subst h1
            go_wp2_with (fail)
            go_quiet (fail)
            go_wp2_with (fail)
            go_quiet (fail)
            go_wp2_with (fail)
            go_ret
            exact ⟨by rw [HSY.out]; rfl, (HJ.out.2.drewN _).drewN _⟩
          · have h3i : ¬ (c : Int) < e := by omega
            have h3d : decide ((c : Int) < e) = false := by simp; omega
            have HN : Hid (NotRow R (k + 1)) := HNSk.out (fun h => h3 h.2.2)
            clear HRSk HNSk
            subst h1
            go_wp2_with (fail)
            go_quiet (fail)
            go_wp2_with (fail)
            go_roundw
            case rel => exact ⟨k + 1, by omega, by go_num, HN.out, HJ.out.2.drewN _⟩
            case measure => simp [intOf]; omega
        · have h2i : ¬ (fi : Int) ≤ c := by omega
          have h2d : decide ((fi : Int) ≤ c) = false := by simp; omega
          have HN : Hid (NotRow R (k + 1)) := HNSk.out (fun h => h2 h.2.1)
          clear HRSk HNSk
          subst h1
          go_wp2_with (fail)
          go_quiet (fail)
          go_wp2_with (fail)
          go_roundw
          case rel => exact ⟨k + 1, by omega, by go_num, HN.out, HJ.out.2.drewN _⟩
          case measure => simp [intOf]; omega
      · have h1i : ¬ (b : Int) = n := by omega
        have h1d : ((b : Int) == n) = false := by simp; omega
        have HN : Hid (NotRow R (k + 1)) := HNSk.out (fun h => h1 h.1)
        clear HRSk HNSk
        go_wp2_with (fail)
        go_quiet (fail)
        go_wp2_with (fail)
        go_roundw
        case rel => exact ⟨k + 1, by omega, by go_num, HN.out, HJ.out.2.drewN _⟩
        case measure => simp [intOf]; omega
    · obtain rfl : k = 21 := by omega
      have hci : ¬ ((21 : Nat) : Int) < 21 := by omega
      go_wp2_with (fail)
      go_ret
      exact ⟨by rw [HNE.out HJ.out.1]; rfl, HJ.out.2⟩

end Go.Proofs.Ytcmdhdpedonihaa
