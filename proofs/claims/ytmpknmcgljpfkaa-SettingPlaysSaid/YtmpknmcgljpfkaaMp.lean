/- The document's Apply. -/
import Derived.Test.YtmpknmcgljpfkaaMo
namespace Go.Proofs.Ytmpknmcgljpfkaa
open Go.RowKit Go.Maps
set_option linter.unusedVariables false
set_option maxRecDepth 100000
set_option maxHeartbeats 4000000

theorem row_u32 {V : Int → Nat} {k : Nat} {v : Value} (h : (rowV V)[k]? = some v) : ∃ x, v = .int .u32 x := by
  obtain ⟨hk, rfl⟩ := Array.getElem?_eq_some_iff.1 h
  have hk9 : k < 9 := hk
  obtain rfl | rfl | rfl | rfl | rfl | rfl | rfl | rfl | rfl : k = 0 ∨ k = 1 ∨ k = 2 ∨ k = 3 ∨ k = 4 ∨ k = 5 ∨ k = 6 ∨ k = 7 ∨ k = 8 := by omega
  all_goals exact ⟨_, rfl⟩
theorem sets_neV {w : World} {b : Nat} {V : Int → Nat} {q : Option Addr} {c : Nat} {Y : List (Int × Nat)} (h : w.heap[b]? = some (.cells (rowV V) 22 (0, 0))) (hY : SetsAt w q c Y) : ∀ ad, q = some ad → 0 < Y.length → ¬ ad.block = b := by
  rintro ad hq hl rfl
  obtain ⟨g, o, hq', hg, h0, -⟩ := hY.cells 0 Y[0] (by simp)
  rw [hq] at hq'
  cases hq'
  simp [World.cell?, h] at h0
  obtain ⟨x, hx⟩ := row_u32 h0
  cases hx
/-- The document's code is the program's. -/
theorem code_ref {V : Int → Nat} (hV : OkV V) {d : Int} {m : Nat} (hk : kn d = true) (h : ¬ (d = 8 ∧ m = 0 ∧ V 8 = 1)) : codeO d (V d) m = checkO d m := by
  unfold checkO
  rw [if_pos hk]
  rcases kn_cases hk with rfl | rfl | rfl | rfl | rfl | rfl | rfl
  · rfl
  · rfl
  · rfl
  · rfl
  · rfl
  · rfl
  · have h8 : V 8 ≤ 1 := by
      have := hV.2 8 rfl
      by_cases hn : V 8 ≤ 1
      · exact hn
      · simp [codeO, fitsB, badC, hn] at this
    by_cases hm : m ≤ 1
    · by_cases hle : V 8 ≤ m
      · simp [codeO, fitsB, hm, hle, firstV]
      · exact absurd ⟨rfl, by omega, by omega⟩ h
    · simp [codeO, fitsB, hm, badC]
structure RApS (w0 w : World) (g b : Nat) (a : Option Addr) (n c : Nat) (L : List (Option Addr × Nat × List (Int × Nat))) (q : Option Addr) (cq : Nat) (Y : List (Int × Nat)) (V : Int → Nat) (i : Nat) (Vi : Int → Nat) (wr : World) : Prop where
  ref : RefQ w0 wr g b Vi a n c L
  res : wr.heap[w.heap.size]? = some (.cells #[.bool false, .int .i64 0, .int .i64 0] 37 (0, 0))
  sets : SetsAt wr q cq Y
  fr : Fr (fun k => k = b) w wr
  eq : applyO V Y = applyO Vi (Y.drop i)
  lt : b < w.heap.size
  old : w0.heap.size ≤ w.heap.size
theorem RApS.later {w0 w wr w' : World} {g b : Nat} {a : Option Addr} {n c : Nat} {L : List (Option Addr × Nat × List (Int × Nat))} {q : Option Addr} {cq : Nat} {Y : List (Int × Nat)} {V : Int → Nat} {i : Nat} {Vi : Int → Nat} (h : RApS w0 w g b a n c L q cq Y V i Vi wr) (hf : Fr (fun _ => False) wr w') : RApS w0 w g b a n c L q cq Y V i Vi w' :=
  { h with ref := h.ref.later hf, res := (hf.block _ (lt_of_heap h.res) id).trans h.res, sets := h.sets.later hf, fr := h.fr.trans (hf.mono (fun _ _ e => e.elim)) }
theorem RApS.step {w0 w wr : World} {g b : Nat} {a : Option Addr} {n c : Nat} {L : List (Option Addr × Nat × List (Int × Nat))} {q : Option Addr} {cq : Nat} {Y : List (Int × Nat)} {V : Int → Nat} {i : Nat} {Vi : Int → Nat} (h : RApS w0 w g b a n c L q cq Y V i Vi wr) (he : applyO V Y = applyO Vi (Y.drop (i + 1))) : RApS w0 w g b a n c L q cq Y V (i + 1) Vi wr := { h with eq := he }
theorem RApS.put {w0 w wr : World} {g b : Nat} {a : Option Addr} {n c : Nat} {L : List (Option Addr × Nat × List (Int × Nat))} {q : Option Addr} {cq : Nat} {Y : List (Int × Nat)} {V : Int → Nat} {i : Nat} {Vi : Int → Nat} (h : RApS w0 w g b a n c L q cq Y V i Vi wr) (j m : Nat) (hk : kn (j : Int) = true) (hok : OkV (setV Vi (j : Int) m)) (he : applyO V Y = applyO (setV Vi (j : Int) m) (Y.drop (i + 1))) : RApS w0 w g b a n c L q cq Y V (i + 1) (setV Vi (j : Int) m) (wr.setCell ⟨b, j, none⟩ (.int .u32 (m : Int))) := by
  have hf : Fr (fun k => k = b) wr (wr.setCell ⟨b, j, none⟩ (.int .u32 (m : Int))) := (Fr.refl _ _).setB j _
  have hg := h.ref.ne
  refine ⟨⟨(hf.block _ (lt_of_heap h.ref.set) hg).trans h.ref.set, ?_, h.ref.own.fr hf (fun k e e2 => ?_), fun x hx => (h.ref.copies x hx).fr hf (fun k cur hc e => tag_set hc h.ref.vals (by decide) e), hok, fr_new h.ref.fr hf (fun k e => by subst e; exact h.ref.new.1), h.ref.new, h.ref.newQ⟩, (hf.block _ (lt_of_heap h.res) (by have := h.lt; omega)).trans h.res, h.sets.fr hf (sets_neV h.ref.vals h.sets), h.fr.trans hf, he, h.lt, h.old⟩
  · rw [sset h.ref.vals, rowV_set _ _ _ hk]
  · subst e2
    exact tag_own h.ref.vals h.ref.own (by decide) e
/-- What the document's Apply leaves. -/
def RAppAs (w0 w : World) (g b : Nat) (V : Int → Nat) (a : Option Addr) (n c : Nat) (L : List (Option Addr × Nat × List (Int × Nat))) (V' : Int → Nat) (cd : Int) (e : Ending) (w' : World) : Prop :=
  e = .returned (.tuple #[.int .i64 (if cd = 0 then (V' 4 : Int) - (V 4 : Int) else 0), .agg #[.bool (cd != 0), .int .i64 0, .int .i64 cd]]) ∧ RefQ w0 w' g b V' a n c L ∧ Fr (fun k => k = b) w w'
theorem RApS.fell {w0 w wr y : World} {g b : Nat} {a : Option Addr} {n c : Nat} {L : List (Option Addr × Nat × List (Int × Nat))} {q : Option Addr} {cq : Nat} {Y : List (Int × Nat)} {V : Int → Nat} {i : Nat} {Vi : Int → Nat} (h : RApS w0 w g b a n c L q cq Y V i Vi wr) (hf : Fr (fun k => k = w.heap.size) wr y) : RefQ w0 y g b Vi a n c L ∧ Fr (fun k => k = b) w y := by
  have hne : ∀ (k : Nat) cur t, wr.heap[k]? = some (.cells cur t (0, 0)) → t ≠ 37 → ¬ k = w.heap.size := fun k cur t hk ht => cells_ne9 hk h.res ht
  refine ⟨h.ref.fr' hf (fun k e => by subst e; exact h.old) (hne _ _ _ h.ref.set (by decide)) (hne _ _ _ h.ref.vals (by decide)) (fun k e e2 => ?_) (fun k cur hc => hne _ _ _ hc (by decide)), ?_⟩
  · subst e2
    exact tag_own h.res h.ref.own (by decide) e
  · exact ((h.fr.mono (T := fun k => k = b ∨ w.heap.size ≤ k) (fun _ _ e => .inl e)).trans (hf.mono (fun k _ e => by omega))).mono (fun k hk e => by omega)
theorem rsApply_in {w0 w : World} {g b : Nat} {V V' : Int → Nat} {cd : Int} {a : Option Addr} {n c : Nat} {L : List (Option Addr × Nat × List (Int × Nat))} (h : RefQ w0 w g b V a n c L) (q : Option Addr) (cq N : Nat) (Y : List (Int × Nat)) (hY : SetsAt w q cq Y) (hn : Y.length = N) (ho : applyO V Y = (V', cd)) :
    Calls Try.prog 15 #[.pointer (some ⟨g, 0, none⟩), .slice q N cq] w fun e w' => RAppAs w0 w g b V a n c L V' cd e w' := by
  obtain ⟨W, hW⟩ : ∃ W, W = w.alloc (.cells #[.bool false, .int .i64 0, .int .i64 0] 37) := ⟨_, rfl⟩
  have hf0 : Fr (fun _ => False) w W := by rw [hW]; exact (Fr.refl _ _).alloc _
  have S0 : Hid (RApS w0 w g b a n c L q cq Y V 0 V W) := ⟨h.later hf0, by rw [hW]; exact heap_alloc_new w _, hY.later hf0, hf0.mono (fun _ _ e => e.elim), rfl, lt_of_heap h.vals, h.fr.size⟩
  have KC : Hid (∀ d (m : Nat) w, Calls Try.prog 10 #[.agg #[.int .i64 d, .int .u32 (m : Int)]] w fun e w' => e = .returned (.int .i64 (checkO d m)) ∧ Fr (fun _ => False) w w') := fun d m w => rsCheck_in d m w
  have HO : Hid (applyO V Y = (V', cd)) := ho
  have HN : Hid (Y.length = N) := hn
  have hn2 : (N : Int) ≤ 9223372036854775806 := by have := hY.few; rw [hn] at this; omega
  obtain ⟨x4, hx4⟩ : ∃ x4, V 4 = x4 := ⟨_, rfl⟩
  have HX4 : Hid (V 4 = x4) := hx4
  have hx4b : (x4 : Int) ≤ 4294967295 := by have := h.ok.1 4; rw [hx4] at this; omega
  have c0 : W.cell? ⟨g, 0, none⟩ = some (.slice (some ⟨b, 0, none⟩) 9 9) := cell_of_heap S0.out.ref.set rfl
  have c1 : W.cell? ⟨b, 4, none⟩ = some (.int .u32 (x4 : Int)) := by rw [← hx4]; exact cell_of_heap S0.out.ref.vals rfl
  clear hx4 h hY hn ho hf0
  go_enter Try.func15, Try.ntmps15
  go_upto_region 1 with (fail)
  rw [← hW]
  clear hW
  go_wp2_with (fail)
  clear c0 c1
  go_loopw [7] (fun x7 wr => ∃ (i : Nat) (Vi : Int → Nat), x7 = .int .i64 (i : Int) ∧ i ≤ N ∧ Hid (RApS w0 w g b a n c L q cq Y V i Vi wr)) (fun x7 _ => N - (intOf x7).toNat)
  case atStart => exact ⟨0, V, rfl, by omega, S0.out⟩
  case round =>
    clear S0
    obtain ⟨i, Vi, rfl, hin, HS⟩ := hrel
    by_cases hlt : i < N
    · obtain ⟨⟨d, m⟩, hs⟩ : ∃ s, Y[i]? = some s := ⟨Y[i]'(by rw [HN.out]; exact hlt), List.getElem?_eq_getElem _⟩
      have HY : Hid (Y[i]? = some (d, m)) := hs
      have HD : Hid (Y.drop i = (d, m) :: Y.drop (i + 1)) := List.drop_eq_getElem?_toList_append.trans (by rw [hs]; rfl)
      obtain ⟨gq, oq, rfl, -, d0, d1, -, hm⟩ := HS.out.sets.cells i _ hs
      have hlt2 : (i : Int) < (N : Int) := by omega
      clear hs
      dsimp only at d0 d1 hm
      obtain ⟨ck, hck⟩ : ∃ ck, checkO d m = ck := ⟨_, rfl⟩
      have K1 := KC.out d m wr
      rw [hck] at K1
      have HCK : Hid (checkO d m = ck) := hck
      clear hck
      go_upto_region 6 with (go_at_call 10; refine K1.mono ?_; clear K1; rintro e w2 ⟨rfl, hf2⟩; have S2 : Hid (RApS w0 w g b a n c L (some ⟨gq, oq, none⟩) cq Y V i Vi w2) := HS.out.later hf2; clear hf2)
      clear HS d0 d1
      obtain ⟨gq', oq', e9, -, d0, d1, -, -⟩ := S2.out.sets.cells i _ HY.out
      cases e9
      dsimp only at d0 d1
      obtain ⟨x8, hx8⟩ : ∃ x8, Vi 8 = x8 := ⟨_, rfl⟩
      have HX8 : Hid (Vi 8 = x8) := hx8
      have c0 : w2.cell? ⟨g, 0, none⟩ = some (.slice (some ⟨b, 0, none⟩) 9 9) := cell_of_heap S2.out.ref.set rfl
      have c8 : w2.cell? ⟨b, 8, none⟩ = some (.int .u32 (x8 : Int)) := by rw [← hx8]; exact cell_of_heap S2.out.ref.vals rfl
      clear hx8
      by_cases hA : d = 8 ∧ m = 0 ∧ x8 = 1
      · obtain ⟨rfl, rfl, rfl⟩ := hA
        have HE : Hid (applyO V Y = (Vi, 1)) := by
          show _ = _
          rw [S2.out.eq, HD.out, applyO]
          dsimp only
          rw [if_pos (show kn 8 = true from rfl), HX8.out, if_neg (by decide)]
          rfl
        go_wp2_with (refine wpList_storeB rfl 37 (.tmp 5) (.tmp 53) rfl w.heap.size #[.bool false, .int .i64 0, .int .i64 0] #[.bool true, .int .i64 0, .int .i64 1] 37 rfl rfl S2.out.res rfl (by kernel_rfl) (by simp [Value.oneCell']) ?_; intro y H G)
        have k0 : y.cell? ⟨w.heap.size, 0, none⟩ = some (.bool true) := cell_of_heap H.out rfl
        have k1 : y.cell? ⟨w.heap.size, 1, none⟩ = some (.int .i64 0) := cell_of_heap H.out rfl
        have k2 : y.cell? ⟨w.heap.size, 2, none⟩ = some (.int .i64 1) := cell_of_heap H.out rfl
        refine bodyPost_ret (v := .tuple #[.int .i64 0, .agg #[.bool true, .int .i64 0, .int .i64 1]]) (by simp [results, Try.results15, go_sem, k0, k1, k2]) rfl ?_
        have hcv := HO.out
        rw [HE.out] at hcv
        cases hcv
        have hf := S2.out.fell G.out
        exact ⟨by rw [if_neg (by decide)]; rfl, hf⟩
      · have HB : Hid (¬ (d = 8 ∧ m = 0 ∧ Vi 8 = 1)) := by rw [HX8.out]; exact hA
        have hw : (d == 8) = false ∨ ((d == 8) = true ∧ ((m : Int) == 0) = false) ∨ ((d == 8) = true ∧ ((m : Int) == 0) = true ∧ ((x8 : Int) == 1) = false) := by
          by_cases h1 : d = 8
          · by_cases h2 : m = 0
            · exact .inr (.inr ⟨by simp [h1], by simp [h2], by simp; omega⟩)
            · exact .inr (.inl ⟨by simp [h1], by simp; omega⟩)
          · exact .inl (by simp [h1])
        clear hA
        rcases hw with hw1 | ⟨hw1, hw2⟩ | ⟨hw1, hw2, hw3⟩
        all_goals go_upto_region 8 with (fail)
        all_goals clear hw1 c8
        all_goals try clear hw2
        all_goals try clear hw3
        all_goals
          by_cases hz : ck = 0
          · subst hz
            have K2 := rsknown_in d w2
            cases hk : kn d
            · rw [hk] at K2
              have HE : Hid (applyO V Y = applyO Vi (Y.drop (i + 1))) := by
                show _ = _
                rw [S2.out.eq, HD.out, applyO]
                simp [hk]
              clear hk
              go_wp2_with (go_at_call 30; refine K2.mono ?_; clear K2; rintro e w3 ⟨rfl, rfl⟩)
              go_roundw
              case rel => exact ⟨i + 1, Vi, by go_num, by omega, S2.out.step HE.out⟩
              case measure => simp [intOf]; omega
            · rw [hk] at K2
              have hcr := code_ref S2.out.ref.ok hk HB.out
              rw [HCK.out] at hcr
              obtain ⟨j, rfl, hj1, hj9⟩ := kn_nat hk
              have HE : Hid (applyO V Y = applyO (setV Vi (j : Int) m) (Y.drop (i + 1))) := by
                show _ = _
                rw [S2.out.eq, HD.out, applyO]
                simp [hk, hcr]
              have HK : Hid (kn (j : Int) = true) := hk
              have HOK : Hid (OkV (setV Vi (j : Int) m)) := S2.out.ref.ok.set hm hcr
              have hj2 : (j : Int) < 9 := by omega
              clear hk hcr
              go_wp2_with (go_at_call 30; refine K2.mono ?_; clear K2; rintro e w3 ⟨rfl, rfl⟩)
              refine wp_region_cut 15 1 #[true, true, true, true, true, true, true, true, true, true, true, true, true, true, true, false] (by kernel_rfl) (by kernel_rfl) rfl rfl ?_
              simp only [List.take_succ_cons, List.take_zero]
              repeat (go_big_quiet_step (fail))
              refine wpQuiet_nil ?_
              rintro _ ⟨nq, rfl⟩ mm
              have S3 : Hid (RApS w0 w g b a n c L (some ⟨gq, oq, none⟩) cq Y V i Vi (w2.drewN nq)) := S2.out.later ((Fr.refl _ _).drewN nq)
              have b1 : (w2.drewN nq).cell? ⟨b, j, none⟩ = some (.int .u32 (Vi (j : Int) : Nat)) := cell_of_heap S3.out.ref.vals (rowV_at Vi j HK.out)
              have b2 : (w2.drewN nq).frozen? ⟨b, j, none⟩ = false := frozen_of_heap S3.out.ref.vals
              have S4 : Hid (RApS w0 w g b a n c L (some ⟨gq, oq, none⟩) cq Y V (i + 1) (setV Vi (j : Int) m) ((w2.drewN nq).setCell ⟨b, j, none⟩ (.int .u32 (m : Int)))) := S3.out.put j m HK.out HOK.out HE.out
              refine wpAny_ready (rs := [15]) (by kernel_rfl) (by simp) ?_
              refine AllReady.cons rfl (fun K hK => ?_) AllReady.nil
              go_simp
              refine hK _ _ ?_
              clear hK K S3 b1 b2
              obtain ⟨w4, hw4⟩ : ∃ w4, w4 = (w2.drewN nq).setCell ⟨b, j, none⟩ (.int .u32 (m : Int)) := ⟨_, rfl⟩
              rw [← hw4] at S4 ⊢
              clear hw4
              refine wpAny_done (by kernel_rfl) ?_ _
              go_wp2_with (fail)
              go_roundw
              case rel => exact ⟨i + 1, setV Vi (j : Int) m, by go_num, by omega, S4.out⟩
              case measure => simp [intOf]; omega
          · have hk : kn d = true := by
              cases hk : kn d
              · have := HCK.out
                simp [checkO, hk] at this
                exact absurd this.symm hz
              · rfl
            have hcr := code_ref S2.out.ref.ok hk HB.out
            rw [HCK.out] at hcr
            have HE : Hid (applyO V Y = (Vi, ck)) := by
              show _ = _
              rw [S2.out.eq, HD.out, applyO]
              dsimp only
              rw [if_pos hk, hcr, if_neg hz]
            have hzb : (ck != 0) = true := by simp [hz]
            have HZ : Hid (¬ ck = 0) := hz
            clear hk hcr
            go_wp2_with (refine wpList_storeB rfl 37 (.tmp 5) (.tmp 53) rfl w.heap.size #[.bool false, .int .i64 0, .int .i64 0] #[.bool true, .int .i64 0, .int .i64 ck] 37 rfl rfl S2.out.res rfl (by kernel_rfl) (by simp [Value.oneCell']) ?_; intro y H G)
            have k0 : y.cell? ⟨w.heap.size, 0, none⟩ = some (.bool true) := cell_of_heap H.out rfl
            have k1 : y.cell? ⟨w.heap.size, 1, none⟩ = some (.int .i64 0) := cell_of_heap H.out rfl
            have k2 : y.cell? ⟨w.heap.size, 2, none⟩ = some (.int .i64 ck) := cell_of_heap H.out rfl
            refine bodyPost_ret (v := .tuple #[.int .i64 0, .agg #[.bool true, .int .i64 0, .int .i64 ck]]) (by simp [results, Try.results15, go_sem, k0, k1, k2]) rfl ?_
            have hcv := HO.out
            rw [HE.out] at hcv
            cases hcv
            have hf := S2.out.fell G.out
            exact ⟨by rw [if_neg HZ.out, hzb], hf⟩
    · obtain rfl : i = N := by omega
      have HE : Hid (applyO V Y = (Vi, 0)) := by
        show _ = _
        rw [HS.out.eq, List.drop_of_length_le (by rw [HN.out]; exact Nat.le_refl _), applyO]
      obtain ⟨y4, hy4⟩ : ∃ y4, Vi 4 = y4 := ⟨_, rfl⟩
      have HY4 : Hid (Vi 4 = y4) := hy4
      have hy4b : (y4 : Int) ≤ 4294967295 := by have := HS.out.ref.ok.1 4; rw [hy4] at this; omega
      have c0 : wr.cell? ⟨g, 0, none⟩ = some (.slice (some ⟨b, 0, none⟩) 9 9) := cell_of_heap HS.out.ref.set rfl
      have c1 : wr.cell? ⟨b, 4, none⟩ = some (.int .u32 (y4 : Int)) := by rw [← hy4]; exact cell_of_heap HS.out.ref.vals rfl
      clear hy4
      go_wp2_with (refine wpList_storeB rfl 37 (.tmp 5) (.tmp 84) rfl w.heap.size #[.bool false, .int .i64 0, .int .i64 0] #[.bool false, .int .i64 0, .int .i64 0] 37 rfl rfl HS.out.res rfl (by kernel_rfl) (by simp [Value.oneCell']) ?_; intro y H G)
      have k0 : y.cell? ⟨w.heap.size, 0, none⟩ = some (.bool false) := cell_of_heap H.out rfl
      have k1 : y.cell? ⟨w.heap.size, 1, none⟩ = some (.int .i64 0) := cell_of_heap H.out rfl
      have k2 : y.cell? ⟨w.heap.size, 2, none⟩ = some (.int .i64 0) := cell_of_heap H.out rfl
      refine bodyPost_ret (v := .tuple #[.int .i64 ((y4 : Int) - (x4 : Int)), .agg #[.bool false, .int .i64 0, .int .i64 0]]) (by simp [results, Try.results15, go_sem, k0, k1, k2]) rfl ?_
      have hcv := HO.out
      rw [HE.out] at hcv
      cases hcv
      exact ⟨by rw [if_pos rfl, HY4.out, HX4.out]; rfl, HS.out.fell G.out⟩
end Go.Proofs.Ytmpknmcgljpfkaa
