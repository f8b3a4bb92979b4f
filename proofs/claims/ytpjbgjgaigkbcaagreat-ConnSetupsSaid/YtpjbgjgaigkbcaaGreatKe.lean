/- New: a connection is made. -/
import Derived.Test.YtpjbgjgaigkbcaaGreatKd
import Derived.Deep.RegionHeldLaw
import Derived.Deep.DeepCutAuto
import Derived.Lib.SlBytesConst
namespace Go.Proofs.YtpjbgjgaigkbcaaGreat
open Go.RowKit Go.Maps
set_option linter.unusedVariables false
set_option linter.unusedSimpArgs false
set_option maxRecDepth 100000
set_option maxHeartbeats 4000000

/-- Where New stands: the connection's block, the setup's box, settings that nothing waits of, a map of no flows. -/
structure NSt (w : World) (sc : Array Value) (c mF gs bs : Nat) (V : Array Value) (wc : World) : Prop where
  con : ConnC wc c V
  box : wc.heap[w.heap.size]? = some (.cells sc 23 (0, 0))
  set : SetC wc gs bs (.slice none 0 0)
  map : MapAt wc mF 0 (fun _ => none)
  new : w.heap.size ≤ c
  snew : w.heap.size ≤ gs
  fr : Fr (fun _ => False) w wc
theorem NSt.nb {w wc : World} {sc V : Array Value} {c mF gs bs : Nat} (h : NSt w sc c mF gs bs V wc) : w.heap.size ≠ c := by
  intro e
  have h1 := h.con
  rw [ConnC, ← e, h.box] at h1
  simp at h1
theorem NSt.ng {w wc : World} {sc V : Array Value} {c mF gs bs : Nat} (h : NSt w sc c mF gs bs V wc) : gs ≠ c := by
  intro e
  have h1 := h.con
  have h2 := h.set
  rw [SetC, e] at h2
  rw [ConnC, h2] at h1
  simp at h1
theorem NSt.later {w wc wd : World} {sc V : Array Value} {c mF gs bs : Nat} (h : NSt w sc c mF gs bs V wc) (hf : Fr (fun _ => False) wc wd) : NSt w sc c mF gs bs V wd :=
  ⟨h.con.fr hf id, (hf.block _ (lt_of_heap h.box) id).trans h.box, h.set.fr hf id, h.map.fr hf id, h.new, h.snew, h.fr.trans hf⟩
theorem NSt.put {w wc : World} {sc V : Array Value} {c mF gs bs : Nat} (h : NSt w sc c mF gs bs V wc) (j : Nat) (v : Value) : NSt w sc c mF gs bs (V.setIfInBounds j v) (wc.setCell ⟨c, j, none⟩ v) := by
  have hf : Fr (fun k => k = c) wc (wc.setCell ⟨c, j, none⟩ v) := (Fr.refl _ _).setB j v
  exact ⟨h.con.set v, (hf.block _ (lt_of_heap h.box) h.nb).trans h.box, h.set.fr hf h.ng, h.map.fr hf (h.map.ne h.con), h.new, h.snew, Fr.setCell h.fr ⟨c, j, none⟩ (fun hk => by have := h.new; dsimp only at hk; omega) v⟩
theorem NSt.setup {w wc : World} {sc V : Array Value} {c mF gs bs : Nat} (h : NSt w sc c mF gs bs V wc) {j : Nat} {v : Value} (hv : sc[j]? = some v) : wc.cell? ⟨w.heap.size, j, none⟩ = some v := cell_of_heap h.box hv
theorem NSt.cell {w wc : World} {sc V : Array Value} {c mF gs bs : Nat} (h : NSt w sc c mF gs bs V wc) {j : Nat} {v : Value} (hv : V[j]? = some v) : wc.cell? ⟨c, j, none⟩ = some v ∧ wc.frozen? ⟨c, j, none⟩ = false := ⟨cell_of_heap h.con hv, frozen_of_heap h.con⟩
/-- The frame that a connection writes first. -/
def setF (Y : List (Int × Nat)) : Fra := ⟨4, 0, 0, [], 0, 0, 0, 0, 0, false, 0, Y⟩
/-- How many bytes are written when a connection is made. -/
def greetN (sv : Bool) (Y : List (Int × Nat)) : Nat := (if sv then 0 else 24) + (writeO (setF Y)).2.length
/-- What New answers where the setup may be. -/
def NewAs (w : World) (n : Nat) (e : Ending) (w' : World) : Prop := ∃ c, e = .returned (.tuple #[.pointer (some ⟨c, 0, none⟩), .int .i64 0]) ∧ ConnAt w' c n ∧ Fr (fun _ => False) w w'
theorem setF_in {w : World} {q : Option Addr} {cq : Nat} {Y : List (Int × Nat)} (h : SetsAt w q cq Y) : FrIn w (setF Y) none q cq :=
  ⟨SrcAt.nil _ _, h, by simp [setF], by simp [setF], rfl, rfl, rfl, rfl, rfl, rfl, rfl, rfl⟩

theorem src_marked {w : World} {g : Nat} {cs : Array Value} {t : TypeId} {fr : Nat × Nat} {X : List UInt8} (hg : w.heap[g]? = some (.cells cs t fr)) (h : cs.toList = bv X) : SrcAt w (some ⟨g, 0, none⟩) X := by
  intro j c hj
  refine ⟨_, rfl, ?_⟩
  rw [add_none, Nat.zero_add]
  refine cell_of_heap hg ?_
  have h1 : cs.toList[j]? = some (.int .u8 c.toNat) := by rw [h]; exact (bv_get _ _ _).2 ⟨c, hj, rfl⟩
  simpa using h1
theorem greet_len (sv : Bool) (st wd fr ls tb : Nat) : (writeO (setF (offY sv st wd fr ls tb))).2.length = if sv then 45 else 39 := by
  cases sv <;> rfl
theorem kNew_yes (sv : Bool) (st wd fr ls tb qu : Nat) (w : World) (h1 : st ≤ 1024) (h2 : wd ≤ 2147483647) (h3 : 16384 ≤ fr) (h4 : fr ≤ 16777215) (h5 : ls ≤ 2147483647) (h6 : tb ≤ 65536) (h7 : qu ≤ 1048576) :
    Calls Tryz.prog 4 #[.agg #[.bool sv, .int .i64 (st : Int), .int .i64 (wd : Int), .int .i64 (fr : Int), .int .i64 (ls : Int), .int .i64 (tb : Int), .int .i64 (qu : Int)]] w (NewAs w (greetN sv (offY sv st wd fr ls tb))) := by
  obtain ⟨W, hW⟩ : ∃ W, W = w.alloc (.cells #[.bool sv, .int .i64 (st : Int), .int .i64 (wd : Int), .int .i64 (fr : Int), .int .i64 (ls : Int), .int .i64 (tb : Int), .int .i64 (qu : Int)] 23) := ⟨_, rfl⟩
  have HFW : Hid (Fr (fun _ => False) w W) := by rw [hW]; exact (Fr.refl _ _).alloc _
  have HBX : Hid (W.heap[w.heap.size]? = some (.cells #[.bool sv, .int .i64 (st : Int), .int .i64 (wd : Int), .int .i64 (fr : Int), .int .i64 (ls : Int), .int .i64 (tb : Int), .int .i64 (qu : Int)] 23 (0, 0))) := by rw [hW]; exact heap_alloc_new w _
  have KF := fits_in ⟨sv, (st : Int), (wd : Int), (fr : Int), (ls : Int), (tb : Int), (qu : Int)⟩ W
  have hmay : stpB ⟨sv, (st : Int), (wd : Int), (fr : Int), (ls : Int), (tb : Int), (qu : Int)⟩ = true := by
    simp [stpB, btw]
    omega
  rw [hmay] at KF
  dsimp only at KF
  have KR : Hid (∀ w, Calls Tryz.prog 12 #[.int .i64 (fr : Int)] w (MadeNew w)) := fun w => rdr_made _ w (by omega) (by omega)
  have KB : Hid (∀ w, Calls Tryz.prog 13 #[.int .i64 65536] w (MadeNew w)) := fun w => blk_made w
  have KD : Hid (∀ w, Calls Tryz.prog 14 #[.int .i64 (tb : Int), .int .i64 (ls : Int)] w (MadeNew w)) := fun w => dec_made _ _ w (by omega) (by omega) (by omega)
  have KE : Hid (∀ w, Calls Tryz.prog 15 #[.int .i64 4096] w (MadeNew w)) := fun w => enc_made w
  have KY : Hid (∀ w, Calls Tryz.prog 16 #[.bool sv, .int .i64 (st : Int)] w (StrMade w)) := fun w => str_made sv _ w (by omega) (by omega)
  have KWN : Hid (∀ w, Calls Tryz.prog 17 #[.int .i64 65535] w (MadeNew w)) := fun w => win_made w
  have KC : Hid (∀ w, Calls Tryz.prog 18 #[.int .i64 65535] w (MadeNew w)) := fun w => cred_made w
  have KO : Hid (∀ w, Calls Tryz.prog 19 #[.agg #[.bool sv, .int .i64 (st : Int), .int .i64 (wd : Int), .int .i64 (fr : Int), .int .i64 (ls : Int), .int .i64 (tb : Int), .int .i64 (qu : Int)]] w (Offered w (offY sv st wd fr ls tb))) := fun w => offer_in sv st wd fr ls tb qu w h1 h2 h4 h5 h6
  clear hmay h1 h2 h3 h4 h5 h6 h7
  go_enter Tryz.func4, Tryz.ntmps4
  go_wp2_with (fail)
  rw [← hW]
  clear hW
  refine KF.mono ?_
  clear KF
  rintro e w1 ⟨rfl, f1⟩
  have HF1 : Hid (Fr (fun _ => False) w w1) := HFW.out.trans f1
  have HB1 : Hid (w1.heap[w.heap.size]? = some (.cells #[.bool sv, .int .i64 (st : Int), .int .i64 (wd : Int), .int .i64 (fr : Int), .int .i64 (ls : Int), .int .i64 (tb : Int), .int .i64 (qu : Int)] 23 (0, 0))) := (f1.block _ (lt_of_heap HBX.out) id).trans HBX.out
  clear f1 HFW HBX
  go_upto_region 3 with (fail)
  go_cut [4] (fun s4 wc => ∃ c mF gs bs, s4 = .pointer (some ⟨c, 0, none⟩) ∧ Hid (NSt w #[.bool sv, .int .i64 (st : Int), .int .i64 (wd : Int), .int .i64 (fr : Int), .int .i64 (ls : Int), .int .i64 (tb : Int), .int .i64 (qu : Int)] c mF gs bs #[.bool true, .bool sv, .int .i64 (st : Int), .int .i64 (wd : Int), .int .i64 (fr : Int), .int .i64 (ls : Int), .int .i64 (tb : Int), .int .i64 (qu : Int), .int .i64 (-1), .string ⟨#[]⟩, .bool false, .bool false, .bool false, .bool false, .pointer none, .pointer none, .pointer none, .pointer none, .pointer (some ⟨gs, 0, none⟩), .pointer none, .map (some mF), .pointer none, .pointer none, .slice none 0 0, .int .i64 0] wc))
  case first =>
    refine wp_region_held_drew (S := fun w2 => w2.heap[w.heap.size]? = some (.cells #[.bool sv, .int .i64 (st : Int), .int .i64 (wd : Int), .int .i64 (fr : Int), .int .i64 (ls : Int), .int .i64 (tb : Int), .int .i64 (qu : Int)] 23 (0, 0))) (by kernel_rfl) HB1.out (fun hHeld => ?_)
    refine wpAnyH_take (i := 0) (oi := _) (v := .agg #[.bool sv, .int .i64 (st : Int), .int .i64 (wd : Int), .int .i64 (fr : Int), .int .i64 (ls : Int), .int .i64 (tb : Int), .int .i64 (qu : Int)]) rfl (by kernel_rfl) (by kernel_rfl) (by kernel_rfl) (fun _ _ _ h => h) (Or.inl ⟨by kernel_rfl, fun w2 hw => by have x0 := cell_of_heap (i := 0) hw rfl; have x1 := cell_of_heap (i := 1) hw rfl; have x2 := cell_of_heap (i := 2) hw rfl; have x3 := cell_of_heap (i := 3) hw rfl; have x4 := cell_of_heap (i := 4) hw rfl; have x5 := cell_of_heap (i := 5) hw rfl; have x6 := cell_of_heap (i := 6) hw rfl; go_simp⟩) hHeld ?_
    simp only [Act.put, List.getElem_toArray, List.getElem_cons_succ, List.getElem_cons_zero, List.setIfInBounds_toArray, List.set_cons_zero, List.set_cons_succ]
    obtain ⟨w2, hw2⟩ : ∃ w2, w2 = w1.drew := ⟨_, rfl⟩
    have F2 : Hid (Fr (fun _ => False) w w2) := by rw [hw2]; exact HF1.out.drew
    rw [← hw2] at hHeld ⊢
    clear hw2
    refine wpAnyH_ready (rs := [1, 2]) (by kernel_rfl) (by simp) ?_
    refine AllReadyH.cons rfl (fun K hK => ?_) (AllReadyH.cons rfl (fun K hK => ?_) AllReadyH.nil)
    · have hmm := @run_makeMap Tryz.prog
      go_simp
      have gw3 : Fr (fun _ => False) w2 (w2.alloc (.map #[] 0)) := (Fr.refl _ _).alloc _
      refine hK.out _ _ ((gw3.block _ (lt_of_heap hHeld) id).trans hHeld) (fun hHeld3 => ?_)
      clear hK K hmm
      have Mw3 : Hid (MapAt (w2.alloc (.map #[] 0)) w2.heap.size 0 (fun _ => none)) := map_made w2
      obtain ⟨w3, hw3⟩ : ∃ w3, w3 = w2.alloc (.map #[] 0) := ⟨_, rfl⟩
      obtain ⟨mF, hmF⟩ : ∃ mF, mF = w2.heap.size := ⟨_, rfl⟩
      rw [← hw3] at Mw3 gw3 hHeld3 ⊢
      rw [← hmF] at Mw3 ⊢
      clear hw3 hmF
      have F3 : Hid (Fr (fun _ => False) w w3) := F2.out.trans gw3
      refine wpAnyH_ready (rs := [2]) (by kernel_rfl) (by simp) ?_
      refine AllReadyH.cons rfl (fun K hK => ?_) AllReadyH.nil
      go_simp
      refine (sNew_in w3).mono ?_
      rintro e w4 ⟨gs, bs, rfl, hsw4, hvw4, gw4, nw4, n2w4⟩
      have Sw4 : Hid (SetC w4 gs bs (.slice none 0 0) ∧ w3.heap.size ≤ gs) := ⟨hsw4, by omega⟩
      refine hK.out _ _ ((gw4.block _ (lt_of_heap hHeld3) id).trans hHeld3) (fun hHeld4 => ?_)
      clear hK K hsw4 hvw4 nw4 n2w4
      refine wpAnyH_take (i := 3) (oi := _) (v := .agg #[.bool true, .bool sv, .int .i64 (st : Int), .int .i64 (wd : Int), .int .i64 (fr : Int), .int .i64 (ls : Int), .int .i64 (tb : Int), .int .i64 (qu : Int), .int .i64 (-1), .string ⟨#[]⟩, .bool false, .bool false, .bool false, .bool false, .pointer none, .pointer none, .pointer none, .pointer none, .pointer (some ⟨gs, 0, none⟩), .pointer none, .map (some mF), .pointer none, .pointer none, .slice none 0 0, .int .i64 0]) rfl (by kernel_rfl) (by kernel_rfl) (by kernel_rfl) (fun _ _ _ h => h) (Or.inl ⟨by kernel_rfl, fun w2 hw => by go_simp⟩) hHeld4 ?_
      simp only [Act.put, List.getElem_toArray, List.getElem_cons_succ, List.getElem_cons_zero, List.setIfInBounds_toArray, List.set_cons_zero, List.set_cons_succ]
      refine wpAnyH_ready (rs := [4]) (by kernel_rfl) (by simp) ?_
      refine AllReadyH.cons rfl (fun K hK => ?_) AllReadyH.nil
      go_simp
      have ga : Fr (fun _ => False) w4 (w4.alloc (.cells #[.bool true, .bool sv, .int .i64 (st : Int), .int .i64 (wd : Int), .int .i64 (fr : Int), .int .i64 (ls : Int), .int .i64 (tb : Int), .int .i64 (qu : Int), .int .i64 (-1), .string ⟨#[]⟩, .bool false, .bool false, .bool false, .bool false, .pointer none, .pointer none, .pointer none, .pointer none, .pointer (some ⟨gs, 0, none⟩), .pointer none, .map (some mF), .pointer none, .pointer none, .slice none 0 0, .int .i64 0] 45)) := (Fr.refl _ _).alloc _
      have TT : Hid (NSt w #[.bool sv, .int .i64 (st : Int), .int .i64 (wd : Int), .int .i64 (fr : Int), .int .i64 (ls : Int), .int .i64 (tb : Int), .int .i64 (qu : Int)] w4.heap.size mF gs bs #[.bool true, .bool sv, .int .i64 (st : Int), .int .i64 (wd : Int), .int .i64 (fr : Int), .int .i64 (ls : Int), .int .i64 (tb : Int), .int .i64 (qu : Int), .int .i64 (-1), .string ⟨#[]⟩, .bool false, .bool false, .bool false, .bool false, .pointer none, .pointer none, .pointer none, .pointer none, .pointer (some ⟨gs, 0, none⟩), .pointer none, .map (some mF), .pointer none, .pointer none, .slice none 0 0, .int .i64 0] (w4.alloc (.cells #[.bool true, .bool sv, .int .i64 (st : Int), .int .i64 (wd : Int), .int .i64 (fr : Int), .int .i64 (ls : Int), .int .i64 (tb : Int), .int .i64 (qu : Int), .int .i64 (-1), .string ⟨#[]⟩, .bool false, .bool false, .bool false, .bool false, .pointer none, .pointer none, .pointer none, .pointer none, .pointer (some ⟨gs, 0, none⟩), .pointer none, .map (some mF), .pointer none, .pointer none, .slice none 0 0, .int .i64 0] 45))) := ⟨heap_alloc_new w4 _, (ga.block _ (lt_of_heap hHeld4) id).trans hHeld4, Sw4.out.1.fr ga id, (Mw3.out.fr gw4 id).fr ga id, (F3.out.trans gw4).size, (by have := Sw4.out.2; have := F3.out.size; omega), (F3.out.trans gw4).trans ga⟩
      refine hK.out _ _ TT.out.box (fun _ => ?_)
      clear hK K
      refine wpAnyH_ready (rs := [5]) (by kernel_rfl) (by simp) ?_
      refine AllReadyH.cons rfl (fun K hK => ?_) AllReadyH.nil
      go_simp
      refine hK.out _ _ TT.out.box (fun _ => ?_)
      clear hK K
      refine wpAnyH_done (by kernel_rfl) ?_ _
      go_wp2_with (fail)
      go_meet
      case rel => exact ⟨_, mF, gs, bs, rfl, TT.out⟩
    · go_simp
      refine (sNew_in w2).mono ?_
      rintro e w3 ⟨gs, bs, rfl, hsw3, hvw3, gw3, nw3, n2w3⟩
      have Sw3 : Hid (SetC w3 gs bs (.slice none 0 0) ∧ w2.heap.size ≤ gs) := ⟨hsw3, by omega⟩
      refine hK.out _ _ ((gw3.block _ (lt_of_heap hHeld) id).trans hHeld) (fun hHeld3 => ?_)
      clear hK K hsw3 hvw3 nw3 n2w3
      have F3 : Hid (Fr (fun _ => False) w w3) := F2.out.trans gw3
      refine wpAnyH_ready (rs := [1]) (by kernel_rfl) (by simp) ?_
      refine AllReadyH.cons rfl (fun K hK => ?_) AllReadyH.nil
      have hmm := @run_makeMap Tryz.prog
      go_simp
      have gw4 : Fr (fun _ => False) w3 (w3.alloc (.map #[] 0)) := (Fr.refl _ _).alloc _
      refine hK.out _ _ ((gw4.block _ (lt_of_heap hHeld3) id).trans hHeld3) (fun hHeld4 => ?_)
      clear hK K hmm
      have Mw4 : Hid (MapAt (w3.alloc (.map #[] 0)) w3.heap.size 0 (fun _ => none)) := map_made w3
      obtain ⟨w4, hw4⟩ : ∃ w4, w4 = w3.alloc (.map #[] 0) := ⟨_, rfl⟩
      obtain ⟨mF, hmF⟩ : ∃ mF, mF = w3.heap.size := ⟨_, rfl⟩
      rw [← hw4] at Mw4 gw4 hHeld4 ⊢
      rw [← hmF] at Mw4 ⊢
      clear hw4 hmF
      refine wpAnyH_take (i := 3) (oi := _) (v := .agg #[.bool true, .bool sv, .int .i64 (st : Int), .int .i64 (wd : Int), .int .i64 (fr : Int), .int .i64 (ls : Int), .int .i64 (tb : Int), .int .i64 (qu : Int), .int .i64 (-1), .string ⟨#[]⟩, .bool false, .bool false, .bool false, .bool false, .pointer none, .pointer none, .pointer none, .pointer none, .pointer (some ⟨gs, 0, none⟩), .pointer none, .map (some mF), .pointer none, .pointer none, .slice none 0 0, .int .i64 0]) rfl (by kernel_rfl) (by kernel_rfl) (by kernel_rfl) (fun _ _ _ h => h) (Or.inl ⟨by kernel_rfl, fun w2 hw => by go_simp⟩) hHeld4 ?_
      simp only [Act.put, List.getElem_toArray, List.getElem_cons_succ, List.getElem_cons_zero, List.setIfInBounds_toArray, List.set_cons_zero, List.set_cons_succ]
      refine wpAnyH_ready (rs := [4]) (by kernel_rfl) (by simp) ?_
      refine AllReadyH.cons rfl (fun K hK => ?_) AllReadyH.nil
      go_simp
      have ga : Fr (fun _ => False) w4 (w4.alloc (.cells #[.bool true, .bool sv, .int .i64 (st : Int), .int .i64 (wd : Int), .int .i64 (fr : Int), .int .i64 (ls : Int), .int .i64 (tb : Int), .int .i64 (qu : Int), .int .i64 (-1), .string ⟨#[]⟩, .bool false, .bool false, .bool false, .bool false, .pointer none, .pointer none, .pointer none, .pointer none, .pointer (some ⟨gs, 0, none⟩), .pointer none, .map (some mF), .pointer none, .pointer none, .slice none 0 0, .int .i64 0] 45)) := (Fr.refl _ _).alloc _
      have TT : Hid (NSt w #[.bool sv, .int .i64 (st : Int), .int .i64 (wd : Int), .int .i64 (fr : Int), .int .i64 (ls : Int), .int .i64 (tb : Int), .int .i64 (qu : Int)] w4.heap.size mF gs bs #[.bool true, .bool sv, .int .i64 (st : Int), .int .i64 (wd : Int), .int .i64 (fr : Int), .int .i64 (ls : Int), .int .i64 (tb : Int), .int .i64 (qu : Int), .int .i64 (-1), .string ⟨#[]⟩, .bool false, .bool false, .bool false, .bool false, .pointer none, .pointer none, .pointer none, .pointer none, .pointer (some ⟨gs, 0, none⟩), .pointer none, .map (some mF), .pointer none, .pointer none, .slice none 0 0, .int .i64 0] (w4.alloc (.cells #[.bool true, .bool sv, .int .i64 (st : Int), .int .i64 (wd : Int), .int .i64 (fr : Int), .int .i64 (ls : Int), .int .i64 (tb : Int), .int .i64 (qu : Int), .int .i64 (-1), .string ⟨#[]⟩, .bool false, .bool false, .bool false, .bool false, .pointer none, .pointer none, .pointer none, .pointer none, .pointer (some ⟨gs, 0, none⟩), .pointer none, .map (some mF), .pointer none, .pointer none, .slice none 0 0, .int .i64 0] 45))) := ⟨heap_alloc_new w4 _, (ga.block _ (lt_of_heap hHeld4) id).trans hHeld4, (Sw3.out.1.fr gw4 id).fr ga id, Mw4.out.fr ga id, (F3.out.trans gw4).size, (by have := Sw3.out.2; have := F2.out.size; omega), (F3.out.trans gw4).trans ga⟩
      refine hK.out _ _ TT.out.box (fun _ => ?_)
      clear hK K
      refine wpAnyH_ready (rs := [5]) (by kernel_rfl) (by simp) ?_
      refine AllReadyH.cons rfl (fun K hK => ?_) AllReadyH.nil
      go_simp
      refine hK.out _ _ TT.out.box (fun _ => ?_)
      clear hK K
      refine wpAnyH_done (by kernel_rfl) ?_ _
      go_wp2_with (fail)
      go_meet
      case rel => exact ⟨_, mF, gs, bs, rfl, TT.out⟩
  case rest =>
    obtain ⟨c, mF, gs, bs, rfl, HT⟩ := hcut
    clear HF1 HB1
    have s1x3 : wc.cell? ⟨w.heap.size, 3, none⟩ = some (.int .i64 (fr : Int)) := HT.out.setup rfl
    go_upto_region 5 with (go_at_call 12; refine (KR.out _).mono ?_; clear KR; rintro e a1 ⟨p1, rfl, f1⟩; have Ta1 := HT.out.later f1; obtain ⟨d1, z1⟩ := Ta1.cell (j := 14) (v := .pointer none) rfl; have Ha1 : Hid (NSt w #[.bool sv, .int .i64 (st : Int), .int .i64 (wd : Int), .int .i64 (fr : Int), .int .i64 (ls : Int), .int .i64 (tb : Int), .int .i64 (qu : Int)] c mF gs bs #[.bool true, .bool sv, .int .i64 (st : Int), .int .i64 (wd : Int), .int .i64 (fr : Int), .int .i64 (ls : Int), .int .i64 (tb : Int), .int .i64 (qu : Int), .int .i64 (-1), .string ⟨#[]⟩, .bool false, .bool false, .bool false, .bool false, .pointer none, .pointer none, .pointer none, .pointer none, .pointer (some ⟨gs, 0, none⟩), .pointer none, .map (some mF), .pointer none, .pointer none, .slice none 0 0, .int .i64 0] a1) := Ta1; clear Ta1)
    obtain ⟨b1, hb1⟩ : ∃ b1, b1 = a1.setCell ⟨c, 14, none⟩ (.pointer p1) := ⟨_, rfl⟩
    have Hb1 : Hid (NSt w #[.bool sv, .int .i64 (st : Int), .int .i64 (wd : Int), .int .i64 (fr : Int), .int .i64 (ls : Int), .int .i64 (tb : Int), .int .i64 (qu : Int)] c mF gs bs #[.bool true, .bool sv, .int .i64 (st : Int), .int .i64 (wd : Int), .int .i64 (fr : Int), .int .i64 (ls : Int), .int .i64 (tb : Int), .int .i64 (qu : Int), .int .i64 (-1), .string ⟨#[]⟩, .bool false, .bool false, .bool false, .bool false, .pointer p1, .pointer none, .pointer none, .pointer none, .pointer (some ⟨gs, 0, none⟩), .pointer none, .map (some mF), .pointer none, .pointer none, .slice none 0 0, .int .i64 0] b1) := by rw [hb1]; exact Ha1.out.put 14 (.pointer p1)
    rw [← hb1]
    clear hb1 f1 d1 z1 Ha1 HT s1x3
    go_upto_region 6 with (go_at_call 13; refine (KB.out _).mono ?_; clear KB; rintro e a2 ⟨p2, rfl, f2⟩; have Ta2 := Hb1.out.later f2; obtain ⟨d2, z2⟩ := Ta2.cell (j := 15) (v := .pointer none) rfl; have Ha2 : Hid (NSt w #[.bool sv, .int .i64 (st : Int), .int .i64 (wd : Int), .int .i64 (fr : Int), .int .i64 (ls : Int), .int .i64 (tb : Int), .int .i64 (qu : Int)] c mF gs bs #[.bool true, .bool sv, .int .i64 (st : Int), .int .i64 (wd : Int), .int .i64 (fr : Int), .int .i64 (ls : Int), .int .i64 (tb : Int), .int .i64 (qu : Int), .int .i64 (-1), .string ⟨#[]⟩, .bool false, .bool false, .bool false, .bool false, .pointer p1, .pointer none, .pointer none, .pointer none, .pointer (some ⟨gs, 0, none⟩), .pointer none, .map (some mF), .pointer none, .pointer none, .slice none 0 0, .int .i64 0] a2) := Ta2; clear Ta2)
    obtain ⟨b2, hb2⟩ : ∃ b2, b2 = a2.setCell ⟨c, 15, none⟩ (.pointer p2) := ⟨_, rfl⟩
    have Hb2 : Hid (NSt w #[.bool sv, .int .i64 (st : Int), .int .i64 (wd : Int), .int .i64 (fr : Int), .int .i64 (ls : Int), .int .i64 (tb : Int), .int .i64 (qu : Int)] c mF gs bs #[.bool true, .bool sv, .int .i64 (st : Int), .int .i64 (wd : Int), .int .i64 (fr : Int), .int .i64 (ls : Int), .int .i64 (tb : Int), .int .i64 (qu : Int), .int .i64 (-1), .string ⟨#[]⟩, .bool false, .bool false, .bool false, .bool false, .pointer p1, .pointer p2, .pointer none, .pointer none, .pointer (some ⟨gs, 0, none⟩), .pointer none, .map (some mF), .pointer none, .pointer none, .slice none 0 0, .int .i64 0] b2) := by rw [hb2]; exact Ha2.out.put 15 (.pointer p2)
    rw [← hb2]
    clear hb2 f2 d2 z2 Ha2 Hb1 
    have s3x5 : b2.cell? ⟨w.heap.size, 5, none⟩ = some (.int .i64 (tb : Int)) := Hb2.out.setup rfl
    have s3x4 : b2.cell? ⟨w.heap.size, 4, none⟩ = some (.int .i64 (ls : Int)) := Hb2.out.setup rfl
    go_upto_region 7 with (go_at_call 14; refine (KD.out _).mono ?_; clear KD; rintro e a3 ⟨p3, rfl, f3⟩; have Ta3 := Hb2.out.later f3; obtain ⟨d3, z3⟩ := Ta3.cell (j := 16) (v := .pointer none) rfl; have Ha3 : Hid (NSt w #[.bool sv, .int .i64 (st : Int), .int .i64 (wd : Int), .int .i64 (fr : Int), .int .i64 (ls : Int), .int .i64 (tb : Int), .int .i64 (qu : Int)] c mF gs bs #[.bool true, .bool sv, .int .i64 (st : Int), .int .i64 (wd : Int), .int .i64 (fr : Int), .int .i64 (ls : Int), .int .i64 (tb : Int), .int .i64 (qu : Int), .int .i64 (-1), .string ⟨#[]⟩, .bool false, .bool false, .bool false, .bool false, .pointer p1, .pointer p2, .pointer none, .pointer none, .pointer (some ⟨gs, 0, none⟩), .pointer none, .map (some mF), .pointer none, .pointer none, .slice none 0 0, .int .i64 0] a3) := Ta3; clear Ta3)
    obtain ⟨b3, hb3⟩ : ∃ b3, b3 = a3.setCell ⟨c, 16, none⟩ (.pointer p3) := ⟨_, rfl⟩
    have Hb3 : Hid (NSt w #[.bool sv, .int .i64 (st : Int), .int .i64 (wd : Int), .int .i64 (fr : Int), .int .i64 (ls : Int), .int .i64 (tb : Int), .int .i64 (qu : Int)] c mF gs bs #[.bool true, .bool sv, .int .i64 (st : Int), .int .i64 (wd : Int), .int .i64 (fr : Int), .int .i64 (ls : Int), .int .i64 (tb : Int), .int .i64 (qu : Int), .int .i64 (-1), .string ⟨#[]⟩, .bool false, .bool false, .bool false, .bool false, .pointer p1, .pointer p2, .pointer p3, .pointer none, .pointer (some ⟨gs, 0, none⟩), .pointer none, .map (some mF), .pointer none, .pointer none, .slice none 0 0, .int .i64 0] b3) := by rw [hb3]; exact Ha3.out.put 16 (.pointer p3)
    rw [← hb3]
    clear hb3 f3 d3 z3 Ha3 Hb2 s3x5 s3x4
    go_upto_region 8 with (go_at_call 15; refine (KE.out _).mono ?_; clear KE; rintro e a4 ⟨p4, rfl, f4⟩; have Ta4 := Hb3.out.later f4; obtain ⟨d4, z4⟩ := Ta4.cell (j := 17) (v := .pointer none) rfl; have Ha4 : Hid (NSt w #[.bool sv, .int .i64 (st : Int), .int .i64 (wd : Int), .int .i64 (fr : Int), .int .i64 (ls : Int), .int .i64 (tb : Int), .int .i64 (qu : Int)] c mF gs bs #[.bool true, .bool sv, .int .i64 (st : Int), .int .i64 (wd : Int), .int .i64 (fr : Int), .int .i64 (ls : Int), .int .i64 (tb : Int), .int .i64 (qu : Int), .int .i64 (-1), .string ⟨#[]⟩, .bool false, .bool false, .bool false, .bool false, .pointer p1, .pointer p2, .pointer p3, .pointer none, .pointer (some ⟨gs, 0, none⟩), .pointer none, .map (some mF), .pointer none, .pointer none, .slice none 0 0, .int .i64 0] a4) := Ta4; clear Ta4)
    obtain ⟨b4, hb4⟩ : ∃ b4, b4 = a4.setCell ⟨c, 17, none⟩ (.pointer p4) := ⟨_, rfl⟩
    have Hb4 : Hid (NSt w #[.bool sv, .int .i64 (st : Int), .int .i64 (wd : Int), .int .i64 (fr : Int), .int .i64 (ls : Int), .int .i64 (tb : Int), .int .i64 (qu : Int)] c mF gs bs #[.bool true, .bool sv, .int .i64 (st : Int), .int .i64 (wd : Int), .int .i64 (fr : Int), .int .i64 (ls : Int), .int .i64 (tb : Int), .int .i64 (qu : Int), .int .i64 (-1), .string ⟨#[]⟩, .bool false, .bool false, .bool false, .bool false, .pointer p1, .pointer p2, .pointer p3, .pointer p4, .pointer (some ⟨gs, 0, none⟩), .pointer none, .map (some mF), .pointer none, .pointer none, .slice none 0 0, .int .i64 0] b4) := by rw [hb4]; exact Ha4.out.put 17 (.pointer p4)
    rw [← hb4]
    clear hb4 f4 d4 z4 Ha4 Hb3 
    have s5x0 : b4.cell? ⟨w.heap.size, 0, none⟩ = some (.bool sv) := Hb4.out.setup rfl
    have s5x1 : b4.cell? ⟨w.heap.size, 1, none⟩ = some (.int .i64 (st : Int)) := Hb4.out.setup rfl
    go_upto_region 9 with (go_at_call 16; refine (KY.out _).mono ?_; clear KY; rintro e a5 ⟨g, mb, rfl, hst, hg1, hg2, f5⟩; have Ta5 := Hb4.out.later f5; obtain ⟨d5, z5⟩ := Ta5.cell (j := 19) (v := .pointer none) rfl; have Ha5 : Hid (NSt w #[.bool sv, .int .i64 (st : Int), .int .i64 (wd : Int), .int .i64 (fr : Int), .int .i64 (ls : Int), .int .i64 (tb : Int), .int .i64 (qu : Int)] c mF gs bs #[.bool true, .bool sv, .int .i64 (st : Int), .int .i64 (wd : Int), .int .i64 (fr : Int), .int .i64 (ls : Int), .int .i64 (tb : Int), .int .i64 (qu : Int), .int .i64 (-1), .string ⟨#[]⟩, .bool false, .bool false, .bool false, .bool false, .pointer p1, .pointer p2, .pointer p3, .pointer p4, .pointer (some ⟨gs, 0, none⟩), .pointer none, .map (some mF), .pointer none, .pointer none, .slice none 0 0, .int .i64 0] a5) := Ta5; have HSa5 : Hid (StrAt a5 g mb ∧ c < g ∧ c < mb ∧ gs < g ∧ gs < mb) := ⟨hst, by have := lt_of_heap Hb4.out.con; omega, by have := lt_of_heap Hb4.out.con; omega, by have := Hb4.out.set.lt; omega, by have := Hb4.out.set.lt; omega⟩; clear Ta5 hst hg1 hg2)
    obtain ⟨b5, hb5⟩ : ∃ b5, b5 = a5.setCell ⟨c, 19, none⟩ (.pointer (some ⟨g, 0, none⟩)) := ⟨_, rfl⟩
    have Hb5 : Hid (NSt w #[.bool sv, .int .i64 (st : Int), .int .i64 (wd : Int), .int .i64 (fr : Int), .int .i64 (ls : Int), .int .i64 (tb : Int), .int .i64 (qu : Int)] c mF gs bs #[.bool true, .bool sv, .int .i64 (st : Int), .int .i64 (wd : Int), .int .i64 (fr : Int), .int .i64 (ls : Int), .int .i64 (tb : Int), .int .i64 (qu : Int), .int .i64 (-1), .string ⟨#[]⟩, .bool false, .bool false, .bool false, .bool false, .pointer p1, .pointer p2, .pointer p3, .pointer p4, .pointer (some ⟨gs, 0, none⟩), .pointer (some ⟨g, 0, none⟩), .map (some mF), .pointer none, .pointer none, .slice none 0 0, .int .i64 0] b5) := by rw [hb5]; exact Ha5.out.put 19 (.pointer (some ⟨g, 0, none⟩))
    have HSb5 : Hid (StrAt b5 g mb ∧ c < g ∧ c < mb ∧ gs < g ∧ gs < mb) := by rw [hb5]; exact ⟨HSa5.out.1.fr ((Fr.refl (fun k => k = c) _).setB 19 _) (by have := HSa5.out; omega) (by have := HSa5.out; omega), HSa5.out.2⟩
    rw [← hb5]
    clear hb5 f5 d5 z5 Ha5 Hb4 s5x0 s5x1 HSa5
    go_upto_region 10 with (go_at_call 17; refine (KWN.out _).mono ?_; clear KWN; rintro e a6 ⟨p6, rfl, f6⟩; have Ta6 := Hb5.out.later f6; obtain ⟨d6, z6⟩ := Ta6.cell (j := 21) (v := .pointer none) rfl; have Ha6 : Hid (NSt w #[.bool sv, .int .i64 (st : Int), .int .i64 (wd : Int), .int .i64 (fr : Int), .int .i64 (ls : Int), .int .i64 (tb : Int), .int .i64 (qu : Int)] c mF gs bs #[.bool true, .bool sv, .int .i64 (st : Int), .int .i64 (wd : Int), .int .i64 (fr : Int), .int .i64 (ls : Int), .int .i64 (tb : Int), .int .i64 (qu : Int), .int .i64 (-1), .string ⟨#[]⟩, .bool false, .bool false, .bool false, .bool false, .pointer p1, .pointer p2, .pointer p3, .pointer p4, .pointer (some ⟨gs, 0, none⟩), .pointer (some ⟨g, 0, none⟩), .map (some mF), .pointer none, .pointer none, .slice none 0 0, .int .i64 0] a6) := Ta6; have HSa6 : Hid (StrAt a6 g mb ∧ c < g ∧ c < mb ∧ gs < g ∧ gs < mb) := ⟨HSb5.out.1.fr f6 id id, HSb5.out.2⟩; clear Ta6)
    obtain ⟨b6, hb6⟩ : ∃ b6, b6 = a6.setCell ⟨c, 21, none⟩ (.pointer p6) := ⟨_, rfl⟩
    have Hb6 : Hid (NSt w #[.bool sv, .int .i64 (st : Int), .int .i64 (wd : Int), .int .i64 (fr : Int), .int .i64 (ls : Int), .int .i64 (tb : Int), .int .i64 (qu : Int)] c mF gs bs #[.bool true, .bool sv, .int .i64 (st : Int), .int .i64 (wd : Int), .int .i64 (fr : Int), .int .i64 (ls : Int), .int .i64 (tb : Int), .int .i64 (qu : Int), .int .i64 (-1), .string ⟨#[]⟩, .bool false, .bool false, .bool false, .bool false, .pointer p1, .pointer p2, .pointer p3, .pointer p4, .pointer (some ⟨gs, 0, none⟩), .pointer (some ⟨g, 0, none⟩), .map (some mF), .pointer p6, .pointer none, .slice none 0 0, .int .i64 0] b6) := by rw [hb6]; exact Ha6.out.put 21 (.pointer p6)
    have HSb6 : Hid (StrAt b6 g mb ∧ c < g ∧ c < mb ∧ gs < g ∧ gs < mb) := by rw [hb6]; exact ⟨HSa6.out.1.fr ((Fr.refl (fun k => k = c) _).setB 21 _) (by have := HSa6.out; omega) (by have := HSa6.out; omega), HSa6.out.2⟩
    rw [← hb6]
    clear hb6 f6 d6 z6 Ha6 Hb5  HSa6
    go_upto_region 11 with (go_at_call 18; refine (KC.out _).mono ?_; clear KC; rintro e a7 ⟨p7, rfl, f7⟩; have Ta7 := Hb6.out.later f7; obtain ⟨d7, z7⟩ := Ta7.cell (j := 22) (v := .pointer none) rfl; have Ha7 : Hid (NSt w #[.bool sv, .int .i64 (st : Int), .int .i64 (wd : Int), .int .i64 (fr : Int), .int .i64 (ls : Int), .int .i64 (tb : Int), .int .i64 (qu : Int)] c mF gs bs #[.bool true, .bool sv, .int .i64 (st : Int), .int .i64 (wd : Int), .int .i64 (fr : Int), .int .i64 (ls : Int), .int .i64 (tb : Int), .int .i64 (qu : Int), .int .i64 (-1), .string ⟨#[]⟩, .bool false, .bool false, .bool false, .bool false, .pointer p1, .pointer p2, .pointer p3, .pointer p4, .pointer (some ⟨gs, 0, none⟩), .pointer (some ⟨g, 0, none⟩), .map (some mF), .pointer p6, .pointer none, .slice none 0 0, .int .i64 0] a7) := Ta7; have HSa7 : Hid (StrAt a7 g mb ∧ c < g ∧ c < mb ∧ gs < g ∧ gs < mb) := ⟨HSb6.out.1.fr f7 id id, HSb6.out.2⟩; clear Ta7)
    obtain ⟨b7, hb7⟩ : ∃ b7, b7 = a7.setCell ⟨c, 22, none⟩ (.pointer p7) := ⟨_, rfl⟩
    have Hb7 : Hid (NSt w #[.bool sv, .int .i64 (st : Int), .int .i64 (wd : Int), .int .i64 (fr : Int), .int .i64 (ls : Int), .int .i64 (tb : Int), .int .i64 (qu : Int)] c mF gs bs #[.bool true, .bool sv, .int .i64 (st : Int), .int .i64 (wd : Int), .int .i64 (fr : Int), .int .i64 (ls : Int), .int .i64 (tb : Int), .int .i64 (qu : Int), .int .i64 (-1), .string ⟨#[]⟩, .bool false, .bool false, .bool false, .bool false, .pointer p1, .pointer p2, .pointer p3, .pointer p4, .pointer (some ⟨gs, 0, none⟩), .pointer (some ⟨g, 0, none⟩), .map (some mF), .pointer p6, .pointer p7, .slice none 0 0, .int .i64 0] b7) := by rw [hb7]; exact Ha7.out.put 22 (.pointer p7)
    have HSb7 : Hid (StrAt b7 g mb ∧ c < g ∧ c < mb ∧ gs < g ∧ gs < mb) := by rw [hb7]; exact ⟨HSa7.out.1.fr ((Fr.refl (fun k => k = c) _).setB 22 _) (by have := HSa7.out; omega) (by have := HSa7.out; omega), HSa7.out.2⟩
    rw [← hb7]
    clear hb7 f7 d7 z7 Ha7 Hb6  HSa7
    have s0 : b7.cell? ⟨w.heap.size, 0, none⟩ = some (.bool sv) := Hb7.out.setup rfl
    cases sv
    ·
      have kc : Sem.run Tryz.prog (convert 43 43 (.slice (some ⟨b7.heap.size, 0, none⟩) 24 24)) (b7.alloc (.cells #[.int .u8 80, .int .u8 82, .int .u8 73, .int .u8 32, .int .u8 42, .int .u8 32, .int .u8 72, .int .u8 84, .int .u8 84, .int .u8 80, .int .u8 47, .int .u8 50, .int .u8 46, .int .u8 48, .int .u8 13, .int .u8 10, .int .u8 13, .int .u8 10, .int .u8 83, .int .u8 77, .int .u8 13, .int .u8 10, .int .u8 13, .int .u8 10] 5)) = .ok (.slice (some ⟨b7.heap.size, 0, none⟩) 24 24) (b7.alloc (.cells #[.int .u8 80, .int .u8 82, .int .u8 73, .int .u8 32, .int .u8 42, .int .u8 32, .int .u8 72, .int .u8 84, .int .u8 84, .int .u8 80, .int .u8 47, .int .u8 50, .int .u8 46, .int .u8 48, .int .u8 13, .int .u8 10, .int .u8 13, .int .u8 10, .int .u8 83, .int .u8 77, .int .u8 13, .int .u8 10, .int .u8 13, .int .u8 10] 5 (24, 25))) := Lib.run_convert_bytes_const (P := Tryz.prog) b7 43 5 #[.int .u8 80, .int .u8 82, .int .u8 73, .int .u8 32, .int .u8 42, .int .u8 32, .int .u8 72, .int .u8 84, .int .u8 84, .int .u8 80, .int .u8 47, .int .u8 50, .int .u8 46, .int .u8 48, .int .u8 13, .int .u8 10, .int .u8 13, .int .u8 10, .int .u8 83, .int .u8 77, .int .u8 13, .int .u8 10, .int .u8 13, .int .u8 10] 24 24 Tryz.underlying43 Tryz.underlying5
      obtain ⟨wa, hwa⟩ : ∃ wa, wa = b7.alloc (.cells #[.int .u8 80, .int .u8 82, .int .u8 73, .int .u8 32, .int .u8 42, .int .u8 32, .int .u8 72, .int .u8 84, .int .u8 84, .int .u8 80, .int .u8 47, .int .u8 50, .int .u8 46, .int .u8 48, .int .u8 13, .int .u8 10, .int .u8 13, .int .u8 10, .int .u8 83, .int .u8 77, .int .u8 13, .int .u8 10, .int .u8 13, .int .u8 10] 5 (24, 25)) := ⟨_, rfl⟩
      have fa : Fr (fun _ => False) b7 wa := by rw [hwa]; exact (Fr.refl _ _).alloc _
      have ha : wa.heap[b7.heap.size]? = some (.cells #[.int .u8 80, .int .u8 82, .int .u8 73, .int .u8 32, .int .u8 42, .int .u8 32, .int .u8 72, .int .u8 84, .int .u8 84, .int .u8 80, .int .u8 47, .int .u8 50, .int .u8 46, .int .u8 48, .int .u8 13, .int .u8 10, .int .u8 13, .int .u8 10, .int .u8 83, .int .u8 77, .int .u8 13, .int .u8 10, .int .u8 13, .int .u8 10] 5 (24, 25)) := by rw [hwa]; exact heap_alloc_new _ _
      have Ta := Hb7.out.later fa
      obtain ⟨d9, z9⟩ := Ta.cell (j := 23) (v := .slice none 0 0) rfl
      rw [← hwa] at kc
      clear hwa
      go_upto_region 14 with (fail)
      obtain ⟨bW, hbW⟩ : ∃ bW, bW = b7.heap.size := ⟨_, rfl⟩
      rw [← hbW] at ha ⊢
      have HBW : Hid (c < bW ∧ gs < bW ∧ g < bW) := by have h1 := lt_of_heap Hb7.out.con; have h2 := Hb7.out.set.lt; have h3 := HSb7.out.1.lt; exact ⟨by omega, by omega, by omega⟩
      obtain ⟨w12, hw12⟩ : ∃ w12, w12 = wa.setCell ⟨c, 23, none⟩ (.slice (some ⟨bW, 0, none⟩) 24 24) := ⟨_, rfl⟩
      have H12 : Hid (NSt w #[.bool false, .int .i64 (st : Int), .int .i64 (wd : Int), .int .i64 (fr : Int), .int .i64 (ls : Int), .int .i64 (tb : Int), .int .i64 (qu : Int)] c mF gs bs #[.bool true, .bool false, .int .i64 (st : Int), .int .i64 (wd : Int), .int .i64 (fr : Int), .int .i64 (ls : Int), .int .i64 (tb : Int), .int .i64 (qu : Int), .int .i64 (-1), .string ⟨#[]⟩, .bool false, .bool false, .bool false, .bool false, .pointer p1, .pointer p2, .pointer p3, .pointer p4, .pointer (some ⟨gs, 0, none⟩), .pointer (some ⟨g, 0, none⟩), .map (some mF), .pointer p6, .pointer p7, .slice (some ⟨bW, 0, none⟩) 24 24, .int .i64 0] w12) := by rw [hw12]; exact Ta.put 23 _
      have HS12 : Hid (StrAt w12 g mb ∧ c < g ∧ c < mb ∧ gs < g ∧ gs < mb) := by rw [hw12]; exact ⟨(HSb7.out.1.fr fa id id).fr ((Fr.refl (fun k => k = c) _).setB 23 _) (by have := HSb7.out; omega) (by have := HSb7.out; omega), HSb7.out.2⟩
      have HO12 : Hid (SrcAt w12 (some ⟨bW, 0, none⟩) [80, 82, 73, 32, 42, 32, 72, 84, 84, 80, 47, 50, 46, 48, 13, 10, 13, 10, 83, 77, 13, 10, 13, 10]) := by rw [hw12]; exact (src_marked (X := [80, 82, 73, 32, 42, 32, 72, 84, 84, 80, 47, 50, 46, 48, 13, 10, 13, 10, 83, 77, 13, 10, 13, 10]) ha rfl).fr ((Fr.refl (fun k => k = c) _).setB 23 _) (fun ad e _ => by cases e; dsimp only; have := HBW.out; omega)
      rw [← hw12]
      clear hw12 hbW ha fa Ta d9 z9 s0 kc Hb7 HSb7
      have s0 : w12.cell? ⟨w.heap.size, 0, none⟩ = some (.bool false) := H12.out.setup rfl
      have s1 : w12.cell? ⟨w.heap.size, 1, none⟩ = some (.int .i64 (st : Int)) := H12.out.setup rfl
      have s2 : w12.cell? ⟨w.heap.size, 2, none⟩ = some (.int .i64 (wd : Int)) := H12.out.setup rfl
      have s3 : w12.cell? ⟨w.heap.size, 3, none⟩ = some (.int .i64 (fr : Int)) := H12.out.setup rfl
      have s4 : w12.cell? ⟨w.heap.size, 4, none⟩ = some (.int .i64 (ls : Int)) := H12.out.setup rfl
      have s5 : w12.cell? ⟨w.heap.size, 5, none⟩ = some (.int .i64 (tb : Int)) := H12.out.setup rfl
      have s6 : w12.cell? ⟨w.heap.size, 6, none⟩ = some (.int .i64 (qu : Int)) := H12.out.setup rfl
      go_upto_region 15 with (go_at_call 19; refine (KO.out _).mono ?_; clear KO; rintro e w13 ⟨q, m, cq, rfl, hm, hq, hqn, f13⟩)
      have H13 : Hid (NSt w #[.bool false, .int .i64 (st : Int), .int .i64 (wd : Int), .int .i64 (fr : Int), .int .i64 (ls : Int), .int .i64 (tb : Int), .int .i64 (qu : Int)] c mF gs bs #[.bool true, .bool false, .int .i64 (st : Int), .int .i64 (wd : Int), .int .i64 (fr : Int), .int .i64 (ls : Int), .int .i64 (tb : Int), .int .i64 (qu : Int), .int .i64 (-1), .string ⟨#[]⟩, .bool false, .bool false, .bool false, .bool false, .pointer p1, .pointer p2, .pointer p3, .pointer p4, .pointer (some ⟨gs, 0, none⟩), .pointer (some ⟨g, 0, none⟩), .map (some mF), .pointer p6, .pointer p7, .slice (some ⟨bW, 0, none⟩) 24 24, .int .i64 0] w13) := H12.out.later f13
      have HS13 : Hid (StrAt w13 g mb ∧ c < g ∧ c < mb ∧ gs < g ∧ gs < mb) := ⟨HS12.out.1.fr f13 id id, HS12.out.2⟩
      have HO13 : Hid (SrcAt w13 (some ⟨bW, 0, none⟩) [80, 82, 73, 32, 42, 32, 72, 84, 84, 80, 47, 50, 46, 48, 13, 10, 13, 10, 83, 77, 13, 10, 13, 10]) := HO12.out.oldF f13
      have HQ : Hid ((offY false st wd fr ls tb).length = m ∧ SetsAt w13 q cq (offY false st wd fr ls tb) ∧ (∀ ad, q = some ad → c < ad.block ∧ gs < ad.block)) := ⟨hm, hq, fun ad e => by have h1 := lt_of_heap H12.out.con; have h2 := H12.out.set.lt; have h3 := hqn ad e; exact ⟨by omega, by omega⟩⟩
      have c18 : w13.cell? ⟨c, 18, none⟩ = some (.pointer (some ⟨gs, 0, none⟩)) := (H13.out.cell rfl).1
      have KOF := Off_in gs bs q cq m _ w13 H13.out.set hq hm
      clear s0 s1 s2 s3 s4 s5 s6 H12 HS12 HO12 f13 hm hq hqn
      go_upto_region 16 with (go_at_call 20; refine KOF.mono ?_; clear KOF; rintro e w14 ⟨rfl, f14⟩)
      have HC14 : Hid (ConnC w14 c #[.bool true, .bool false, .int .i64 (st : Int), .int .i64 (wd : Int), .int .i64 (fr : Int), .int .i64 (ls : Int), .int .i64 (tb : Int), .int .i64 (qu : Int), .int .i64 (-1), .string ⟨#[]⟩, .bool false, .bool false, .bool false, .bool false, .pointer p1, .pointer p2, .pointer p3, .pointer p4, .pointer (some ⟨gs, 0, none⟩), .pointer (some ⟨g, 0, none⟩), .map (some mF), .pointer p6, .pointer p7, .slice (some ⟨bW, 0, none⟩) 24 24, .int .i64 0]) := H13.out.con.fr f14 (fun e => H13.out.ng e.symm)
      have HM14 : Hid (MapAt w14 mF 0 (fun _ => none)) := H13.out.map.fr f14 (H13.out.map.ne H13.out.set)
      have HS14 : Hid (StrAt w14 g mb ∧ c < g ∧ c < mb ∧ gs < g ∧ gs < mb) := ⟨HS13.out.1.fr f14 (by have := HS13.out; omega) (by have := HS13.out; omega), HS13.out.2⟩
      have HO14 : Hid (SrcAt w14 (some ⟨bW, 0, none⟩) [80, 82, 73, 32, 42, 32, 72, 84, 84, 80, 47, 50, 46, 48, 13, 10, 13, 10, 83, 77, 13, 10, 13, 10]) := HO13.out.fr f14 (fun ad e _ => by cases e; dsimp only; have := HBW.out; omega)
      have HQ14 : Hid (SetsAt w14 q cq (offY false st wd fr ls tb)) := HQ.out.2.1.fr f14 (fun ad e _ e2 => by have := HQ.out.2.2 ad e; omega)
      have HF14 : Hid (Fr (fun _ => False) w w14) := ((H13.out.fr.mono (T := fun k => w.heap.size ≤ k) (fun _ _ e => e.elim)).trans (f14.mono (fun k _ e => by have := H13.out.snew; omega))).mono (fun k hk e => by omega)
      have HNW : Hid (w.heap.size ≤ c) := H13.out.new
      have KW : Calls Tryz.prog 21 #[.pointer (some ⟨c, 0, none⟩), .agg #[.int .i64 4, .int .i64 0, .int .i64 0, .slice none 0 0, .int .i64 0, .int .u32 0, .int .i64 0, .int .i64 0, .int .i64 0, .bool false, .int .i64 0, .slice q m cq]] w14 (WritAs w14 c #[.bool true, .bool false, .int .i64 (st : Int), .int .i64 (wd : Int), .int .i64 (fr : Int), .int .i64 (ls : Int), .int .i64 (tb : Int), .int .i64 (qu : Int), .int .i64 (-1), .string ⟨#[]⟩, .bool false, .bool false, .bool false, .bool false, .pointer p1, .pointer p2, .pointer p3, .pointer p4, .pointer (some ⟨gs, 0, none⟩), .pointer (some ⟨g, 0, none⟩), .map (some mF), .pointer p6, .pointer p7, .slice (some ⟨bW, 0, none⟩) 24 24, .int .i64 0] (.slice none 0 0) (24 + (writeO (setF (offY false st wd fr ls tb))).2.length)) := by
        have hk := kwrite_full c _ (some ⟨bW, 0, none⟩) 24 [80, 82, 73, 32, 42, 32, 72, 84, 84, 80, 47, 50, 46, 48, 13, 10, 13, 10, 83, 77, 13, 10, 13, 10] (setF (offY false st wd fr ls tb)) none q 0 cq w14 HC14.out rfl HO14.out rfl (by omega) (setF_in HQ14.out) (by rw [greet_len]; decide)
        have e1 : (setF (offY false st wd fr ls tb)).Y.length = m := HQ.out.1
        rw [e1] at hk
        exact hk
      clear H13 HS13 HO13 HQ14 f14 c18 HQ
      go_wp2_with (go_at_call 21; refine KW.mono ?_; clear KW; rintro e w15 ⟨rfl, a15, c15, hc15, f15⟩)
      go_ret2
      refine ⟨c, rfl, ⟨_, g, mb, mF, a15, c15, hc15, rfl, rfl, rfl, rfl, rfl, rfl, HS14.out.1.fr f15 ?_ ?_, HM14.out.fr f15 ?_⟩, ?_⟩
      · exact fun e => e.elim (fun e => by have := HS14.out; omega) (fun e => by simp [Value.ownBlock] at e)
      · exact fun e => e.elim (fun e => by have := HS14.out; omega) (fun e => by simp [Value.ownBlock] at e)
      · exact fun e => e.elim (fun e => HM14.out.ne HC14.out e) (fun e => by simp [Value.ownBlock] at e)
      · exact ((HF14.out.mono (T := fun k => w.heap.size ≤ k) (fun _ _ e => e.elim)).trans (f15.mono (fun k _ e => e.elim (fun e => by have := HNW.out; omega) (fun e => by simp [Value.ownBlock] at e)))).mono (fun k hk e => by omega)
    ·
      obtain ⟨d9, z9⟩ := Hb7.out.cell (j := 9) (v := .string ⟨#[]⟩) rfl
      go_upto_region 14 with (fail)
      obtain ⟨w12, hw12⟩ : ∃ w12, w12 = b7.setCell ⟨c, 9, none⟩ (.string ⟨#[80, 82, 73, 32, 42, 32, 72, 84, 84, 80, 47, 50, 46, 48, 13, 10, 13, 10, 83, 77, 13, 10, 13, 10]⟩) := ⟨_, rfl⟩
      have H12 : Hid (NSt w #[.bool true, .int .i64 (st : Int), .int .i64 (wd : Int), .int .i64 (fr : Int), .int .i64 (ls : Int), .int .i64 (tb : Int), .int .i64 (qu : Int)] c mF gs bs #[.bool true, .bool true, .int .i64 (st : Int), .int .i64 (wd : Int), .int .i64 (fr : Int), .int .i64 (ls : Int), .int .i64 (tb : Int), .int .i64 (qu : Int), .int .i64 (-1), .string ⟨#[80, 82, 73, 32, 42, 32, 72, 84, 84, 80, 47, 50, 46, 48, 13, 10, 13, 10, 83, 77, 13, 10, 13, 10]⟩, .bool false, .bool false, .bool false, .bool false, .pointer p1, .pointer p2, .pointer p3, .pointer p4, .pointer (some ⟨gs, 0, none⟩), .pointer (some ⟨g, 0, none⟩), .map (some mF), .pointer p6, .pointer p7, .slice none 0 0, .int .i64 0] w12) := by rw [hw12]; exact Hb7.out.put 9 _
      have HS12 : Hid (StrAt w12 g mb ∧ c < g ∧ c < mb ∧ gs < g ∧ gs < mb) := by rw [hw12]; exact ⟨HSb7.out.1.fr ((Fr.refl (fun k => k = c) _).setB 9 _) (by have := HSb7.out; omega) (by have := HSb7.out; omega), HSb7.out.2⟩
      rw [← hw12]
      have HO12 : Hid (OwnAt w12 5 (.slice none 0 0) (bv [])) := OwnAt.nil _ _
      clear hw12 d9 z9 s0 Hb7 HSb7
      have s0 : w12.cell? ⟨w.heap.size, 0, none⟩ = some (.bool true) := H12.out.setup rfl
      have s1 : w12.cell? ⟨w.heap.size, 1, none⟩ = some (.int .i64 (st : Int)) := H12.out.setup rfl
      have s2 : w12.cell? ⟨w.heap.size, 2, none⟩ = some (.int .i64 (wd : Int)) := H12.out.setup rfl
      have s3 : w12.cell? ⟨w.heap.size, 3, none⟩ = some (.int .i64 (fr : Int)) := H12.out.setup rfl
      have s4 : w12.cell? ⟨w.heap.size, 4, none⟩ = some (.int .i64 (ls : Int)) := H12.out.setup rfl
      have s5 : w12.cell? ⟨w.heap.size, 5, none⟩ = some (.int .i64 (tb : Int)) := H12.out.setup rfl
      have s6 : w12.cell? ⟨w.heap.size, 6, none⟩ = some (.int .i64 (qu : Int)) := H12.out.setup rfl
      go_upto_region 15 with (go_at_call 19; refine (KO.out _).mono ?_; clear KO; rintro e w13 ⟨q, m, cq, rfl, hm, hq, hqn, f13⟩)
      have H13 : Hid (NSt w #[.bool true, .int .i64 (st : Int), .int .i64 (wd : Int), .int .i64 (fr : Int), .int .i64 (ls : Int), .int .i64 (tb : Int), .int .i64 (qu : Int)] c mF gs bs #[.bool true, .bool true, .int .i64 (st : Int), .int .i64 (wd : Int), .int .i64 (fr : Int), .int .i64 (ls : Int), .int .i64 (tb : Int), .int .i64 (qu : Int), .int .i64 (-1), .string ⟨#[80, 82, 73, 32, 42, 32, 72, 84, 84, 80, 47, 50, 46, 48, 13, 10, 13, 10, 83, 77, 13, 10, 13, 10]⟩, .bool false, .bool false, .bool false, .bool false, .pointer p1, .pointer p2, .pointer p3, .pointer p4, .pointer (some ⟨gs, 0, none⟩), .pointer (some ⟨g, 0, none⟩), .map (some mF), .pointer p6, .pointer p7, .slice none 0 0, .int .i64 0] w13) := H12.out.later f13
      have HS13 : Hid (StrAt w13 g mb ∧ c < g ∧ c < mb ∧ gs < g ∧ gs < mb) := ⟨HS12.out.1.fr f13 id id, HS12.out.2⟩
      have HO13 : Hid (OwnAt w13 5 (.slice none 0 0) (bv [])) := HO12.out.fr f13 (fun _ _ => id)
      have HQ : Hid ((offY true st wd fr ls tb).length = m ∧ SetsAt w13 q cq (offY true st wd fr ls tb) ∧ (∀ ad, q = some ad → c < ad.block ∧ gs < ad.block)) := ⟨hm, hq, fun ad e => by have h1 := lt_of_heap H12.out.con; have h2 := H12.out.set.lt; have h3 := hqn ad e; exact ⟨by omega, by omega⟩⟩
      have c18 : w13.cell? ⟨c, 18, none⟩ = some (.pointer (some ⟨gs, 0, none⟩)) := (H13.out.cell rfl).1
      have KOF := Off_in gs bs q cq m _ w13 H13.out.set hq hm
      clear s0 s1 s2 s3 s4 s5 s6 H12 HS12 HO12 f13 hm hq hqn
      go_upto_region 16 with (go_at_call 20; refine KOF.mono ?_; clear KOF; rintro e w14 ⟨rfl, f14⟩)
      have HC14 : Hid (ConnC w14 c #[.bool true, .bool true, .int .i64 (st : Int), .int .i64 (wd : Int), .int .i64 (fr : Int), .int .i64 (ls : Int), .int .i64 (tb : Int), .int .i64 (qu : Int), .int .i64 (-1), .string ⟨#[80, 82, 73, 32, 42, 32, 72, 84, 84, 80, 47, 50, 46, 48, 13, 10, 13, 10, 83, 77, 13, 10, 13, 10]⟩, .bool false, .bool false, .bool false, .bool false, .pointer p1, .pointer p2, .pointer p3, .pointer p4, .pointer (some ⟨gs, 0, none⟩), .pointer (some ⟨g, 0, none⟩), .map (some mF), .pointer p6, .pointer p7, .slice none 0 0, .int .i64 0]) := H13.out.con.fr f14 (fun e => H13.out.ng e.symm)
      have HM14 : Hid (MapAt w14 mF 0 (fun _ => none)) := H13.out.map.fr f14 (H13.out.map.ne H13.out.set)
      have HS14 : Hid (StrAt w14 g mb ∧ c < g ∧ c < mb ∧ gs < g ∧ gs < mb) := ⟨HS13.out.1.fr f14 (by have := HS13.out; omega) (by have := HS13.out; omega), HS13.out.2⟩
      have HO14 : Hid (OwnAt w14 5 (.slice none 0 0) (bv [])) := HO13.out.fr f14 (fun k e => by simp [Value.ownBlock] at e)
      have HQ14 : Hid (SetsAt w14 q cq (offY true st wd fr ls tb)) := HQ.out.2.1.fr f14 (fun ad e _ e2 => by have := HQ.out.2.2 ad e; omega)
      have HF14 : Hid (Fr (fun _ => False) w w14) := ((H13.out.fr.mono (T := fun k => w.heap.size ≤ k) (fun _ _ e => e.elim)).trans (f14.mono (fun k _ e => by have := H13.out.snew; omega))).mono (fun k hk e => by omega)
      have HNW : Hid (w.heap.size ≤ c) := H13.out.new
      have KW : Calls Tryz.prog 21 #[.pointer (some ⟨c, 0, none⟩), .agg #[.int .i64 4, .int .i64 0, .int .i64 0, .slice none 0 0, .int .i64 0, .int .u32 0, .int .i64 0, .int .i64 0, .int .i64 0, .bool false, .int .i64 0, .slice q m cq]] w14 (WritAs w14 c #[.bool true, .bool true, .int .i64 (st : Int), .int .i64 (wd : Int), .int .i64 (fr : Int), .int .i64 (ls : Int), .int .i64 (tb : Int), .int .i64 (qu : Int), .int .i64 (-1), .string ⟨#[80, 82, 73, 32, 42, 32, 72, 84, 84, 80, 47, 50, 46, 48, 13, 10, 13, 10, 83, 77, 13, 10, 13, 10]⟩, .bool false, .bool false, .bool false, .bool false, .pointer p1, .pointer p2, .pointer p3, .pointer p4, .pointer (some ⟨gs, 0, none⟩), .pointer (some ⟨g, 0, none⟩), .map (some mF), .pointer p6, .pointer p7, .slice none 0 0, .int .i64 0] (.slice none 0 0) (0 + (writeO (setF (offY true st wd fr ls tb))).2.length)) := by
        have hk := kwrite_in c _ none 0 0 [] (setF (offY true st wd fr ls tb)) none q 0 cq w14 HC14.out rfl HO14.out rfl (by omega) (setF_in HQ14.out)
        have e1 : (setF (offY true st wd fr ls tb)).Y.length = m := HQ.out.1
        rw [e1] at hk
        exact hk
      clear H13 HS13 HO13 HQ14 f14 c18 HQ
      go_wp2_with (go_at_call 21; refine KW.mono ?_; clear KW; rintro e w15 ⟨rfl, a15, c15, hc15, f15⟩)
      go_ret2
      refine ⟨c, rfl, ⟨_, g, mb, mF, a15, c15, hc15, rfl, rfl, rfl, rfl, rfl, rfl, HS14.out.1.fr f15 ?_ ?_, HM14.out.fr f15 ?_⟩, ?_⟩
      · exact fun e => e.elim (fun e => by have := HS14.out; omega) (fun e => by simp [Value.ownBlock] at e)
      · exact fun e => e.elim (fun e => by have := HS14.out; omega) (fun e => by simp [Value.ownBlock] at e)
      · exact fun e => e.elim (fun e => HM14.out.ne HC14.out e) (fun e => by simp [Value.ownBlock] at e)
      · exact ((HF14.out.mono (T := fun k => w.heap.size ≤ k) (fun _ _ e => e.elim)).trans (f15.mono (fun k _ e => e.elim (fun e => by have := HNW.out; omega) (fun e => by simp [Value.ownBlock] at e)))).mono (fun k hk e => by omega)
end Go.Proofs.YtpjbgjgaigkbcaaGreat
