/- The walk of PoolPlays. -/
import Derived.Test.YtoiencoojkahmaaJs
import Derived.Test.YtoiencoojkahmaaL19
namespace Go.Proofs.Ytoiencoojkahmaa
open Go.RowKit Go.Maps
set_option linter.unusedVariables false
set_option maxRecDepth 100000
set_option maxHeartbeats 4000000

theorem pplays_yes (k : Nat) (F R H rt mo : Int) (q : Option Addr) (c m : Nat) (X : List (Int × Int × Int)) (w : World) (hI : Ops19 w q c X) (hl : X.length = m) (hp : OkP (k : Int) rt mo) (hr : OkR F R H) : Calls Try.prog 3 #[.int .i64 (k : Int), .agg #[.int .i64 F, .int .i64 R, .int .i64 H], .int .i64 rt, .int .i64 mo, .slice q m c] w fun e w' => e = .returned (.bool true) ∧ Below w.heap.size w w' := by
  have hm2 : (m : Int) ≤ 800000000000000000 := by have := hI.few; rw [hl] at this; have h2 : reachBytes < 2 ^ 47 := reach_lt; omega
  have HI : Hid (Ops19 w q c X) := hI
  have HL : Hid (X.length = m) := hl
  clear hI hl
  go_enter Try.func3, Try.ntmps3
  go_upto_region 1 with (fail)
  obtain ⟨wa, hwa⟩ : ∃ wa, wa = w.alloc (Obj.cells #[.int .i64 F, .int .i64 R, .int .i64 H] 23) := ⟨_, rfl⟩
  obtain ⟨hb, hhb⟩ : ∃ hb, hb = w.heap.size := ⟨_, rfl⟩
  have Fa : Hid (Fr (fun _ => False) w wa) := by rw [hwa]; exact (Fr.refl _ _).alloc _
  have Ba : Hid (wa.heap[hb]? = some (.cells #[.int .i64 F, .int .i64 R, .int .i64 H] 23 (0, 0))) := by rw [hwa, hhb]; exact heap_alloc_new _ _
  have c0 : wa.cell? ⟨hb, 0, none⟩ = some (.int .i64 F) := cell_of_heap Ba.out rfl
  have c1 : wa.cell? ⟨hb, 1, none⟩ = some (.int .i64 R) := cell_of_heap Ba.out rfl
  have c2 : wa.cell? ⟨hb, 2, none⟩ = some (.int .i64 H) := cell_of_heap Ba.out rfl
  rw [← hwa, ← hhb]
  clear hwa hhb
  obtain ⟨base, hbase⟩ : ∃ base, wa.heap.size = base := ⟨_, rfl⟩
  have HB : Hid (wa.heap.size = base) := hbase
  have KN := plNew_pi wa k F R H rt mo hr hp
  rw [hbase] at KN
  have KR : ∀ w1, Hid (Fr (fun _ => False) wa w1) → _ := fun w1 h1 => rplNew_qi wa base w1 (by rw [← hbase]; exact h1.out.size) (h1.out.mono (fun _ _ e => e.elim)) k F R H rt mo hr hp
  clear hbase
  go_upto_region 2 with (go_at_call 8; refine KN.mono ?_; clear KN; rintro e w1 ⟨g, rfl, p1, f1⟩)
  have P1 : Hid (PI base wa g k F R H rt mo 0 (newP rt k) w1) := p1
  have F1 : Hid (Fr (fun _ => False) wa w1) := f1
  have KR2 := KR w1 F1
  have Bb : Hid (w1.heap[hb]? = some (.cells #[.int .i64 F, .int .i64 R, .int .i64 H] 23 (0, 0))) := (f1.block _ (lt_of_heap Ba.out) id).trans Ba.out
  clear p1 f1 KR c0 c1 c2 Ba
  have c0 : w1.cell? ⟨hb, 0, none⟩ = some (.int .i64 F) := cell_of_heap Bb.out rfl
  have c1 : w1.cell? ⟨hb, 1, none⟩ = some (.int .i64 R) := cell_of_heap Bb.out rfl
  have c2 : w1.cell? ⟨hb, 2, none⟩ = some (.int .i64 H) := cell_of_heap Bb.out rfl
  go_upto_region 3 with (go_at_call 9; refine KR2.mono ?_; clear KR2; rintro e w2 ⟨g2, rfl, q2, f2⟩)
  have HS0 : Hid (PlyAs base wa g g2 k F R H rt mo 0 (newP rt k) w2) := ⟨P1.out.later f2, q2⟩
  clear q2 f2 P1 F1 Bb c0 c1 c2
  go_wp2_with (fail)
  go_loopw [15] (fun x15 wr => ∃ (i : Nat) (s : Pl), x15 = .int .i64 (i : Int) ∧ i ≤ m ∧ Hid (PlyAs base wa g g2 k F R H rt mo (i : Int) s wr)) (fun x15 _ => m - (intOf x15).toNat)
  case atStart => exact ⟨0, _, rfl, by omega, HS0.out⟩
  case round =>
    clear HS0
    obtain ⟨i, s, rfl, him, HS⟩ := hrel
    by_cases hlt : i < m
    · have hlt2 : (i : Int) < (m : Int) := by omega
      obtain ⟨⟨wh, d, v⟩, ho⟩ : ∃ o, X[i]? = some o := ⟨X[i]'(by rw [HL.out]; exact hlt), List.getElem?_eq_getElem _⟩
      obtain ⟨gq, oq, rfl, hgq, a0, a1, a2, i0, i1, i2⟩ := HI.out.cells i _ ho
      dsimp only at a0 a1 a2 i0 i1 i2
      have hga : gq < wa.heap.size := Nat.lt_of_lt_of_le hgq Fa.out.size
      have hgb : ¬ base ≤ gq := by have := HB.out; omega
      have fa := Fa.out
      have hf := HS.out.1.fr
      have k0 : wr.cell? ⟨gq, oq + i * 3, none⟩ = some (.int .i64 wh) := (hf.cell (p := ⟨gq, _, none⟩) hga hgb).trans ((fa.cell (p := ⟨gq, _, none⟩) hgq id).trans a0)
      have k1 : wr.cell? ⟨gq, oq + i * 3 + 1, none⟩ = some (.int .i64 d) := (hf.cell (p := ⟨gq, _, none⟩) hga hgb).trans ((fa.cell (p := ⟨gq, _, none⟩) hgq id).trans a1)
      have k2 : wr.cell? ⟨gq, oq + i * 3 + 2, none⟩ = some (.int .i64 v) := (hf.cell (p := ⟨gq, _, none⟩) hga hgb).trans ((fa.cell (p := ⟨gq, _, none⟩) hgq id).trans a2)
      have KP := plplay_in HS.out.1 HS.out.2 (by omega) wh d v i2.2
      obtain ⟨s2, hs2⟩ : ∃ s2, plyP k F R H rt mo s wh d v = s2 := ⟨_, rfl⟩
      rw [hs2] at KP
      have KS : ∀ w3, Hid (PlyAs base wa g g2 k F R H rt mo ((i : Int) + 1) s2 w3) → _ := fun w3 h => plsame_in h.out.1 h.out.2 (by omega) (by omega)
      clear a0 a1 a2 ho fa hf hs2 i0 i1 i2 hgq hga hgb HS
      go_wp2_with (first
        | (go_at_call 10; refine KP.mono ?_; clear KP; rintro e w3 ⟨rfl, X3⟩; have K3 := KS w3 X3; clear KS)
        | (go_at_call 11; refine K3.mono ?_; clear K3; rintro e w4 ⟨rfl, f4⟩; have X4 : Hid (PlyAs base wa g g2 k F R H rt mo ((i : Int) + 1) s2 w4) := ⟨X3.out.1.later f4, X3.out.2.later f4⟩; clear f4 X3))
      go_roundw
      case rel => exact ⟨i + 1, s2, by go_num, by omega, by have := X4.out; rw [Int.natCast_succ]; exact this⟩
      case measure => simp [intOf]; omega
    · obtain rfl : m = i := by omega
      go_wp2_with (go_at_call 12; refine (plawake_in _).mono ?_; rintro e w6 ⟨rfl, hf6⟩)
      go_ret
      have f9 := HS.out.1.fr
      exact ⟨rfl, ((Fa.out.mono (T := fun k => base ≤ k) (fun _ _ e => e.elim)).trans (f9.trans (hf6.mono (fun _ _ e => e.elim)))).below (fun k hk e => by have h1 := HB.out; have h2 : base ≤ k := e; have h3 := Fa.out.size; omega)⟩
theorem pplays_no (n F R H rt mo : Int) (q : Option Addr) (c m : Nat) (w : World) (h : ¬ (OkP n rt mo ∧ OkR F R H)) : Calls Try.prog 3 #[.int .i64 n, .agg #[.int .i64 F, .int .i64 R, .int .i64 H], .int .i64 rt, .int .i64 mo, .slice q m c] w fun e w' => e = .returned (.bool true) ∧ Below w.heap.size w w' := by
  have KN := fun w => plNew_no w n F R H rt mo h
  have KR := fun w => rplNew_no w n F R H rt mo h
  clear h
  go_enter Try.func3, Try.ntmps3
  go_upto_region 1 with (fail)
  obtain ⟨wa, hwa⟩ : ∃ wa, wa = w.alloc (Obj.cells #[.int .i64 F, .int .i64 R, .int .i64 H] 23) := ⟨_, rfl⟩
  obtain ⟨hb, hhb⟩ : ∃ hb, hb = w.heap.size := ⟨_, rfl⟩
  have Fa : Hid (Fr (fun _ => False) w wa) := by rw [hwa]; exact (Fr.refl _ _).alloc _
  have Ba : Hid (wa.heap[hb]? = some (.cells #[.int .i64 F, .int .i64 R, .int .i64 H] 23 (0, 0))) := by rw [hwa, hhb]; exact heap_alloc_new _ _
  have c0 : wa.cell? ⟨hb, 0, none⟩ = some (.int .i64 F) := cell_of_heap Ba.out rfl
  have c1 : wa.cell? ⟨hb, 1, none⟩ = some (.int .i64 R) := cell_of_heap Ba.out rfl
  have c2 : wa.cell? ⟨hb, 2, none⟩ = some (.int .i64 H) := cell_of_heap Ba.out rfl
  rw [← hwa, ← hhb]
  clear hwa hhb
  go_upto_region 2 with (go_at_call 8; refine (KN _).mono ?_; clear KN; rintro e w1 ⟨rfl, f1⟩)
  have F1 : Hid (Fr (fun _ => False) wa w1) := f1
  have Bb : Hid (w1.heap[hb]? = some (.cells #[.int .i64 F, .int .i64 R, .int .i64 H] 23 (0, 0))) := (f1.block _ (lt_of_heap Ba.out) id).trans Ba.out
  clear f1 c0 c1 c2 Ba
  have c0 : w1.cell? ⟨hb, 0, none⟩ = some (.int .i64 F) := cell_of_heap Bb.out rfl
  have c1 : w1.cell? ⟨hb, 1, none⟩ = some (.int .i64 R) := cell_of_heap Bb.out rfl
  have c2 : w1.cell? ⟨hb, 2, none⟩ = some (.int .i64 H) := cell_of_heap Bb.out rfl
  go_upto_region 3 with (go_at_call 9; refine (KR _).mono ?_; clear KR; rintro e w2 ⟨rfl, f2⟩)
  have F2 : Hid (Fr (fun _ => False) w w2) := Fa.out.trans (F1.out.trans f2)
  clear f2 F1 Fa Bb c0 c1 c2
  go_wp2_with (fail)
  go_loopw [15] (fun x15 wr => x15 = .int .i64 0 ∧ Hid (Fr (fun _ => False) w wr)) (fun x15 _ => 0)
  case atStart => exact ⟨rfl, F2.out⟩
  case round =>
    clear F2
    obtain ⟨rfl, HF⟩ := hrel
    go_wp2_with (go_at_call 12; refine (plawake_in _).mono ?_; rintro e w6 ⟨rfl, hf6⟩)
    go_ret
    exact ⟨rfl, (HF.out.trans hf6).below (fun k hk e => e)⟩
theorem pplays_walk (n F R H rt mo : Int) (q : Option Addr) (c m : Nat) (X : List (Int × Int × Int)) (w : World) (hI : Ops19 w q c X) (hl : X.length = m) : Calls Try.prog 3 #[.int .i64 n, .agg #[.int .i64 F, .int .i64 R, .int .i64 H], .int .i64 rt, .int .i64 mo, .slice q m c] w fun e w' => e = .returned (.bool true) ∧ Below w.heap.size w w' := by
  by_cases h : OkP n rt mo ∧ OkR F R H
  · have := h.1.n0
    obtain ⟨k, rfl⟩ : ∃ k : Nat, n = (k : Int) := ⟨n.toNat, by omega⟩
    exact pplays_yes k F R H rt mo q c m X w hI hl h.1 h.2
  · exact pplays_no n F R H rt mo q c m w h
end Go.Proofs.Ytoiencoojkahmaa
