/- The walk of PoolLoads. -/
import Derived.Test.YtoiencoojkahmaaJs
import Derived.Test.YtoiencoojkahmaaL19
import Derived.Deep.RegionHeldLaw
import Derived.Deep.DeepCutAuto
import Derived.BigQuiet
namespace Go.Proofs.Ytoiencoojkahmaa
open Go.RowKit Go.Maps
set_option linter.unusedVariables false
set_option maxRecDepth 100000
set_option maxHeartbeats 4000000

theorem see_up {x : Bk} (h : seeU x = true) : x.st = 2 := by
  unfold seeU at h
  simp at h
  exact h.2
theorem see_pos (x : Bk) : ¬ seeS x < 0 := by
  unfold seeS
  split
  · split <;> omega
  · omega
theorem sta_at (n : Nat) (s : Pl) {j : Nat} (hj : j < n) : staI n s (j : Int) = (s.X j).st := by unfold staI; rw [if_pos ⟨by omega, by omega⟩, Int.toNat_natCast]
theorem keep_new {W w2 : World} {k : Nat} {cs : Array Value} {t : TypeId} (f : Fr (fun _ => False) W w2) (h : W.heap[k]? = some (.cells cs t (0, 0))) : w2.heap[k]? = some (.cells cs t (0, 0)) := (f.block k (lt_of_heap h) id).trans h
/-- Both pools, a call's box, and what was seen. -/
structure BxS (base : Nat) (w0 : World) (g g2 : Nat) (c : Int) (s : Pl) (d : Int) (t : Pl) (go : Nat) (ob : Array Value) (gb : Nat) (sb : Array Value) (wr : World) : Prop where
  x : BxP base w0 g g2 3 2 2 1 1 4 c s d t go ob wr
  b : wr.heap[gb]? = some (.cells sb 46 (0, 0))
section
variable {base : Nat} {w0 wr w' : World} {g g2 : Nat} {c d y : Int} {s t u : Pl} {go gb : Nat} {ob sb : Array Value}
theorem BxS.later (h : BxS base w0 g g2 c s d t go ob gb sb wr) (f : Fr (fun _ => False) wr w') : BxS base w0 g g2 c s d t go ob gb sb w' := ⟨h.x.later f, (f.block gb (lt_of_heap h.b) id).trans h.b⟩
theorem BxS.goP (h : BxS base w0 g g2 c s d t go ob gb sb wr) (hp : PI base w0 g 3 2 2 1 1 4 y u w' ∧ Fr (PT wr) wr w' ∧ Fr (fun k => base ≤ k) wr w') : BxS base w0 g g2 y u d t go ob gb sb w' :=
  ⟨h.x.goP hp, (hp.2.1.block gb (lt_of_heap h.b) (pt_not h.b (by decide))).trans h.b⟩
theorem BxS.goQ (h : BxS base w0 g g2 c s d t go ob gb sb wr) (hp : QI base w0 g2 3 2 2 1 1 4 y u w' ∧ Fr (QT wr) wr w' ∧ Fr (fun k => base ≤ k) wr w') : BxS base w0 g g2 c s y u go ob gb sb w' :=
  ⟨h.x.goQ hp, (hp.2.1.block gb (lt_of_heap h.b) (qt_not h.b (by decide))).trans h.b⟩
theorem bxs_alloc (h : BxP base w0 g g2 3 2 2 1 1 4 c s d t go ob wr) (f : Fr (fun _ => False) wr w') : BxS base w0 g g2 c s d t go ob w'.heap.size sb (w'.alloc (.cells sb 46)) := ⟨h.later (f.alloc _), heap_alloc_new _ _⟩
theorem bxs_set {U : Bool} {Y L : Int} (h : BxP base w0 g g2 3 2 2 1 1 4 c s d t go ob wr) (f : Fr (fun _ => False) wr w') (hb : w'.heap[wr.heap.size]? = some (.cells #[.bool false, .int .i64 0, .int .i64 0] 46 (0, 0))) : BxS base w0 g g2 c s d t go ob wr.heap.size #[.bool U, .int .i64 Y, .int .i64 L] (((w'.setCell ⟨wr.heap.size, 0, none⟩ (.bool U)).setCell ⟨wr.heap.size, 1, none⟩ (.int .i64 Y)).setCell ⟨wr.heap.size, 2, none⟩ (.int .i64 L)) := by
  refine ⟨h.later ?_, ?_⟩
  · exact ((((f.mono (T := fun q => q = wr.heap.size) (fun _ _ e => e.elim)).setB _ _).setB _ _).setB _ _).mono (fun q hq e => by omega)
  · have h1 := heap_set (j := 0) (.bool U) hb
    have h2 := heap_set (j := 1) (.int .i64 Y) h1
    have h3 := heap_set (j := 2) (.int .i64 L) h2
    exact h3
end
theorem ploads_walk (q : Option Addr) (c m : Nat) (X : List (Int × Int × Int)) (w : World) (hI : Ops19 w q c X) (hl : X.length = m) : Calls Try.prog 5 #[.slice q m c] w fun e w' => e = .returned (.bool true) ∧ Below w.heap.size w w' := by
  have hm2 : (m : Int) ≤ 800000000000000000 := by have := hI.few; rw [hl] at this; have h2 : reachBytes < 2 ^ 47 := reach_lt; omega
  have HI : Hid (Ops19 w q c X) := hI
  have HL : Hid (X.length = m) := hl
  clear hI hl
  have hr : OkR 2 2 1 := ⟨by decide, by decide, by decide, by decide, by decide, by decide⟩
  have hp : OkP ((3 : Nat) : Int) 1 4 := ⟨by decide, by decide, by decide, by decide, by decide⟩
  obtain ⟨base, hbase⟩ : ∃ base, w.heap.size = base := ⟨_, rfl⟩
  have HB : Hid (w.heap.size = base) := hbase
  have KN := plNew_pi w 3 2 2 1 1 4 hr hp
  rw [hbase] at KN
  have KR : ∀ w1, Hid (Fr (fun _ => False) w w1) → _ := fun w1 h1 => rplNew_qi w base w1 (by rw [← hbase]; exact h1.out.size) (h1.out.mono (fun _ _ e => e.elim)) 3 2 2 1 1 4 hr hp
  have hz0 : ∀ w, (zeroValue 23).run Try.prog w = .ok (.agg #[.int .i64 0, .int .i64 0, .int .i64 0]) w := fun w => by kernel_rfl
  clear hbase hr hp
  go_enter Try.func5, Try.ntmps5
  go_upto_region 2 with (go_at_call 8; refine KN.mono ?_; clear KN; rintro e w1 ⟨g, rfl, p1, f1⟩)
  have P1 : Hid (PI base w g 3 2 2 1 1 4 0 (newP 1 3) w1) := p1
  have F1 : Hid (Fr (fun _ => False) w w1) := f1
  have KR2 := KR w1 F1
  clear p1 f1 KR
  go_upto_region 3 with (go_at_call 9; refine KR2.mono ?_; clear KR2; rintro e w2 ⟨g2, rfl, q2, f2⟩)
  have HS0 : Hid (PlyAs base w g g2 3 2 2 1 1 4 0 (newP 1 3) w2) := ⟨P1.out.later f2, q2⟩
  clear q2 f2 P1 F1 hz0
  go_wp2_with (fail)
  go_loopw [7] (fun x7 wr => ∃ (i : Nat) (s : Pl), x7 = .int .i64 (i : Int) ∧ i ≤ m ∧ Hid (PlyAs base w g g2 3 2 2 1 1 4 (i : Int) s wr)) (fun x7 _ => m - (intOf x7).toNat)
  case atStart => exact ⟨0, _, rfl, by omega, HS0.out⟩
  case round =>
    clear HS0
    obtain ⟨i, s, rfl, him, HS⟩ := hrel
    by_cases hlt : i < m
    · have hlt2 : (i : Int) < (m : Int) := by omega
      obtain ⟨⟨wh, d, v⟩, ho⟩ : ∃ o, X[i]? = some o := ⟨X[i]'(by rw [HL.out]; exact hlt), List.getElem?_eq_getElem _⟩
      obtain ⟨gq, oq, rfl, hgq, a0, a1, a2, i0, i1, i2⟩ := HI.out.cells i _ ho
      dsimp only at a0 a1 a2 i0 i1 i2
      have hgb : ¬ base ≤ gq := by have := HB.out; omega
      have hf := HS.out.1.fr
      have k0 : wr.cell? ⟨gq, oq + i * 3, none⟩ = some (.int .i64 wh) := (hf.cell (p := ⟨gq, _, none⟩) hgq hgb).trans a0
      have k1 : wr.cell? ⟨gq, oq + i * 3 + 1, none⟩ = some (.int .i64 d) := (hf.cell (p := ⟨gq, _, none⟩) hgq hgb).trans a1
      have k2 : wr.cell? ⟨gq, oq + i * 3 + 2, none⟩ = some (.int .i64 v) := (hf.cell (p := ⟨gq, _, none⟩) hgq hgb).trans a2
      have hv := i2.2
      clear a0 a1 a2 ho hf i0 i1 i2 hgq hgb
      go_upto_region 9 with (fail)
      obtain ⟨wa, hwa⟩ : ∃ wa, wa = wr.alloc (Obj.cells #[.int .i64 wh, .int .i64 d, .int .i64 v] 34) := ⟨_, rfl⟩
      obtain ⟨go, hgo⟩ : ∃ go, go = wr.heap.size := ⟨_, rfl⟩
      have Fa : Hid (Fr (fun _ => False) wr wa) := by rw [hwa]; exact (Fr.refl _ _).alloc _
      have HO : Hid (BxP base w g g2 3 2 2 1 1 4 (i : Int) s (i : Int) s go #[.int .i64 wh, .int .i64 d, .int .i64 v] wa) := ⟨HS.out.1.later Fa.out, HS.out.2.later Fa.out, by rw [hwa, hgo]; exact heap_alloc_new _ _⟩
      rw [← hwa, ← hgo]
      clear hwa hgo Fa HS k0 k1 k2
      have o0 : wa.cell? ⟨go, 0, none⟩ = some (.int .i64 wh) := cell_of_heap HO.out.b rfl
      have o1 : wa.cell? ⟨go, 1, none⟩ = some (.int .i64 d) := cell_of_heap HO.out.b rfl
      have o2 : wa.cell? ⟨go, 2, none⟩ = some (.int .i64 v) := cell_of_heap HO.out.b rfl
      by_cases hw : wh = 5
      · subst hw
        have KB := HO.out.p.backs (by omega)
        rcases any_case 3 d with hd | ⟨j, rfl, hj⟩
        · by_cases hd0 : d < 0
          · have e0 : decide (0 ≤ d) = false := decide_eq_false (by omega)
            have e1 : ¬ 0 ≤ d := by omega
            go_upto_region 15 with (go_at_call 17; refine KB.mono ?_; clear KB; rintro e wb ⟨vb, rfl, ab, fb⟩; obtain ⟨lo, lc, rfl, -⟩ := ab.cells (Fr.refl _ _); have b1 : wb.cell? ⟨go, 1, none⟩ = some (.int .i64 d) := cell_of_heap (HO.out.later fb).b rfl)
            have HOb : Hid (BxP base w g g2 3 2 2 1 1 4 (i : Int) s (i : Int) s go #[.int .i64 5, .int .i64 d, .int .i64 v] wb) := HO.out.later fb
            clear fb ab HO o0 o1 o2 b1
            have KP := plplay_in HOb.out.p HOb.out.q (by omega) 5 d v hv
            obtain ⟨s2, hs2⟩ : ∃ s2, plyP 3 2 2 1 1 4 s 5 d v = s2 := ⟨_, rfl⟩
            rw [hs2] at KP
            have p0 : wb.cell? ⟨go, 0, none⟩ = some (.int .i64 5) := cell_of_heap HOb.out.b rfl
            have p1 : wb.cell? ⟨go, 1, none⟩ = some (.int .i64 d) := cell_of_heap HOb.out.b rfl
            have p2 : wb.cell? ⟨go, 2, none⟩ = some (.int .i64 v) := cell_of_heap HOb.out.b rfl
            clear hs2 HOb
            go_upto_region 16 with (go_at_call 10; refine KP.mono ?_; clear KP; rintro e w3 ⟨rfl, X3⟩)
            have K3 := X3.out.1.backs (by omega)
            clear p0 p1 p2
            go_upto_region 17 with (go_at_call 17; refine K3.mono ?_; clear K3; rintro e w4 ⟨v4, rfl, a4, f4⟩)
            have A4 : Hid (SeeAt w3 w4 s2.X 3 v4) := a4
            have X4 : Hid (PlyAs base w g g2 3 2 2 1 1 4 ((i : Int) + 1) s2 w4) := ⟨X3.out.1.later f4, X3.out.2.later f4⟩
            obtain ⟨lo, lc, rfl, -⟩ := A4.out.cells (Fr.refl _ _)
            clear a4 f4 X3
            go_wp2_with (fail)
            go_loopw [12] (fun x12 wy => ∃ k : Nat, x12 = .int .i64 (k : Int) ∧ k ≤ 3 ∧ Hid (w4 = wy)) (fun x12 _ => 3 - (intOf x12).toNat)
            case atStart => exact ⟨0, rfl, by omega, rfl⟩
            case round =>
              obtain ⟨k, rfl, hk3, HE⟩ := hrel
              rename World => wy
              obtain rfl : w4 = wy := HE.out
              by_cases hk : k < 3
              · have hk2 : (k : Int) < 3 := by omega
                obtain ⟨lo', lc', e1, hx⟩ := A4.out.cells (Fr.refl _ _)
                cases e1
                obtain ⟨x0, x1, x2⟩ := hx k hk
                have h1 := see_pos (s2.X k)
                have h2 : ¬ (s2.X k).load < 0 := by have := (X4.out.1.inv.b k hk).l0; omega
                have KS := X4.out.1.state (k : Int)
                rw [sta_at 3 s2 hk] at KS
                cases hu : seeU (s2.X k)
                · rw [hu] at x0
                  generalize seeS (s2.X k) = y at x1 h1
                  generalize (s2.X k).load = l at x2 h2
                  have h3 : decide (y < 0) = false := decide_eq_false h1
                  have h4 : decide (l < 0) = false := decide_eq_false h2
                  clear hx KS hu
                  go_wp2_with (fail)
                  go_roundw
                  case rel => exact ⟨k + 1, by go_num, by omega, by first | exact rfl | exact True.intro⟩
                  case measure => simp [intOf]; omega
                · rw [see_up hu] at KS
                  rw [hu] at x0
                  generalize seeS (s2.X k) = y at x1 h1
                  generalize (s2.X k).load = l at x2 h2
                  have h3 : decide (y < 0) = false := decide_eq_false h1
                  have h4 : decide (l < 0) = false := decide_eq_false h2
                  clear hx hu
                  go_wp2_with (go_at_call 20; refine KS.mono ?_; clear KS; rintro e w' ⟨rfl, rfl⟩)
                  go_roundw
                  case rel => exact ⟨k + 1, by go_num, by omega, by first | exact rfl | exact True.intro⟩
                  case measure => simp [intOf]; omega
              · go_wp2_with (fail)
                go_roundw
                case rel => exact ⟨i + 1, s2, by go_num, by omega, by have := X4.out; rw [Int.natCast_succ]; exact this⟩
                case measure => simp [intOf]; omega
          · have e0 : decide (0 ≤ d) = true := decide_eq_true (by omega)
            have e1 : 0 ≤ d := by omega
            have e2 : decide (d < 3) = false := decide_eq_false (by omega)
            have e3 : ¬ d < 3 := by omega
            go_upto_region 15 with (go_at_call 17; refine KB.mono ?_; clear KB; rintro e wb ⟨vb, rfl, ab, fb⟩; obtain ⟨lo, lc, rfl, -⟩ := ab.cells (Fr.refl _ _); have b1 : wb.cell? ⟨go, 1, none⟩ = some (.int .i64 d) := cell_of_heap (HO.out.later fb).b rfl)
            have HOb : Hid (BxP base w g g2 3 2 2 1 1 4 (i : Int) s (i : Int) s go #[.int .i64 5, .int .i64 d, .int .i64 v] wb) := HO.out.later fb
            clear fb ab HO o0 o1 o2 b1
            have KP := plplay_in HOb.out.p HOb.out.q (by omega) 5 d v hv
            obtain ⟨s2, hs2⟩ : ∃ s2, plyP 3 2 2 1 1 4 s 5 d v = s2 := ⟨_, rfl⟩
            rw [hs2] at KP
            have p0 : wb.cell? ⟨go, 0, none⟩ = some (.int .i64 5) := cell_of_heap HOb.out.b rfl
            have p1 : wb.cell? ⟨go, 1, none⟩ = some (.int .i64 d) := cell_of_heap HOb.out.b rfl
            have p2 : wb.cell? ⟨go, 2, none⟩ = some (.int .i64 v) := cell_of_heap HOb.out.b rfl
            clear hs2 HOb
            go_upto_region 16 with (go_at_call 10; refine KP.mono ?_; clear KP; rintro e w3 ⟨rfl, X3⟩)
            have K3 := X3.out.1.backs (by omega)
            clear p0 p1 p2
            go_upto_region 17 with (go_at_call 17; refine K3.mono ?_; clear K3; rintro e w4 ⟨v4, rfl, a4, f4⟩)
            have A4 : Hid (SeeAt w3 w4 s2.X 3 v4) := a4
            have X4 : Hid (PlyAs base w g g2 3 2 2 1 1 4 ((i : Int) + 1) s2 w4) := ⟨X3.out.1.later f4, X3.out.2.later f4⟩
            obtain ⟨lo, lc, rfl, -⟩ := A4.out.cells (Fr.refl _ _)
            clear a4 f4 X3
            go_wp2_with (fail)
            go_loopw [12] (fun x12 wy => ∃ k : Nat, x12 = .int .i64 (k : Int) ∧ k ≤ 3 ∧ Hid (w4 = wy)) (fun x12 _ => 3 - (intOf x12).toNat)
            case atStart => exact ⟨0, rfl, by omega, rfl⟩
            case round =>
              obtain ⟨k, rfl, hk3, HE⟩ := hrel
              rename World => wy
              obtain rfl : w4 = wy := HE.out
              by_cases hk : k < 3
              · have hk2 : (k : Int) < 3 := by omega
                obtain ⟨lo', lc', e1, hx⟩ := A4.out.cells (Fr.refl _ _)
                cases e1
                obtain ⟨x0, x1, x2⟩ := hx k hk
                have h1 := see_pos (s2.X k)
                have h2 : ¬ (s2.X k).load < 0 := by have := (X4.out.1.inv.b k hk).l0; omega
                have KS := X4.out.1.state (k : Int)
                rw [sta_at 3 s2 hk] at KS
                cases hu : seeU (s2.X k)
                · rw [hu] at x0
                  generalize seeS (s2.X k) = y at x1 h1
                  generalize (s2.X k).load = l at x2 h2
                  have h3 : decide (y < 0) = false := decide_eq_false h1
                  have h4 : decide (l < 0) = false := decide_eq_false h2
                  clear hx KS hu
                  go_wp2_with (fail)
                  go_roundw
                  case rel => exact ⟨k + 1, by go_num, by omega, by first | exact rfl | exact True.intro⟩
                  case measure => simp [intOf]; omega
                · rw [see_up hu] at KS
                  rw [hu] at x0
                  generalize seeS (s2.X k) = y at x1 h1
                  generalize (s2.X k).load = l at x2 h2
                  have h3 : decide (y < 0) = false := decide_eq_false h1
                  have h4 : decide (l < 0) = false := decide_eq_false h2
                  clear hx hu
                  go_wp2_with (go_at_call 20; refine KS.mono ?_; clear KS; rintro e w' ⟨rfl, rfl⟩)
                  go_roundw
                  case rel => exact ⟨k + 1, by go_num, by omega, by first | exact rfl | exact True.intro⟩
                  case measure => simp [intOf]; omega
              · go_wp2_with (fail)
                go_roundw
                case rel => exact ⟨i + 1, s2, by go_num, by omega, by have := X4.out; rw [Int.natCast_succ]; exact this⟩
                case measure => simp [intOf]; omega
        · have hj2 : (j : Int) < 3 := by omega
          have hj3 : (0 : Int) ≤ (j : Int) := by omega
          have e0 : decide ((0 : Int) ≤ (j : Int)) = true := decide_eq_true hj3
          have e1 : decide ((j : Int) < 3) = true := decide_eq_true hj2
          go_upto_region 10 with (go_at_call 17; refine KB.mono ?_; clear KB; rintro e wb ⟨vb, rfl, ab, fb⟩; obtain ⟨lo, lc, rfl, -⟩ := ab.cells (Fr.refl _ _); have b1 : wb.cell? ⟨go, 1, none⟩ = some (.int .i64 (j : Int)) := cell_of_heap (HO.out.later fb).b rfl)
          have HOb : Hid (BxP base w g g2 3 2 2 1 1 4 (i : Int) s (i : Int) s go #[.int .i64 5, .int .i64 (j : Int), .int .i64 v] wb) := HO.out.later fb
          clear fb ab HO o0 o1 o2 b1
          obtain ⟨U, hU⟩ : ∃ U, seeU (s.X j) = U := ⟨_, rfl⟩
          obtain ⟨Y, hY⟩ : ∃ Y, seeS (s.X j) = Y := ⟨_, rfl⟩
          obtain ⟨L, hL⟩ : ∃ L, (s.X j).load = L := ⟨_, rfl⟩
          have HY : Hid (seeS (s.X j) = Y) := hY
          have HLd : Hid ((s.X j).load = L) := hL
          have KB2 : ∀ W, Hid (Fr (fun _ => False) wb W) → Calls Try.prog 17 #[.pointer (some ⟨g, 0, none⟩)] W fun e w' => ∃ lo lc, e = .returned (.slice (some ⟨lo, 0, none⟩) 3 lc) ∧ Hid (Fr (fun _ => False) W w' ∧ Fr (fun _ => False) wb w' ∧ w'.cell? ⟨lo, j * 3, none⟩ = some (.bool U) ∧ w'.cell? ⟨lo, j * 3 + 1, none⟩ = some (.int .i64 Y) ∧ w'.cell? ⟨lo, j * 3 + 2, none⟩ = some (.int .i64 L) ∧ lo < w'.heap.size) := fun W hW => by
            refine ((HOb.out.later hW.out).p.backs (by omega)).mono ?_
            rintro e w' ⟨v9, rfl, a9, f9⟩
            obtain ⟨lo9, lc9, rfl, hx9⟩ := a9.cells (Fr.refl _ _)
            obtain ⟨x0, x1, x2⟩ := hx9 j hj
            obtain ⟨o9, cap9, cs9, e9, -, hc9, -⟩ := a9
            cases e9
            rw [hU] at x0
            rw [hY] at x1
            rw [hL] at x2
            exact ⟨lo9, lc9, rfl, f9, hW.out.trans f9, x0, x1, x2, lt_of_heap hc9⟩
          have hz : ∀ w, (zeroValue 46).run Try.prog w = .ok (.agg #[.bool false, .int .i64 0, .int .i64 0]) w := fun w => by kernel_rfl
          clear hU hY hL
          have p1 : wb.cell? ⟨go, 1, none⟩ = some (.int .i64 (j : Int)) := cell_of_heap HOb.out.b rfl
          have Q1 : ∀ W, Hid (Fr (fun _ => False) wb W) → W.cell? ⟨go, 1, none⟩ = some (.int .i64 (j : Int)) := fun W hW => (hW.out.cell (p := ⟨go, 1, none⟩) (lt_of_heap HOb.out.b) id).trans p1
          have Q2 : ∀ o, (wb.alloc o).cell? ⟨go, 1, none⟩ = some (.int .i64 (j : Int)) := fun o => Q1 _ ((Fr.refl _ _).alloc o)
          have G0 : ∀ q, Hid (Fr (fun _ => False) wb (wb.drewN q)) := fun q => (Fr.refl _ _).drewN q
          have G1 : ∀ q o, Hid (Fr (fun _ => False) wb ((wb.drewN q).alloc o)) := fun q o => ((Fr.refl _ _).drewN q).alloc o
          have G2 : ∀ o, Hid (Fr (fun _ => False) wb (wb.alloc o)) := fun o => (Fr.refl _ _).alloc o
          have G3 : ∀ o, Hid (Fr (fun _ => False) wb (wb.alloc o).drew) := fun o => ((Fr.refl _ _).alloc o).drew
          go_cut [9] (fun s9 wc => ∃ gb, s9 = .pointer (some ⟨gb, 0, none⟩) ∧ Hid (BxS base w g g2 (i : Int) s (i : Int) s go #[.int .i64 5, .int .i64 (j : Int), .int .i64 v] gb #[.bool U, .int .i64 Y, .int .i64 L] wc))
          case first =>
            go_region_with (go_at_call 17; refine (KB2 _ (by first | exact G0 _ | exact G1 _ _ | exact G2 _ | exact G3 _)).mono ?_; rintro e w2 ⟨lo2, lc2, rfl, X2⟩; obtain ⟨f3, f2, y0, y1, y2, hlo⟩ := X2.out; have F2 : Hid (Fr (fun _ => False) wb w2) := f2; (first | (have b9 : Hid (w2.heap[wb.heap.size]? = some (.cells #[.bool false, .int .i64 0, .int .i64 0] 46 (0, 0))) := keep_new f3 (heap_alloc_new _ _); have c90 : w2.cell? ⟨wb.heap.size, 0, none⟩ = some (.bool false) := cell_of_heap b9.out rfl; have c91 : w2.cell? ⟨wb.heap.size, 1, none⟩ = some (.int .i64 0) := cell_of_heap b9.out rfl; have c92 : w2.cell? ⟨wb.heap.size, 2, none⟩ = some (.int .i64 0) := cell_of_heap b9.out rfl; have z90 : w2.frozen? ⟨wb.heap.size, 0, none⟩ = false := frozen_of_heap b9.out; have z91 : w2.frozen? ⟨wb.heap.size, 1, none⟩ = false := frozen_of_heap b9.out; have z92 : w2.frozen? ⟨wb.heap.size, 2, none⟩ = false := frozen_of_heap b9.out) | skip); clear f3; have y3 := Q1 _ (show Hid _ from f2); have A0 : ∀ o, (w2.alloc o).cell? ⟨lo2, j * 3, none⟩ = some (.bool U) := fun o => (((Fr.refl (S := fun _ => False) w2).alloc o).cell (p := ⟨lo2, _, none⟩) hlo id).trans y0; have A1 : ∀ o, (w2.alloc o).cell? ⟨lo2, j * 3 + 1, none⟩ = some (.int .i64 Y) := fun o => (((Fr.refl (S := fun _ => False) w2).alloc o).cell (p := ⟨lo2, _, none⟩) hlo id).trans y1; have A2 : ∀ o, (w2.alloc o).cell? ⟨lo2, j * 3 + 2, none⟩ = some (.int .i64 L) := fun o => (((Fr.refl (S := fun _ => False) w2).alloc o).cell (p := ⟨lo2, _, none⟩) hlo id).trans y2; have A3 : ∀ o, (w2.alloc o).cell? ⟨go, 1, none⟩ = some (.int .i64 (j : Int)) := fun o => Q1 _ (show Hid _ from f2.alloc o); clear f2 hlo X2)
            all_goals
              go_wp2_with (fail)
              go_meet
              case rel => first | exact ⟨_, rfl, bxs_alloc HOb.out F2.out⟩ | exact ⟨_, rfl, bxs_set HOb.out F2.out b9.out⟩
          case rest =>
            obtain ⟨gb, rfl, HC⟩ := hcut
            clear KB2 Q1 Q2 G0 G1 G2 G3 hz p1
            obtain ⟨er, her⟩ : ∃ er, (takP s j).1 = er := ⟨_, rfl⟩
            obtain ⟨s1, hs1⟩ : ∃ s1, (takP s j).2 = s1 := ⟨_, rfl⟩
            have KT1 := HC.out.x.p.take2 (by omega) (j : Int)
            rw [anyP_at 3 s _ hj, her, hs1] at KT1
            have KT2 : ∀ W, Hid (BxS base w g g2 ((i : Int) + 1) s1 (i : Int) s go #[.int .i64 5, .int .i64 (j : Int), .int .i64 v] gb #[.bool U, .int .i64 Y, .int .i64 L] W) → Calls Try.prog 19 #[.pointer (some ⟨g2, 0, none⟩), .int .i64 (j : Int)] W fun e w' => e = .returned (.int .i64 er) ∧ Hid (BxS base w g g2 ((i : Int) + 1) s1 ((i : Int) + 1) s1 go #[.int .i64 5, .int .i64 (j : Int), .int .i64 v] gb #[.bool U, .int .i64 Y, .int .i64 L] w') := fun W hW => by
              have KK := hW.out.x.q.take (by omega) (j : Int)
              rw [anyP_at 3 s _ hj, her, hs1] at KK
              refine KK.mono ?_
              rintro e w' ⟨rfl, h9⟩
              exact ⟨rfl, hW.out.goQ h9⟩
            have q1 : wc.cell? ⟨go, 1, none⟩ = some (.int .i64 (j : Int)) := cell_of_heap HC.out.x.b rfl
            have HER : Hid ((takP s j).1 = er) := her
            have HS1 : Hid ((takP s j).2 = s1) := hs1
            have HBK : Hid (BkOk 2 4 (i : Int) (s.X j)) := HC.out.x.p.inv.b j hj
            clear her hs1 HOb
            go_upto_region 13 with (first
              | (go_at_call 18; refine KT1.mono ?_; clear KT1; rintro e w3 ⟨rfl, h9⟩; have X3 : Hid (BxS base w g g2 ((i : Int) + 1) s1 (i : Int) s go #[.int .i64 5, .int .i64 (j : Int), .int .i64 v] gb #[.bool U, .int .i64 Y, .int .i64 L] w3) := HC.out.goP h9; have t1 : w3.cell? ⟨go, 1, none⟩ = some (.int .i64 (j : Int)) := cell_of_heap X3.out.x.b rfl; have KT3 := KT2 w3 X3; clear KT2 h9)
              | (go_at_call 19; refine KT3.mono ?_; clear KT3; rintro e w4 ⟨rfl, X4⟩))
            clear X3 t1 q1 HC
            have u1 : w4.cell? ⟨go, 1, none⟩ = some (.int .i64 (j : Int)) := cell_of_heap X4.out.x.b rfl
            have v1 : w4.cell? ⟨gb, 1, none⟩ = some (.int .i64 Y) := cell_of_heap X4.out.b rfl
            have v2 : w4.cell? ⟨gb, 2, none⟩ = some (.int .i64 L) := cell_of_heap X4.out.b rfl
            have XE : Hid (PlyAs base w g g2 3 2 2 1 1 4 ((i : Int) + 1) s1 w4) := ⟨X4.out.x.p, X4.out.x.q⟩
            obtain ⟨T, hT⟩ : ∃ T, (s1.X j).st = T := ⟨_, rfl⟩
            have KSq : Hid (∀ k, Calls Try.prog 20 #[.pointer (some ⟨g, 0, none⟩), .int .i64 (j : Int)] (w4.drewN k) fun e w' => e = .returned (.int .i64 T) ∧ w' = w4.drewN k) := fun k => by
              have KK := (X4.out.x.p.later ((Fr.refl (S := fun _ => False) w4).drewN k)).state (j : Int)
              rw [sta_at 3 s1 hj, hT] at KK
              exact KK.mono (fun e w' h => ⟨h.1, h.2.symm⟩)
            by_cases ha : (s.X j).st = 2
            · by_cases hb : (s.X j).may ≤ (s.X j).load
              · have E : takP s j = (9, s) := by unfold takP; rw [if_pos ha, if_pos hb]
                obtain rfl : er = 9 := by have := HER.out; rw [E] at this; exact this.symm
                obtain rfl : T = 2 := by have := HS1.out; rw [E] at this; rw [← hT, ← this]; exact ha
                obtain rfl : Y = 0 := by rw [← HY.out]; unfold seeS; rw [if_pos ha]; split <;> omega
                clear E hT ha hb HBK HY HLd HER HS1 X4
                go_quiet (first | (go_at_call 20; exact Calls.quiet_of_same (KSq.out _)))
                go_wp2_with (fail)
                go_roundw
                case rel => exact ⟨i + 1, s1, by go_num, by omega, by have := XE.out; rw [Int.natCast_succ]; exact ⟨this.1.later ((Fr.refl _ _).drewN _), this.2.later ((Fr.refl _ _).drewN _)⟩⟩
                case measure => simp [intOf]; omega
              · have E : takP s j = (0, ⟨updB s.X j ⟨(s.X j).hs, 2, (s.X j).may, (s.X j).load + 1, (s.X j).wait⟩, s.N, s.T⟩) := by unfold takP; rw [if_pos ha, if_neg hb]
                obtain rfl : er = 0 := by have := HER.out; rw [E] at this; exact this.symm
                have hs1 : s1 = ⟨updB s.X j ⟨(s.X j).hs, 2, (s.X j).may, (s.X j).load + 1, (s.X j).wait⟩, s.N, s.T⟩ := by have := HS1.out; rw [E] at this; exact this.symm
                have hxj : s1.X j = ⟨(s.X j).hs, 2, (s.X j).may, (s.X j).load + 1, (s.X j).wait⟩ := by rw [hs1]; exact updB_at _ _ _
                obtain rfl : T = 2 := by rw [← hT, hxj]
                have hY0 : 0 < Y := by rw [← HY.out]; unfold seeS; rw [if_pos ha]; split <;> omega
                have hY1 : decide (0 < Y) = true := decide_eq_true hY0
                have hL0 : 0 ≤ L := by rw [← HLd.out]; exact HBK.out.l0
                have hL1 : L ≤ 900000000000000000 := by have := HBK.out.lc; rw [HLd.out] at this; omega
                have hw1 : wrap64 (L + 1) = L + 1 := by unfold wrap64; omega
                have hwr : IntKind.i64.wrap (L + 1) = L + 1 := by rw [IntWalk.i64_left]; exact hw1
                have KS : ∀ W, Hid (Fr (fun _ => False) w4 W) → Calls Try.prog 20 #[.pointer (some ⟨g, 0, none⟩), .int .i64 (j : Int)] W fun e w' => e = .returned (.int .i64 2) ∧ Hid (Fr (fun _ => False) w4 w' ∧ w'.cell? ⟨go, 1, none⟩ = some (.int .i64 (j : Int)) ∧ w'.cell? ⟨gb, 1, none⟩ = some (.int .i64 Y) ∧ w'.cell? ⟨gb, 2, none⟩ = some (.int .i64 L)) := fun W hW => by
                  have hB := X4.out.later hW.out
                  have KK := hB.x.p.state (j : Int)
                  rw [sta_at 3 s1 hj, hT] at KK
                  refine KK.mono ?_
                  rintro e w' ⟨rfl, rfl⟩
                  exact ⟨rfl, hW.out, cell_of_heap hB.x.b rfl, cell_of_heap hB.b rfl, cell_of_heap hB.b rfl⟩
                have KBk : ∀ W, Hid (Fr (fun _ => False) w4 W) → Calls Try.prog 17 #[.pointer (some ⟨g, 0, none⟩)] W fun e w' => ∃ lo lc, e = .returned (.slice (some ⟨lo, 0, none⟩) 3 lc) ∧ w'.cell? ⟨lo, j * 3 + 2, none⟩ = some (.int .i64 (L + 1)) ∧ Hid (Fr (fun _ => False) w4 w' ∧ w'.cell? ⟨go, 1, none⟩ = some (.int .i64 (j : Int)) ∧ w'.cell? ⟨gb, 1, none⟩ = some (.int .i64 Y) ∧ w'.cell? ⟨gb, 2, none⟩ = some (.int .i64 L)) := fun W hW => by
                  refine ((X4.out.later hW.out).x.p.backs (by omega)).mono ?_
                  rintro e w' ⟨v9, rfl, a9, f9⟩
                  obtain ⟨lo9, lc9, rfl, hx9⟩ := a9.cells (Fr.refl _ _)
                  obtain ⟨-, -, x2⟩ := hx9 j hj
                  rw [hxj] at x2
                  have hB := X4.out.later (hW.out.trans f9)
                  exact ⟨lo9, lc9, rfl, by rw [← HLd.out]; exact x2, hW.out.trans f9, cell_of_heap hB.x.b rfl, cell_of_heap hB.b rfl, cell_of_heap hB.b rfl⟩
                have W1 : ∀ k, Hid (Fr (fun _ => False) w4 (w4.drewN k)) := fun k => (Fr.refl _ _).drewN k
                have W2 : Hid (Fr (fun _ => False) w4 w4.drew) := (Fr.refl _ _).drew
                clear E hT ha hb HBK HY HLd HER HS1 X4 KSq hs1 hxj
                refine wp_region_held_drew (S := fun w' => w'.cell? ⟨go, 1, none⟩ = some (.int .i64 (j : Int)) ∧ w'.cell? ⟨gb, 1, none⟩ = some (.int .i64 Y) ∧ w'.cell? ⟨gb, 2, none⟩ = some (.int .i64 L)) (by kernel_rfl) ⟨u1, v1, v2⟩ (fun hHeld => ?_)
                clear W1 u1 v1 v2
                generalize w4.drew = V at hHeld W2 ⊢
                refine wpAnyH_take (i := 0) (oi := _) (v := .int .i64 0) rfl (by kernel_rfl) (by kernel_rfl) (by kernel_rfl) (fun _ _ _ h => h) (Or.inl ⟨by kernel_rfl, fun w5 hw => by go_simp⟩) hHeld ?_
                refine wpAnyH_take (i := 1) (oi := _) (v := .bool true) rfl (by kernel_rfl) (by kernel_rfl) (by kernel_rfl) (fun _ _ _ h => h) (Or.inl ⟨by kernel_rfl, fun w5 hw => by go_simp⟩) hHeld ?_
                refine wpAnyH_take (i := 2) (oi := _) (v := .pointer (some ⟨g, 0, none⟩)) rfl (by kernel_rfl) (by kernel_rfl) (by kernel_rfl) (fun _ _ _ h => h) (Or.inl ⟨by kernel_rfl, fun w5 hw => by go_simp⟩) hHeld ?_
                refine wpAnyH_take (i := 3) (oi := _) (v := .pointer (some ⟨go, 1, none⟩)) rfl (by kernel_rfl) (by kernel_rfl) (by kernel_rfl) (fun _ _ _ h => h) (Or.inl ⟨by kernel_rfl, fun w5 hw => by go_simp⟩) hHeld ?_
                refine wpAnyH_take (i := 4) (oi := _) (v := .int .i64 (j : Int)) rfl (by kernel_rfl) (by kernel_rfl) (by kernel_rfl) (fun _ _ _ h => h) (Or.inl ⟨by kernel_rfl, fun w5 hw => by have x0 := hw.1; go_simp⟩) hHeld ?_
                simp only [Act.put, List.getElem_toArray, List.getElem_cons_succ, List.getElem_cons_zero, List.setIfInBounds_toArray, List.set_cons_zero, List.set_cons_succ]
                refine wpAnyH_ready (rs := [5]) (by kernel_rfl) (by simp) ?_
                refine AllReadyH.cons rfl (fun K hK => ?_) AllReadyH.nil
                go_simp
                refine (KS _ W2).mono ?_
                rintro e w5 ⟨rfl, X5⟩
                refine hK.out _ _ X5.out.2 (fun hHeld2 => ?_)
                clear hK K hHeld W2
                have G5 : Hid (Fr (fun _ => False) w4 w5) := X5.out.1
                refine wpAnyH_take (i := 6) (oi := _) (v := .bool true) rfl (by kernel_rfl) (by kernel_rfl) (by kernel_rfl) (fun _ _ _ h => h) (Or.inl ⟨by kernel_rfl, fun w5 hw => by go_simp⟩) hHeld2 ?_
                refine wpAnyH_take (i := 7) (oi := _) (v := .bool true) rfl (by kernel_rfl) (by kernel_rfl) (by kernel_rfl) (fun _ _ _ h => h) (Or.inl ⟨by kernel_rfl, fun w5 hw => by go_simp⟩) hHeld2 ?_
                refine wpAnyH_take (i := 8) (oi := _) (v := .pointer (some ⟨gb, 1, none⟩)) rfl (by kernel_rfl) (by kernel_rfl) (by kernel_rfl) (fun _ _ _ h => h) (Or.inl ⟨by kernel_rfl, fun w5 hw => by go_simp⟩) hHeld2 ?_
                refine wpAnyH_take (i := 9) (oi := _) (v := .int .i64 Y) rfl (by kernel_rfl) (by kernel_rfl) (by kernel_rfl) (fun _ _ _ h => h) (Or.inl ⟨by kernel_rfl, fun w5 hw => by have x0 := hw.2.1; go_simp⟩) hHeld2 ?_
                refine wpAnyH_take (i := 10) (oi := _) (v := .bool true) rfl (by kernel_rfl) (by kernel_rfl) (by kernel_rfl) (fun _ _ _ h => h) (Or.inl ⟨by kernel_rfl, fun w5 hw => by go_simp⟩) hHeld2 ?_
                refine wpAnyH_take (i := 11) (oi := _) (v := .bool true) rfl (by kernel_rfl) (by kernel_rfl) (by kernel_rfl) (fun _ _ _ h => h) (Or.inl ⟨by kernel_rfl, fun w5 hw => by go_simp⟩) hHeld2 ?_
                refine wpAnyH_take (i := 12) (oi := _) (v := .bool false) rfl (by kernel_rfl) (by kernel_rfl) (by kernel_rfl) (fun _ _ _ h => h) (Or.inl ⟨by kernel_rfl, fun w5 hw => by go_simp⟩) hHeld2 ?_
                refine wpAnyH_take (i := 13) (oi := _) (v := .bool false) rfl (by kernel_rfl) (by kernel_rfl) (by kernel_rfl) (fun _ _ _ h => h) (Or.inl ⟨by kernel_rfl, fun w5 hw => by go_simp⟩) hHeld2 ?_
                refine wpAnyH_take (i := 14) (oi := _) (v := .int .i64 0) rfl (by kernel_rfl) (by kernel_rfl) (by kernel_rfl) (fun _ _ _ h => h) (Or.inl ⟨by kernel_rfl, fun w5 hw => by go_simp⟩) hHeld2 ?_
                refine wpAnyH_take (i := 15) (oi := _) (v := .bool true) rfl (by kernel_rfl) (by kernel_rfl) (by kernel_rfl) (fun _ _ _ h => h) (Or.inl ⟨by kernel_rfl, fun w5 hw => by go_simp⟩) hHeld2 ?_
                refine wpAnyH_take (i := 16) (oi := _) (v := .bool true) rfl (by kernel_rfl) (by kernel_rfl) (by kernel_rfl) (fun _ _ _ h => h) (Or.inl ⟨by kernel_rfl, fun w5 hw => by go_simp⟩) hHeld2 ?_
                refine wpAnyH_take (i := 17) (oi := _) (v := .pointer (some ⟨g, 0, none⟩)) rfl (by kernel_rfl) (by kernel_rfl) (by kernel_rfl) (fun _ _ _ h => h) (Or.inl ⟨by kernel_rfl, fun w5 hw => by go_simp⟩) hHeld2 ?_
                refine wpAnyH_take (i := 19) (oi := _) (v := .pointer (some ⟨go, 1, none⟩)) rfl (by kernel_rfl) (by kernel_rfl) (by kernel_rfl) (fun _ _ _ h => h) (Or.inl ⟨by kernel_rfl, fun w5 hw => by go_simp⟩) hHeld2 ?_
                refine wpAnyH_take (i := 20) (oi := _) (v := .int .i64 (j : Int)) rfl (by kernel_rfl) (by kernel_rfl) (by kernel_rfl) (fun _ _ _ h => h) (Or.inl ⟨by kernel_rfl, fun w5 hw => by have x0 := hw.1; go_simp⟩) hHeld2 ?_
                refine wpAnyH_take (i := 24) (oi := _) (v := .pointer (some ⟨gb, 2, none⟩)) rfl (by kernel_rfl) (by kernel_rfl) (by kernel_rfl) (fun _ _ _ h => h) (Or.inl ⟨by kernel_rfl, fun w5 hw => by go_simp⟩) hHeld2 ?_
                refine wpAnyH_take (i := 25) (oi := _) (v := .int .i64 L) rfl (by kernel_rfl) (by kernel_rfl) (by kernel_rfl) (fun _ _ _ h => h) (Or.inl ⟨by kernel_rfl, fun w5 hw => by have x0 := hw.2.2; go_simp⟩) hHeld2 ?_
                refine wpAnyH_take (i := 26) (oi := _) (v := .int .i64 (L + 1)) rfl (by kernel_rfl) (by kernel_rfl) (by kernel_rfl) (fun _ _ _ h => h) (Or.inl ⟨by kernel_rfl, fun w5 hw => by go_simp⟩) hHeld2 ?_
                simp only [Act.put, List.getElem_toArray, List.getElem_cons_succ, List.getElem_cons_zero, List.setIfInBounds_toArray, List.set_cons_zero, List.set_cons_succ]
                refine wpAnyH_ready (rs := [18]) (by kernel_rfl) (by simp) ?_
                refine AllReadyH.cons rfl (fun K hK => ?_) AllReadyH.nil
                go_simp
                refine (KBk _ G5).mono ?_
                rintro e w6 ⟨lo6, lc6, rfl, y6, X6⟩
                refine hK.out _ _ X6.out.2 (fun hHeld3 => ?_)
                clear hK K hHeld2
                refine wpAnyH_take (i := 21) (oi := _) (v := .pointer (some ⟨lo6, j * 3, none⟩)) rfl (by kernel_rfl) (by kernel_rfl) (by kernel_rfl) (fun _ _ _ h => h) (Or.inl ⟨by kernel_rfl, fun w5 hw => by go_simp⟩) hHeld3 ?_
                refine wpAnyH_take (i := 22) (oi := _) (v := .pointer (some ⟨lo6, j * 3 + 2, none⟩)) rfl (by kernel_rfl) (by kernel_rfl) (by kernel_rfl) (fun _ _ _ h => h) (Or.inl ⟨by kernel_rfl, fun w5 hw => by go_simp⟩) hHeld3 ?_
                simp only [Act.put, List.getElem_toArray, List.getElem_cons_succ, List.getElem_cons_zero, List.setIfInBounds_toArray, List.set_cons_zero, List.set_cons_succ]
                refine wpAnyH_ready (rs := [23]) (by kernel_rfl) (by simp) ?_
                refine AllReadyH.cons rfl (fun K hK => ?_) AllReadyH.nil
                go_simp
                refine hK.out _ _ X6.out.2 (fun hHeld4 => ?_)
                clear hK K hHeld3
                refine wpAnyH_take (i := 27) (oi := _) (v := .bool false) rfl (by kernel_rfl) (by kernel_rfl) (by kernel_rfl) (fun _ _ _ h => h) (Or.inl ⟨by kernel_rfl, fun w5 hw => by go_simp⟩) hHeld4 ?_
                refine wpAnyH_take (i := 28) (oi := _) (v := .bool false) rfl (by kernel_rfl) (by kernel_rfl) (by kernel_rfl) (fun _ _ _ h => h) (Or.inl ⟨by kernel_rfl, fun w5 hw => by go_simp⟩) hHeld4 ?_
                refine wpAnyH_take (i := 29) (oi := _) (v := .bool false) rfl (by kernel_rfl) (by kernel_rfl) (by kernel_rfl) (fun _ _ _ h => h) (Or.inl ⟨by kernel_rfl, fun w5 hw => by go_simp⟩) hHeld4 ?_
                simp only [Act.put, List.getElem_toArray, List.getElem_cons_succ, List.getElem_cons_zero, List.setIfInBounds_toArray, List.set_cons_zero, List.set_cons_succ]
                refine wpAnyH_done (by kernel_rfl) ?_ _
                go_wp2_with (fail)
                go_roundw
                case rel => exact ⟨i + 1, s1, by go_num, by omega, by have := XE.out; rw [Int.natCast_succ]; exact ⟨this.1.later X6.out.1, this.2.later X6.out.1⟩⟩
                case measure => simp [intOf]; omega
            · have E : takP s j = (5, s) := if_neg ha
              obtain rfl : er = 5 := by have := HER.out; rw [E] at this; exact this.symm
              have hT2 : ¬ T = 2 := by have := HS1.out; rw [E] at this; rw [← hT, ← this]; exact ha
              have hT3 : (T == 2) = false := by simpa using hT2
              have hT4 : decide (T = 2) = false := decide_eq_false hT2
              clear E hT ha HBK HY HLd HER HS1 X4
              go_quiet (first | (go_at_call 20; exact Calls.quiet_of_same (KSq.out _)))
              go_wp2_with (fail)
              go_roundw
              case rel => exact ⟨i + 1, s1, by go_num, by omega, by have := XE.out; rw [Int.natCast_succ]; exact ⟨this.1.later ((Fr.refl _ _).drewN _), this.2.later ((Fr.refl _ _).drewN _)⟩⟩
              case measure => simp [intOf]; omega
      · have hw2 : (wh == 5) = false := by rw [beq_eq_false_iff_ne]; exact hw
        have hw3 : decide (wh = 5) = false := decide_eq_false hw
        go_upto_region 15 with (fail)
        obtain ⟨wb, hwb⟩ : ∃ wb, wb = wa := ⟨_, rfl⟩
        have HOb : Hid (BxP base w g g2 3 2 2 1 1 4 (i : Int) s (i : Int) s go #[.int .i64 wh, .int .i64 d, .int .i64 v] wb) := by rw [hwb]; exact HO.out
        rw [← hwb]
        clear hwb HO o0 o1 o2
        have KP := plplay_in HOb.out.p HOb.out.q (by omega) wh d v hv
        obtain ⟨s2, hs2⟩ : ∃ s2, plyP 3 2 2 1 1 4 s wh d v = s2 := ⟨_, rfl⟩
        rw [hs2] at KP
        have p0 : wb.cell? ⟨go, 0, none⟩ = some (.int .i64 wh) := cell_of_heap HOb.out.b rfl
        have p1 : wb.cell? ⟨go, 1, none⟩ = some (.int .i64 d) := cell_of_heap HOb.out.b rfl
        have p2 : wb.cell? ⟨go, 2, none⟩ = some (.int .i64 v) := cell_of_heap HOb.out.b rfl
        clear hs2 HOb
        go_upto_region 16 with (go_at_call 10; refine KP.mono ?_; clear KP; rintro e w3 ⟨rfl, X3⟩)
        have K3 := X3.out.1.backs (by omega)
        clear p0 p1 p2
        go_upto_region 17 with (go_at_call 17; refine K3.mono ?_; clear K3; rintro e w4 ⟨v4, rfl, a4, f4⟩)
        have A4 : Hid (SeeAt w3 w4 s2.X 3 v4) := a4
        have X4 : Hid (PlyAs base w g g2 3 2 2 1 1 4 ((i : Int) + 1) s2 w4) := ⟨X3.out.1.later f4, X3.out.2.later f4⟩
        obtain ⟨lo, lc, rfl, -⟩ := A4.out.cells (Fr.refl _ _)
        clear a4 f4 X3
        go_wp2_with (fail)
        go_loopw [12] (fun x12 wy => ∃ k : Nat, x12 = .int .i64 (k : Int) ∧ k ≤ 3 ∧ Hid (w4 = wy)) (fun x12 _ => 3 - (intOf x12).toNat)
        case atStart => exact ⟨0, rfl, by omega, rfl⟩
        case round =>
          obtain ⟨k, rfl, hk3, HE⟩ := hrel
          rename World => wy
          obtain rfl : w4 = wy := HE.out
          by_cases hk : k < 3
          · have hk2 : (k : Int) < 3 := by omega
            obtain ⟨lo', lc', e1, hx⟩ := A4.out.cells (Fr.refl _ _)
            cases e1
            obtain ⟨x0, x1, x2⟩ := hx k hk
            have h1 := see_pos (s2.X k)
            have h2 : ¬ (s2.X k).load < 0 := by have := (X4.out.1.inv.b k hk).l0; omega
            have KS := X4.out.1.state (k : Int)
            rw [sta_at 3 s2 hk] at KS
            cases hu : seeU (s2.X k)
            · rw [hu] at x0
              generalize seeS (s2.X k) = y at x1 h1
              generalize (s2.X k).load = l at x2 h2
              have h3 : decide (y < 0) = false := decide_eq_false h1
              have h4 : decide (l < 0) = false := decide_eq_false h2
              clear hx KS hu
              go_wp2_with (fail)
              go_roundw
              case rel => exact ⟨k + 1, by go_num, by omega, by first | exact rfl | exact True.intro⟩
              case measure => simp [intOf]; omega
            · rw [see_up hu] at KS
              rw [hu] at x0
              generalize seeS (s2.X k) = y at x1 h1
              generalize (s2.X k).load = l at x2 h2
              have h3 : decide (y < 0) = false := decide_eq_false h1
              have h4 : decide (l < 0) = false := decide_eq_false h2
              clear hx hu
              go_wp2_with (go_at_call 20; refine KS.mono ?_; clear KS; rintro e w' ⟨rfl, rfl⟩)
              go_roundw
              case rel => exact ⟨k + 1, by go_num, by omega, by first | exact rfl | exact True.intro⟩
              case measure => simp [intOf]; omega
          · go_wp2_with (fail)
            go_roundw
            case rel => exact ⟨i + 1, s2, by go_num, by omega, by have := X4.out; rw [Int.natCast_succ]; exact this⟩
            case measure => simp [intOf]; omega
    · obtain rfl : m = i := by omega
      go_wp2_with (go_at_call 12; refine (plawake_in _).mono ?_; rintro e w6 ⟨rfl, hf6⟩)
      go_ret
      have f9 := HS.out.1.fr
      exact ⟨rfl, (f9.trans (hf6.mono (fun _ _ e => e.elim))).below (fun k hk e => by have h1 := HB.out; have h2 : base ≤ k := e; omega)⟩
end Go.Proofs.Ytoiencoojkahmaa
