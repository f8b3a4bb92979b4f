/- The document's pool: New; pools that are refused. -/
import Derived.Test.YtoiencoojkahmaaJo
import Derived.Test.YtoiencoojkahmaaJe
namespace Go.Proofs.Ytoiencoojkahmaa
open Go.RowKit Go.Maps
set_option linter.unusedVariables false
set_option maxRecDepth 100000
set_option maxHeartbeats 4000000

theorem info_one : ∃ i, Try.prog.info? 72 = some i ∧ i.zero = some (.agg #[.pointer none, .int .i64 0, .int .i64 0, .int .i64 0, .int .i64 0]) ∧ i.size = 5 ∧ i.bytes = 40 := ⟨(Try.prog.info? 72).get (by kernel_rfl), by kernel_rfl, by kernel_rfl, by kernel_rfl, by kernel_rfl⟩
/-- A backend just made, as cells. -/
def oneC (ms : Nat → Nat) (rt : Int) (i : Nat) : List Value := [.pointer (some ⟨ms i, 0, none⟩), .int .i64 0, .int .i64 0, .int .i64 0, .int .i64 rt]
def msU (ms : Nat → Nat) (k m : Nat) : Nat → Nat := fun i => if i = k then m else ms i
theorem msU_at (ms : Nat → Nat) (k m : Nat) : msU ms k m k = m := if_pos rfl
theorem msU_ne (ms : Nat → Nat) {k i : Nat} (m : Nat) (h : i ≠ k) : msU ms k m i = ms i := if_neg h
/-- The document's pool while it is being made: k backends, kt timers. -/
structure NqS (w : World) (hb : Nat) (F R H rt mo : Int) (k kt g : Nat) (vL : Value) (gw : Nat) (vW : Value) (ms : Nat → Nat) (wr : World) : Prop where
  box : wr.heap[hb]? = some (.cells #[.int .i64 F, .int .i64 R, .int .i64 H] 23 (0, 0))
  blk : wr.heap[g]? = some (.cells #[vL, .pointer (some ⟨gw, 0, none⟩), .int .i64 rt, .int .i64 mo] 70 (0, 0))
  row : RowG 72 5 wr vL k (catL (oneC ms rt) k)
  mod : ∀ i, i < k → RM wr (ms i) F R H ⟨false, 0, 0⟩
  whl : RWA w.heap.size wr gw 0 (newT kt) vW
  nd : ∀ i j, i < k → j < k → ms i = ms j → i = j
  bg : w.heap.size ≤ g
  bv : ∀ q, vL.ownBlock = some q → w.heap.size ≤ q
  bm : ∀ i, i < k → w.heap.size ≤ ms i
  fr : Fr (fun _ => False) w wr
section
variable {w wr w' w2 w3 : World} {hb : Nat} {F R H rt mo : Int} {k kt g : Nat} {vL : Value} {gw : Nat} {vW : Value} {ms : Nat → Nat}
theorem NqS.later (h : NqS w hb F R H rt mo k kt g vL gw vW ms wr) (f : Fr (fun _ => False) wr w') : NqS w hb F R H rt mo k kt g vL gw vW ms w' :=
  ⟨(f.block _ (lt_of_heap h.box) id).trans h.box, (f.block _ (lt_of_heap h.blk) id).trans h.blk, h.row.fr f (fun _ _ => id), fun i hi => (h.mod i hi).fr f id, h.whl.later f, h.nd, h.bg, h.bv, h.bm, h.fr.trans f⟩
theorem NqS.start (f : Fr (fun _ => False) w w2) (hx : w2.heap[hb]? = some (.cells #[.int .i64 F, .int .i64 R, .int .i64 H] 23 (0, 0))) (hw : RWA w.heap.size w2 gw 0 [] vW) :
    NqS w hb F R H rt mo 0 0 w2.heap.size (.slice none 0 0) gw vW (fun _ => 0) (w2.alloc (.cells #[.slice none 0 0, .pointer (some ⟨gw, 0, none⟩), .int .i64 rt, .int .i64 mo] 70)) := by
  have f3 : Fr (fun _ => False) w2 (w2.alloc (.cells #[.slice none 0 0, .pointer (some ⟨gw, 0, none⟩), .int .i64 rt, .int .i64 mo] 70)) := (Fr.refl _ _).alloc _
  exact ⟨(f3.block _ (lt_of_heap hx) id).trans hx, heap_alloc_new _ _, RowG.nil _ _ _, fun i hi => by omega, hw.later f3, fun i j hi => by omega, f.size, fun q hq => by simp [Value.ownBlock] at hq, fun i hi => by omega, f.trans f3⟩
/-- One model more, and its row. -/
theorem NqS.more (h : NqS w hb F R H rt mo k kt g vL gw vW ms wr) (hk : k ≤ 16) (f : Fr (fun _ => False) wr w2) {m : Nat} (hm : RM w2 m F R H ⟨false, 0, 0⟩) (hmm : wr.heap.size ≤ m) :
    ∃ a' n' c' w3, (Builtin.append_ #[68, 68] 68 #[vL, .slice (some ⟨w2.heap.size, 0, none⟩) 1 1]).run Try.prog (w2.alloc (.cells #[.pointer (some ⟨m, 0, none⟩), .int .i64 0, .int .i64 0, .int .i64 0, .int .i64 rt] 72)) = .ok (.slice a' n' c') w3 ∧ n' = k + 1 ∧ w3.heap[g]? = some (.cells #[vL, .pointer (some ⟨gw, 0, none⟩), .int .i64 rt, .int .i64 mo] 70 (0, 0)) ∧ NqS w hb F R H rt mo (k + 1) kt g (.slice a' n' c') gw vW (msU ms k m) (w3.setCell ⟨g, 0, none⟩ (.slice a' n' c')) := by
  obtain ⟨i, hi, hz0, hz1, hz2⟩ := info_one
  have h2 := h.later f
  obtain ⟨a', n', c', w3, hr, rfl, hR, hF, hk2⟩ := run_addG (t := 68) Try.underlying68 hi hz0 hz1 hz2 rfl (by omega) (by omega) h2.row [.pointer (some ⟨m, 0, none⟩), .int .i64 0, .int .i64 0, .int .i64 0, .int .i64 rt] rfl (by simp [Value.oneCell']) (by omega)
  have tg : ∀ q, vL.ownBlock = some q → ∃ cur, w2.heap[q]? = some (.cells cur 72 (0, 0)) := fun q hq => (h2.row.lt q hq).2
  have ne : ∀ {j : Nat} {cs : Array Value} {t : TypeId} {e : Nat × Nat}, w2.heap[j]? = some (.cells cs t e) → t ≠ 72 → ¬ vL.ownBlock = some j := fun hj ht e => by
    obtain ⟨cur, hc⟩ := tg _ e
    exact tag_neI hj hc ht rfl
  have g3 := (hF.block g (lt_of_heap h2.blk) (ne h2.blk (by decide))).trans h2.blk
  have x3 := (hF.block hb (lt_of_heap h2.box) (ne h2.box (by decide))).trans h2.box
  have f4 : Fr (fun q => q = g) w3 (w3.setCell ⟨g, 0, none⟩ (.slice a' (k + 1) c')) := (Fr.refl _ _).setB _ _
  have mod3 : ∀ i, i < k → RM w3 (ms i) F R H ⟨false, 0, 0⟩ := fun i hi => (h2.mod i hi).fr hF (ne (h2.mod i hi) (by decide))
  have m3 : RM w3 m F R H ⟨false, 0, 0⟩ := hm.fr hF (ne hm (by decide))
  have w3' : RWA w.heap.size w3 gw 0 (newT kt) vW := h2.whl.fr hF (fun q hq e => by
    obtain ⟨cur, hc⟩ := tg q e
    exact rx_tag h2.whl hc (by decide) (by decide) hq)
  have hms : ∀ i, i < k → msU ms k m i = ms i := fun i hi => msU_ne ms m (by omega)
  have hlt : ∀ i, i < k → ms i < m := fun i hi => Nat.lt_of_lt_of_le (lt_of_heap (h.mod i hi)) hmm
  refine ⟨a', _, c', w3, hr, rfl, g3, (f4.block _ (lt_of_heap x3) (tag_neI x3 g3 (by decide))).trans x3, by rw [block_set g3]; rfl, ?_, fun i hi => ?_, w3'.fr f4 (fun q hq e => rx_tag w3' g3 (by decide) (by decide) (e ▸ hq)), fun i j hi hj e => ?_, h.bg, newI h.bv h2.fr.size hk2, fun i hi => ?_, ?_⟩
  · rw [catL]
    have e1 : catL (oneC (msU ms k m) rt) k = catL (oneC ms rt) k := catL_congr (fun i hi => by unfold oneC; rw [hms i hi])
    have e2 : oneC (msU ms k m) rt k = [.pointer (some ⟨m, 0, none⟩), .int .i64 0, .int .i64 0, .int .i64 0, .int .i64 rt] := by unfold oneC; rw [msU_at]
    rw [e1, e2]
    refine hR.fr f4 (fun q hq e => ?_)
    obtain ⟨-, cur, hc⟩ := hR.lt q hq
    exact tag_neI hc g3 (by decide) e
  · by_cases e : i = k
    · subst e
      rw [msU_at]
      exact m3.fr f4 (tag_neI m3 g3 (by decide))
    · rw [msU_ne ms m e]
      exact (mod3 i (by omega)).fr f4 (tag_neI (mod3 i (by omega)) g3 (by decide))
  · by_cases e1 : i = k
    · subst e1
      by_cases e2 : j = i
      · exact e2.symm
      · rw [msU_at, msU_ne ms m e2] at e
        have := hlt j (by omega)
        omega
    · by_cases e2 : j = k
      · subst e2
        rw [msU_at, msU_ne ms m e1] at e
        have := hlt i (by omega)
        omega
      · rw [msU_ne ms m e1, msU_ne ms m e2] at e
        exact h.nd i j (by omega) (by omega) e
  · by_cases e : i = k
    · subst e
      rw [msU_at]
      exact Nat.le_trans h.fr.size hmm
    · rw [msU_ne ms m e]
      exact h.bm i (by omega)
  · have := h2.fr.freshI hF h.bv
    exact ((this.mono (T := fun q => w.heap.size ≤ q) (fun _ _ e => e.elim)).trans (f4.mono (fun q _ e => by rw [e]; exact h.bg))).mono (fun q hq e => by have : w.heap.size ≤ q := e; omega)
/-- Its timer. -/
theorem NqS.next (h : NqS w hb F R H rt mo (k + 1) k g vL gw vW ms wr) (hp : RPo w.heap.size wr gw vW 0 (setT 0 (newT k) (k : Int) 1).2 w') : ∃ uW, NqS w hb F R H rt mo (k + 1) (k + 1) g vL gw uW ms w' := by
  obtain ⟨uW, k1, k2, -⟩ := hp
  have ne : ∀ {j : Nat} {cs : Array Value} {t : TypeId} {e : Nat × Nat}, wr.heap[j]? = some (.cells cs t e) → t ≠ 93 → t ≠ 95 → ¬ RX2 gw vW j := fun hj h1 h2 => rx_tag h.whl hj h1 h2
  refine ⟨uW, (k2.block _ (lt_of_heap h.box) (ne h.box (by decide) (by decide))).trans h.box, (k2.block _ (lt_of_heap h.blk) (ne h.blk (by decide) (by decide))).trans h.blk, h.row.fr k2 (fun q hq => ?_), fun i hi => (h.mod i hi).fr k2 (ne (h.mod i hi) (by decide) (by decide)), k1, h.nd, h.bg, h.bv, h.bm, ?_⟩
  · obtain ⟨-, cur, hc⟩ := h.row.lt q hq
    exact ne hc (by decide) (by decide)
  · exact ((h.fr.mono (T := fun q => w.heap.size ≤ q) (fun _ _ e => e.elim)).trans (k2.mono (fun q _ e => h.whl.base_le q e))).mono (fun q hq e => by have : w.heap.size ≤ q := e; omega)
/-- What the document's New answers. -/
def QNewAs (w : World) (n : Nat) (F R H rt mo : Int) (e : Ending) (w' : World) : Prop :=
  ∃ g a cap b gw vW ms, e = .returned (.tuple #[.pointer (some ⟨g, 0, none⟩), .int .i64 0]) ∧ QAt w.heap.size w' g a cap b gw vW ms n F R H rt mo (newP rt n) ∧ Fr (fun _ => False) w w'
theorem NqS.done {n : Nat} (h : NqS w hb F R H rt mo k k g vL gw vW ms wr) (hk : k = n) : QNewAs w n F R H rt mo (.returned (.tuple #[.pointer (some ⟨g, 0, none⟩), .int .i64 0])) wr := by
  subst hk
  obtain ⟨a, cap, rfl, hcap⟩ := h.row.form
  by_cases hn : 0 < k
  · obtain ⟨b, cap', cur, e, hc, hx⟩ := h.row.blk hn
    cases e
    refine ⟨g, _, cap, b, gw, vW, ms, rfl, ⟨h.blk, fun _ => ⟨rfl, cur, hc, fun i hi => ?_⟩, h.mod, h.whl, h.nd, h.bg, fun _ => h.bv b rfl, h.bm⟩, h.fr⟩
    have L : ∀ i, (oneC ms rt i).length = 5 := fun _ => rfl
    have key : ∀ l, l < 5 → ∀ u, (oneC ms rt i)[l]? = some u → cur[i * 5 + l]? = some u := fun l hl u hu => hx _ _ ((catL_at L hl hi).trans hu)
    refine ⟨key 0 (by omega) _ rfl, fun l hl => ?_⟩
    rw [Nat.add_assoc]
    match l, hl with
    | 0, _ => exact key 1 (by omega) _ rfl
    | 1, _ => exact key 2 (by omega) _ rfl
    | 2, _ => exact key 3 (by omega) _ rfl
    | 3, _ => exact key 4 (by omega) _ rfl
  · exact ⟨g, a, cap, 0, gw, vW, ms, rfl, ⟨h.blk, fun h0 => absurd h0 hn, h.mod, h.whl, h.nd, h.bg, fun h0 => absurd h0 hn, h.bm⟩, h.fr⟩
end
theorem rplNew_yes (w : World) (n : Nat) (F R H rt mo : Int) (hr : OkR F R H) (hp : OkP (n : Int) rt mo) : Calls Try.prog 9 #[.int .i64 (n : Int), .agg #[.int .i64 F, .int .i64 R, .int .i64 H], .int .i64 rt, .int .i64 mo] w (QNewAs w n F R H rt mo) := by
  have KE := fun w => reNew_yes F R H w hr
  obtain ⟨p0, p1, p2, p3, p4⟩ := hp
  have hn : n ≤ 16 := by omega
  have d0 : decide ((n : Int) < 0) = false := decide_eq_false (by omega)
  have d1 : decide ((16 : Int) < (n : Int)) = false := decide_eq_false (by omega)
  have d2 : decide (rt < 1) = false := decide_eq_false (by omega)
  have d3 : decide (mo < rt) = false := decide_eq_false (by omega)
  have d4 : decide ((1073741824 : Int) < mo) = false := decide_eq_false (by omega)
  have d5 : decide ((1073741824 : Int) < rt) = false := decide_eq_false (by omega)
  have d6 : decide (mo < 1) = false := decide_eq_false (by omega)
  have hz1 : ∀ w, (zeroValue 70).run Try.prog w = .ok (.agg #[.slice none 0 0, .pointer none, .int .i64 0, .int .i64 0]) w := fun w => by kernel_rfl
  have hz2 : ∀ w, (zeroValue 72).run Try.prog w = .ok (.agg #[.pointer none, .int .i64 0, .int .i64 0, .int .i64 0, .int .i64 0]) w := fun w => by kernel_rfl
  go_enter Try.func9, Try.ntmps9
  go_upto_region 1 with (fail)
  obtain ⟨wa, hwa⟩ : ∃ wa, wa = w.alloc (Obj.cells #[.int .i64 F, .int .i64 R, .int .i64 H] 23) := ⟨_, rfl⟩
  obtain ⟨hb, hhb⟩ : ∃ hb, hb = w.heap.size := ⟨_, rfl⟩
  have Fa : Hid (Fr (fun _ => False) w wa) := by rw [hwa]; exact (Fr.refl _ _).alloc _
  have Ba : Hid (wa.heap[hb]? = some (.cells #[.int .i64 F, .int .i64 R, .int .i64 H] 23 (0, 0))) := by rw [hwa, hhb]; exact heap_alloc_new _ _
  have c0 : wa.cell? ⟨hb, 0, none⟩ = some (.int .i64 F) := cell_of_heap Ba.out rfl
  have c1 : wa.cell? ⟨hb, 1, none⟩ = some (.int .i64 R) := cell_of_heap Ba.out rfl
  have c2 : wa.cell? ⟨hb, 2, none⟩ = some (.int .i64 H) := cell_of_heap Ba.out rfl
  rw [← hwa, ← hhb]
  clear hwa hhb
  go_upto_region 4 with (go_at_call 28; refine (KE _).mono ?_; rintro e w1 ⟨m0, hm0, rfl, -, f1⟩)
  have Fb : Hid (Fr (fun _ => False) w w1) := Fa.out.trans f1
  have Bb : Hid (w1.heap[hb]? = some (.cells #[.int .i64 F, .int .i64 R, .int .i64 H] 23 (0, 0))) := (f1.block _ (lt_of_heap Ba.out) id).trans Ba.out
  clear f1 hm0 Fa Ba c0 c1 c2 d0 d1 d2 d3 d4 d5 d6
  have KQ : Calls Try.prog 29 #[] w1 fun e w' => ∃ gw vW, e = .returned (.pointer (some ⟨gw, 0, none⟩)) ∧ Hid (NqS w hb F R H rt mo 0 0 w'.heap.size (.slice none 0 0) gw vW (fun _ => 0) (w'.alloc (.cells #[.slice none 0 0, .pointer (some ⟨gw, 0, none⟩), .int .i64 rt, .int .i64 mo] 70))) := by
    refine (rqNew_in w.heap.size w1 Fb.out.size).mono ?_
    rintro e w' ⟨rfl, h1, h2⟩
    exact ⟨_, _, rfl, NqS.start (Fb.out.trans h2) ((h2.block _ (lt_of_heap Bb.out) id).trans Bb.out) h1⟩
  go_upto_region 5 with (go_at_call 29; refine KQ.mono ?_; clear KQ; rintro e w2 ⟨gw, vW, rfl, X2⟩)
  obtain ⟨w3, hw3⟩ : ∃ w3, w3 = w2.alloc (.cells #[.slice none 0 0, .pointer (some ⟨gw, 0, none⟩), .int .i64 rt, .int .i64 mo] 70) := ⟨_, rfl⟩
  obtain ⟨g, hg⟩ : ∃ g, g = w2.heap.size := ⟨_, rfl⟩
  have HS0 : Hid (NqS w hb F R H rt mo 0 0 g (.slice none 0 0) gw vW (fun _ => 0) w3) := by rw [hw3, hg]; exact X2.out
  rw [← hw3, ← hg]
  clear hw3 hg X2 Fb Bb hz1
  go_wp2_with (fail)
  go_loopw [13] (fun x13 wr => ∃ (k : Nat) (vL vW : Value) (ms : Nat → Nat), x13 = .int .i64 (k : Int) ∧ k ≤ n ∧ Hid (NqS w hb F R H rt mo k k g vL gw vW ms wr)) (fun x13 _ => n - (intOf x13).toNat)
  case atStart => exact ⟨0, _, vW, _, rfl, by omega, HS0.out⟩
  case round =>
    clear HS0
    obtain ⟨k, vL, vW, ms, rfl, hkn, HS⟩ := hrel
    by_cases hlt : k < n
    · have hlt2 : (k : Int) < (n : Int) := by omega
      have c0 : wr.cell? ⟨hb, 0, none⟩ = some (.int .i64 F) := cell_of_heap HS.out.box rfl
      have c1 : wr.cell? ⟨hb, 1, none⟩ = some (.int .i64 R) := cell_of_heap HS.out.box rfl
      have c2 : wr.cell? ⟨hb, 2, none⟩ = some (.int .i64 H) := cell_of_heap HS.out.box rfl
      have KE2 := KE wr
      go_upto_region 9 with (go_at_call 28; refine KE2.mono ?_; clear KE2; rintro e w5 ⟨m, hmm, rfl, m5, f5⟩)
      have S5 : Hid (NqS w hb F R H rt mo k k g vL gw vW ms w5) := HS.out.later f5
      obtain ⟨a', n', c', w6, hrun, hn', g6, hnx⟩ := HS.out.more (by omega) f5 m5 hmm
      obtain ⟨va, vc, rfl, -⟩ := HS.out.row.form
      have HX : Hid (NqS w hb F R H rt mo (k + 1) k g (.slice a' n' c') gw vW (msU ms k m) (w6.setCell ⟨g, 0, none⟩ (.slice a' n' c'))) := hnx
      have k0 : w5.cell? ⟨g, 0, none⟩ = some (.slice va k vc) := cell_of_heap S5.out.blk rfl
      have u0 : w6.cell? ⟨g, 0, none⟩ = some (.slice va k vc) := cell_of_heap g6 rfl
      have u1 : w6.frozen? ⟨g, 0, none⟩ = false := frozen_of_heap g6
      clear c0 c1 c2 hnx S5 HS m5 f5 hmm g6 hn'
      go_upto_region 10 with (refine wpList_append_run9 rfl (.tmp 71) (.tmp 75) 68 rfl (.slice va k vc) (.slice (some ⟨w5.heap.size, 0, none⟩) 1 1) (.slice a' n' c') rfl rfl hrun ?_)
      obtain ⟨w7, hw7⟩ : ∃ w7, w7 = w6.setCell ⟨g, 0, none⟩ (.slice a' n' c') := ⟨_, rfl⟩
      have S7 : Hid (NqS w hb F R H rt mo (k + 1) k g (.slice a' n' c') gw vW (msU ms k m) w7) := by rw [hw7]; exact HX.out
      rw [← hw7]
      clear hw7 HX k0 u0 u1 hrun
      have k1 : w7.cell? ⟨g, 1, none⟩ = some (.pointer (some ⟨gw, 0, none⟩)) := cell_of_heap S7.out.blk rfl
      have KS := rqSet_in S7.out.whl S7.out.fr.size (by omega) (k : Int) 1 ⟨by omega, by omega⟩
      go_wp2_with (go_at_call 30; refine KS.mono ?_; clear KS; rintro e w8 ⟨rfl, hp⟩)
      have HN : Hid (∃ uW, NqS w hb F R H rt mo (k + 1) (k + 1) g (.slice a' n' c') gw uW (msU ms k m) w8) := S7.out.next hp
      clear hp S7
      go_roundw
      case rel =>
        obtain ⟨uW, h5⟩ := HN.out
        exact ⟨k + 1, _, uW, _, by simp, by omega, h5⟩
      case measure => simp [intOf]; omega
    · have hge : k = n := by omega
      have hnlt : ¬ (k : Int) < (n : Int) := by omega
      have HD : Hid (QNewAs w n F R H rt mo (.returned (.tuple #[.pointer (some ⟨g, 0, none⟩), .int .i64 0])) wr) := HS.out.done hge
      clear HS hge hlt
      go_wp2_with (fail)
      go_ret2
      exact HD.out
theorem OkP.not {n rt mo : Int} (h : ¬ OkP n rt mo) : n < 0 ∨ 16 < n ∨ rt < 1 ∨ mo < rt ∨ 1073741824 < mo := by
  by_cases h1 : n < 0
  · exact .inl h1
  by_cases h2 : 16 < n
  · exact .inr (.inl h2)
  by_cases h3 : rt < 1
  · exact .inr (.inr (.inl h3))
  by_cases h4 : mo < rt
  · exact .inr (.inr (.inr (.inl h4)))
  by_cases h5 : 1073741824 < mo
  · exact .inr (.inr (.inr (.inr h5)))
  exact absurd ⟨by omega, by omega, by omega, by omega, by omega⟩ h
theorem plNew_bad (w : World) (n F R H rt mo : Int) (hp : ¬ OkP n rt mo) : Calls Try.prog 8 #[.int .i64 n, .agg #[.int .i64 F, .int .i64 R, .int .i64 H], .int .i64 rt, .int .i64 mo] w fun e w' => e = .returned (.tuple #[.pointer none, .int .i64 1]) ∧ Fr (fun _ => False) w w' := by
  have hp2 := OkP.not hp
  clear hp
  go_enter Try.func8, Try.ntmps8
  go_upto_region 1 with (fail)
  obtain ⟨wa, hwa⟩ : ∃ wa, wa = w.alloc (Obj.cells #[.int .i64 F, .int .i64 R, .int .i64 H] 23) := ⟨_, rfl⟩
  obtain ⟨hb, hhb⟩ : ∃ hb, hb = w.heap.size := ⟨_, rfl⟩
  have Fa : Hid (Fr (fun _ => False) w wa) := by rw [hwa]; exact (Fr.refl _ _).alloc _
  have Ba : Hid (wa.heap[hb]? = some (.cells #[.int .i64 F, .int .i64 R, .int .i64 H] 23 (0, 0))) := by rw [hwa, hhb]; exact heap_alloc_new _ _
  have c0 : wa.cell? ⟨hb, 0, none⟩ = some (.int .i64 F) := cell_of_heap Ba.out rfl
  have c1 : wa.cell? ⟨hb, 1, none⟩ = some (.int .i64 R) := cell_of_heap Ba.out rfl
  have c2 : wa.cell? ⟨hb, 2, none⟩ = some (.int .i64 H) := cell_of_heap Ba.out rfl
  rw [← hwa, ← hhb]
  clear hwa hhb
  by_cases a0 : n < 0
  · have d0 : decide (n < 0) = true := decide_eq_true a0
    clear hp2
    go_wp2_with (fail)
    go_ret2
    exact ⟨rfl, Fa.out⟩
  have d0 : decide (n < 0) = false := decide_eq_false a0
  by_cases a1 : (16 : Int) < n
  · have d1 : decide ((16 : Int) < n) = true := decide_eq_true a1
    clear hp2
    go_wp2_with (fail)
    go_ret2
    exact ⟨rfl, Fa.out⟩
  have d1 : decide ((16 : Int) < n) = false := decide_eq_false a1
  by_cases a2 : rt < 1
  · have d2 : decide (rt < 1) = true := decide_eq_true a2
    clear hp2
    go_wp2_with (fail)
    go_ret2
    exact ⟨rfl, Fa.out⟩
  have d2 : decide (rt < 1) = false := decide_eq_false a2
  by_cases a3 : mo < rt
  · have d3 : decide (mo < rt) = true := decide_eq_true a3
    clear hp2
    go_wp2_with (fail)
    go_ret2
    exact ⟨rfl, Fa.out⟩
  have d3 : decide (mo < rt) = false := decide_eq_false a3
  have a4 : (1073741824 : Int) < mo := by omega
  have d4 : decide ((1073741824 : Int) < mo) = true := decide_eq_true a4
  clear hp2
  go_wp2_with (fail)
  go_ret2
  exact ⟨rfl, Fa.out⟩
theorem plNew_rule (w : World) (n F R H rt mo : Int) (hp : OkP n rt mo) (hr : ¬ OkR F R H) : Calls Try.prog 8 #[.int .i64 n, .agg #[.int .i64 F, .int .i64 R, .int .i64 H], .int .i64 rt, .int .i64 mo] w fun e w' => e = .returned (.tuple #[.pointer none, .int .i64 1]) ∧ Fr (fun _ => False) w w' := by
  have KE := fun w => eNew_no F R H w hr
  obtain ⟨p0, p1, p2, p3, p4⟩ := hp
  have d0 : decide (n < 0) = false := decide_eq_false (by omega)
  have d1 : decide ((16 : Int) < n) = false := decide_eq_false (by omega)
  have d2 : decide (rt < 1) = false := decide_eq_false (by omega)
  have d3 : decide (mo < rt) = false := decide_eq_false (by omega)
  have d4 : decide ((1073741824 : Int) < mo) = false := decide_eq_false (by omega)
  have a0 : ¬ n < 0 := by omega
  have a1 : ¬ (16 : Int) < n := by omega
  go_enter Try.func8, Try.ntmps8
  go_upto_region 1 with (fail)
  obtain ⟨wa, hwa⟩ : ∃ wa, wa = w.alloc (Obj.cells #[.int .i64 F, .int .i64 R, .int .i64 H] 23) := ⟨_, rfl⟩
  obtain ⟨hb, hhb⟩ : ∃ hb, hb = w.heap.size := ⟨_, rfl⟩
  have Fa : Hid (Fr (fun _ => False) w wa) := by rw [hwa]; exact (Fr.refl _ _).alloc _
  have Ba : Hid (wa.heap[hb]? = some (.cells #[.int .i64 F, .int .i64 R, .int .i64 H] 23 (0, 0))) := by rw [hwa, hhb]; exact heap_alloc_new _ _
  have c0 : wa.cell? ⟨hb, 0, none⟩ = some (.int .i64 F) := cell_of_heap Ba.out rfl
  have c1 : wa.cell? ⟨hb, 1, none⟩ = some (.int .i64 R) := cell_of_heap Ba.out rfl
  have c2 : wa.cell? ⟨hb, 2, none⟩ = some (.int .i64 H) := cell_of_heap Ba.out rfl
  rw [← hwa, ← hhb]
  clear hwa hhb
  go_wp2_with (go_at_call 25; refine (KE _).mono ?_; rintro e w1 ⟨rfl, f1⟩)
  go_ret2
  exact ⟨rfl, Fa.out.trans f1⟩
theorem plNew_no (w : World) (n F R H rt mo : Int) (h : ¬ (OkP n rt mo ∧ OkR F R H)) : Calls Try.prog 8 #[.int .i64 n, .agg #[.int .i64 F, .int .i64 R, .int .i64 H], .int .i64 rt, .int .i64 mo] w fun e w' => e = .returned (.tuple #[.pointer none, .int .i64 1]) ∧ Fr (fun _ => False) w w' := by
  by_cases hp : OkP n rt mo
  · exact plNew_rule w n F R H rt mo hp (fun hr => h ⟨hp, hr⟩)
  · exact plNew_bad w n F R H rt mo hp
theorem rplNew_rule (w : World) (n F R H rt mo : Int) (hr : ¬ OkR F R H) : Calls Try.prog 9 #[.int .i64 n, .agg #[.int .i64 F, .int .i64 R, .int .i64 H], .int .i64 rt, .int .i64 mo] w fun e w' => e = .returned (.tuple #[.pointer none, .int .i64 1]) ∧ Fr (fun _ => False) w w' := by
  have KE := fun w => reNew_no F R H w hr
  go_enter Try.func9, Try.ntmps9
  go_upto_region 1 with (fail)
  obtain ⟨wa, hwa⟩ : ∃ wa, wa = w.alloc (Obj.cells #[.int .i64 F, .int .i64 R, .int .i64 H] 23) := ⟨_, rfl⟩
  obtain ⟨hb, hhb⟩ : ∃ hb, hb = w.heap.size := ⟨_, rfl⟩
  have Fa : Hid (Fr (fun _ => False) w wa) := by rw [hwa]; exact (Fr.refl _ _).alloc _
  have Ba : Hid (wa.heap[hb]? = some (.cells #[.int .i64 F, .int .i64 R, .int .i64 H] 23 (0, 0))) := by rw [hwa, hhb]; exact heap_alloc_new _ _
  have c0 : wa.cell? ⟨hb, 0, none⟩ = some (.int .i64 F) := cell_of_heap Ba.out rfl
  have c1 : wa.cell? ⟨hb, 1, none⟩ = some (.int .i64 R) := cell_of_heap Ba.out rfl
  have c2 : wa.cell? ⟨hb, 2, none⟩ = some (.int .i64 H) := cell_of_heap Ba.out rfl
  rw [← hwa, ← hhb]
  clear hwa hhb
  go_upto_region 2 with (go_at_call 28; refine (KE _).mono ?_; rintro e w1 ⟨rfl, f1⟩)
  by_cases a0 : n < 0
  · have d0 : decide (n < 0) = true := decide_eq_true a0
    go_wp2_with (fail)
    go_ret2
    exact ⟨rfl, Fa.out.trans f1⟩
  have d0 : decide (n < 0) = false := decide_eq_false a0
  by_cases a1 : (16 : Int) < n
  · have d1 : decide ((16 : Int) < n) = true := decide_eq_true a1
    go_wp2_with (fail)
    go_ret2
    exact ⟨rfl, Fa.out.trans f1⟩
  have d1 : decide ((16 : Int) < n) = false := decide_eq_false a1
  go_wp2_with (fail)
  go_ret2
  exact ⟨rfl, Fa.out.trans f1⟩
theorem rplNew_bad (w : World) (n F R H rt mo : Int) (hr : OkR F R H) (hp : ¬ OkP n rt mo) : Calls Try.prog 9 #[.int .i64 n, .agg #[.int .i64 F, .int .i64 R, .int .i64 H], .int .i64 rt, .int .i64 mo] w fun e w' => e = .returned (.tuple #[.pointer none, .int .i64 1]) ∧ Fr (fun _ => False) w w' := by
  have KE := fun w => reNew_yes F R H w hr
  have hp2 := OkP.not hp
  clear hp
  go_enter Try.func9, Try.ntmps9
  go_upto_region 1 with (fail)
  obtain ⟨wa, hwa⟩ : ∃ wa, wa = w.alloc (Obj.cells #[.int .i64 F, .int .i64 R, .int .i64 H] 23) := ⟨_, rfl⟩
  obtain ⟨hb, hhb⟩ : ∃ hb, hb = w.heap.size := ⟨_, rfl⟩
  have Fa : Hid (Fr (fun _ => False) w wa) := by rw [hwa]; exact (Fr.refl _ _).alloc _
  have Ba : Hid (wa.heap[hb]? = some (.cells #[.int .i64 F, .int .i64 R, .int .i64 H] 23 (0, 0))) := by rw [hwa, hhb]; exact heap_alloc_new _ _
  have c0 : wa.cell? ⟨hb, 0, none⟩ = some (.int .i64 F) := cell_of_heap Ba.out rfl
  have c1 : wa.cell? ⟨hb, 1, none⟩ = some (.int .i64 R) := cell_of_heap Ba.out rfl
  have c2 : wa.cell? ⟨hb, 2, none⟩ = some (.int .i64 H) := cell_of_heap Ba.out rfl
  rw [← hwa, ← hhb]
  clear hwa hhb
  go_upto_region 2 with (go_at_call 28; refine (KE _).mono ?_; rintro e w1 ⟨m0, hm0, rfl, -, f1⟩)
  by_cases a0 : n < 0
  · have d0 : decide (n < 0) = true := decide_eq_true a0
    clear hp2
    go_wp2_with (fail)
    go_ret2
    exact ⟨rfl, Fa.out.trans f1⟩
  have d0 : decide (n < 0) = false := decide_eq_false a0
  by_cases a1 : (16 : Int) < n
  · have d1 : decide ((16 : Int) < n) = true := decide_eq_true a1
    clear hp2
    go_wp2_with (fail)
    go_ret2
    exact ⟨rfl, Fa.out.trans f1⟩
  have d1 : decide ((16 : Int) < n) = false := decide_eq_false a1
  by_cases a2 : rt < 1
  · have d2 : decide (rt < 1) = true := decide_eq_true a2
    clear hp2
    go_wp2_with (fail)
    go_ret2
    exact ⟨rfl, Fa.out.trans f1⟩
  have d2 : decide (rt < 1) = false := decide_eq_false a2
  by_cases a3 : (1073741824 : Int) < rt
  · have d3 : decide ((1073741824 : Int) < rt) = true := decide_eq_true a3
    clear hp2
    go_wp2_with (fail)
    go_ret2
    exact ⟨rfl, Fa.out.trans f1⟩
  have d3 : decide ((1073741824 : Int) < rt) = false := decide_eq_false a3
  by_cases a4 : mo < 1
  · have d4 : decide (mo < 1) = true := decide_eq_true a4
    clear hp2
    go_wp2_with (fail)
    go_ret2
    exact ⟨rfl, Fa.out.trans f1⟩
  have d4 : decide (mo < 1) = false := decide_eq_false a4
  by_cases a5 : (1073741824 : Int) < mo
  · have d5 : decide ((1073741824 : Int) < mo) = true := decide_eq_true a5
    clear hp2
    go_wp2_with (fail)
    go_ret2
    exact ⟨rfl, Fa.out.trans f1⟩
  have d5 : decide ((1073741824 : Int) < mo) = false := decide_eq_false a5
  have a6 : mo < rt := by omega
  have d6 : decide (mo < rt) = true := decide_eq_true a6
  clear hp2
  go_wp2_with (fail)
  go_ret2
  exact ⟨rfl, Fa.out.trans f1⟩
theorem rplNew_no (w : World) (n F R H rt mo : Int) (h : ¬ (OkP n rt mo ∧ OkR F R H)) : Calls Try.prog 9 #[.int .i64 n, .agg #[.int .i64 F, .int .i64 R, .int .i64 H], .int .i64 rt, .int .i64 mo] w fun e w' => e = .returned (.tuple #[.pointer none, .int .i64 1]) ∧ Fr (fun _ => False) w w' := by
  by_cases hr : OkR F R H
  · exact rplNew_bad w n F R H rt mo hr (fun hp => h ⟨hp, hr⟩)
  · exact rplNew_rule w n F R H rt mo hr
end Go.Proofs.Ytoiencoojkahmaa
