/- The document's pool: its memory, and the calls that change a backend. -/
import Derived.Test.YtoiencoojkahmaaJi
import Derived.Test.YtoiencoojkahmaaEe
import Derived.Test.YtoiencoojkahmaaGv
namespace Go.Proofs.Ytoiencoojkahmaa
open Go.RowKit Go.Maps
set_option linter.unusedVariables false
set_option maxRecDepth 100000
set_option maxHeartbeats 4000000

/-- The document's pool in memory. -/
structure QAt (base : Nat) (w : World) (g : Nat) (a : Option Addr) (cap b gw : Nat) (vW : Value) (ms : Nat → Nat) (n : Nat) (F R H rt mo : Int) (s : Pl) : Prop where
  blk : w.heap[g]? = some (.cells #[.slice a n cap, .pointer (some ⟨gw, 0, none⟩), .int .i64 rt, .int .i64 mo] 70 (0, 0))
  row : 0 < n → a = some ⟨b, 0, none⟩ ∧ ∃ cs, w.heap[b]? = some (.cells cs 72 (0, 0)) ∧ Rw rfl5 n ms s.X cs
  mod : ∀ i, i < n → RM w (ms i) F R H (s.X i).hs
  whl : RWA base w gw s.N s.T vW
  nd : ∀ i j, i < n → j < n → ms i = ms j → i = j
  bg : base ≤ g
  bb : 0 < n → base ≤ b
  bm : ∀ i, i < n → base ≤ ms i
/-- The blocks that calls write. -/
def QX (b gw : Nat) (vW : Value) (ms : Nat → Nat) (n k : Nat) : Prop := (0 < n ∧ k = b) ∨ (∃ i, i < n ∧ k = ms i) ∨ RX2 gw vW k
theorem rx_tag {base : Nat} {w : World} {g N : Nat} {L : List (Int × Int)} {vL : Value} (hr : RWA base w g N L vL) {k : Nat} {cs : Array Value} {t : TypeId} {f : Nat × Nat} (hk : w.heap[k]? = some (.cells cs t f)) (h1 : t ≠ 93) (h2 : t ≠ 95) : ¬ RX2 g vL k := by
  rintro (rfl | e)
  · exact tag_neI hk hr.blk h1 rfl
  · obtain ⟨-, cur, hc⟩ := hr.row.lt k e
    exact tag_neI hk hc h2 rfl
section
variable {base : Nat} {w w' : World} {g : Nat} {a : Option Addr} {cap b gw : Nat} {vW uW : Value} {ms : Nat → Nat} {n : Nat} {F R H rt mo : Int} {s : Pl}
theorem QAt.fr {X : Nat → Prop} (h : QAt base w g a cap b gw vW ms n F R H rt mo s) (f : Fr X w w') (h0 : ¬ X g) (hx : ∀ k, QX b gw vW ms n k → ¬ X k) : QAt base w' g a cap b gw vW ms n F R H rt mo s := by
  refine ⟨(f.block g (lt_of_heap h.blk) h0).trans h.blk, fun hn => ?_, fun i hi => (h.mod i hi).fr f (hx _ (.inr (.inl ⟨i, hi, rfl⟩))), h.whl.fr f (fun k hk => hx k (.inr (.inr hk))), h.nd, h.bg, h.bb, h.bm⟩
  obtain ⟨e, cs, hc, hr⟩ := h.row hn
  exact ⟨e, cs, (f.block b (lt_of_heap hc) (hx b (.inl ⟨hn, rfl⟩))).trans hc, hr⟩
theorem QAt.later (h : QAt base w g a cap b gw vW ms n F R H rt mo s) (f : Fr (fun _ => False) w w') : QAt base w' g a cap b gw vW ms n F R H rt mo s := h.fr f id (fun _ _ => id)
theorem QAt.base_le (h : QAt base w g a cap b gw vW ms n F R H rt mo s) : ∀ k, QX b gw vW ms n k → base ≤ k := by
  rintro k (⟨hn, rfl⟩ | ⟨i, hi, rfl⟩ | hk)
  · exact h.bb hn
  · exact h.bm i hi
  · exact h.whl.base_le k hk
/-- A block of another tag. -/
theorem QAt.tag (h : QAt base w g a cap b gw vW ms n F R H rt mo s) {k : Nat} {cs : Array Value} {t : TypeId} {f : Nat × Nat} (hk : w.heap[k]? = some (.cells cs t f)) (h1 : t ≠ 93) (h2 : t ≠ 95) (h3 : t ≠ 72) (h4 : t ≠ 90) : ¬ QX b gw vW ms n k := by
  rintro (⟨hn, rfl⟩ | ⟨i, hi, rfl⟩ | hw)
  · obtain ⟨-, cs, hc, -⟩ := h.row hn
    exact tag_neI hk hc h3 rfl
  · exact tag_neI hk (h.mod i hi) h4 rfl
  · exact rx_tag h.whl hk h1 h2 hw
theorem QAt.b_ne (h : QAt base w g a cap b gw vW ms n F R H rt mo s) (hn : 0 < n) : b ≠ g ∧ (∀ i, i < n → ms i ≠ b) ∧ ¬ RX2 gw vW b := by
  obtain ⟨-, cs, hc, hr⟩ := h.row hn
  exact ⟨tag_neI hc h.blk (by decide), fun i hi => tag_neI (h.mod i hi) hc (by decide), rx_tag h.whl hc (by decide) (by decide)⟩
theorem QAt.size (h : QAt base w g a cap b gw vW ms n F R H rt mo s) : base ≤ w.heap.size := by have := h.bg; have := lt_of_heap h.blk; omega
/-- A field of one backend is stored. -/
theorem QAt.put (h : QAt base w g a cap b gw vW ms n F R H rt mo s) {j : Nat} (hj : j < n) (k : Nat) (hk : k < 4) (x : Bk) {v : Value} (hv : rfl5 x k = v) (ho : ∀ l, l < 4 → l ≠ k → rfl5 x l = rfl5 (s.X j) l) (hh : x.hs = (s.X j).hs) :
    QAt base (w.setCell ⟨b, j * 5 + 1 + k, none⟩ v) g a cap b gw vW ms n F R H rt mo ⟨updB s.X j x, s.N, s.T⟩ := by
  obtain ⟨n1, n2, n3⟩ := h.b_ne (by omega)
  obtain ⟨ea, cs, hc, hr⟩ := h.row (by omega)
  have f : Fr (fun k => k = b) w (w.setCell ⟨b, j * 5 + 1 + k, none⟩ v) := (Fr.refl _ _).setB _ _
  refine ⟨(f.block g (lt_of_heap h.blk) (fun e => n1 e.symm)).trans h.blk, fun _ => ⟨ea, _, heap_set _ hc, hr.set hj k hk x hv ho⟩, fun i hi => ?_, h.whl.fr f (fun q hq e => n3 (e ▸ hq)), h.nd, h.bg, h.bb, h.bm⟩
  have := (h.mod i hi).fr f (n2 i hi)
  show RM _ (ms i) F R H (updB s.X j x i).hs
  unfold updB
  split
  · rename_i e
    have e2 : (s.X j).hs = (s.X i).hs := by rw [e]
    rw [hh, e2]
    exact this
  · exact this
theorem QAt.to (h : QAt base w g a cap b gw vW ms n F R H rt mo s) {t : Pl} (e : s = t) : QAt base w g a cap b gw vW ms n F R H rt mo t := e ▸ h
theorem QAt.cells (h : QAt base w g a cap b gw vW ms n F R H rt mo s) {j : Nat} (hj : j < n) : w.cell? ⟨b, j * 5, none⟩ = some (.pointer (some ⟨ms j, 0, none⟩)) ∧ w.cell? ⟨b, j * 5 + 1, none⟩ = some (.int .i64 (s.X j).st) ∧ w.cell? ⟨b, j * 5 + 2, none⟩ = some (.int .i64 (s.X j).load) ∧ w.cell? ⟨b, j * 5 + 3, none⟩ = some (.int .i64 (s.X j).may) ∧ w.cell? ⟨b, j * 5 + 4, none⟩ = some (.int .i64 (s.X j).wait) ∧ ∀ k, w.frozen? ⟨b, k, none⟩ = false := by
  obtain ⟨-, cs, hc, hr⟩ := h.row (by omega)
  obtain ⟨h1, h2⟩ := hr j hj
  exact ⟨cell_of_heap hc h1, cell_of_heap hc (h2 0 (by omega)), cell_of_heap hc (h2 1 (by omega)), cell_of_heap hc (h2 2 (by omega)), cell_of_heap hc (h2 3 (by omega)), fun k => frozen_of_heap hc⟩
theorem QAt.head (h : QAt base w g a cap b gw vW ms n F R H rt mo s) : w.cell? ⟨g, 0, none⟩ = some (.slice a n cap) ∧ w.cell? ⟨g, 1, none⟩ = some (.pointer (some ⟨gw, 0, none⟩)) ∧ w.cell? ⟨g, 2, none⟩ = some (.int .i64 rt) ∧ w.cell? ⟨g, 3, none⟩ = some (.int .i64 mo) :=
  ⟨cell_of_heap h.blk rfl, cell_of_heap h.blk rfl, cell_of_heap h.blk rfl, cell_of_heap h.blk rfl⟩
theorem QAt.head0 (h : QAt base w g a cap b gw vW ms n F R H rt mo s) (hn : 0 < n) : w.cell? ⟨g, 0, none⟩ = some (.slice (some ⟨b, 0, none⟩) n cap) := by rw [h.head.1, (h.row hn).1]
theorem QAt.pst (h : QAt base w g a cap b gw vW ms n F R H rt mo s) {j : Nat} (hj : j < n) (v : Int) : QAt base (w.setCell ⟨b, j * 5 + 1, none⟩ (.int .i64 v)) g a cap b gw vW ms n F R H rt mo ⟨updB s.X j ⟨(s.X j).hs, v, (s.X j).may, (s.X j).load, (s.X j).wait⟩, s.N, s.T⟩ :=
  h.put hj 0 (by omega) ⟨(s.X j).hs, v, (s.X j).may, (s.X j).load, (s.X j).wait⟩ rfl (fun l hl hne => by match l, hl, hne with | 1, _, _ => rfl | 2, _, _ => rfl | 3, _, _ => rfl) rfl
theorem QAt.pload (h : QAt base w g a cap b gw vW ms n F R H rt mo s) {j : Nat} (hj : j < n) (v : Int) : QAt base (w.setCell ⟨b, j * 5 + 2, none⟩ (.int .i64 v)) g a cap b gw vW ms n F R H rt mo ⟨updB s.X j ⟨(s.X j).hs, (s.X j).st, (s.X j).may, v, (s.X j).wait⟩, s.N, s.T⟩ :=
  h.put hj 1 (by omega) ⟨(s.X j).hs, (s.X j).st, (s.X j).may, v, (s.X j).wait⟩ rfl (fun l hl hne => by match l, hl, hne with | 0, _, _ => rfl | 2, _, _ => rfl | 3, _, _ => rfl) rfl
theorem QAt.pmay (h : QAt base w g a cap b gw vW ms n F R H rt mo s) {j : Nat} (hj : j < n) (v : Int) : QAt base (w.setCell ⟨b, j * 5 + 3, none⟩ (.int .i64 v)) g a cap b gw vW ms n F R H rt mo ⟨updB s.X j ⟨(s.X j).hs, (s.X j).st, v, (s.X j).load, (s.X j).wait⟩, s.N, s.T⟩ :=
  h.put hj 2 (by omega) ⟨(s.X j).hs, (s.X j).st, v, (s.X j).load, (s.X j).wait⟩ rfl (fun l hl hne => by match l, hl, hne with | 0, _, _ => rfl | 1, _, _ => rfl | 3, _, _ => rfl) rfl
theorem QAt.pwait (h : QAt base w g a cap b gw vW ms n F R H rt mo s) {j : Nat} (hj : j < n) (v : Int) : QAt base (w.setCell ⟨b, j * 5 + 4, none⟩ (.int .i64 v)) g a cap b gw vW ms n F R H rt mo ⟨updB s.X j ⟨(s.X j).hs, (s.X j).st, (s.X j).may, (s.X j).load, v⟩, s.N, s.T⟩ :=
  h.put hj 3 (by omega) ⟨(s.X j).hs, (s.X j).st, (s.X j).may, (s.X j).load, v⟩ rfl (fun l hl hne => by match l, hl, hne with | 0, _, _ => rfl | 1, _, _ => rfl | 2, _, _ => rfl | 3, _, h => exact (h rfl).elim) rfl
/-- A model is another. -/
theorem QAt.phs (h : QAt base w g a cap b gw vW ms n F R H rt mo s) {j : Nat} (hj : j < n) {y : Hs} (hy : RM w' (ms j) F R H y) (f : Fr (fun k => k = ms j) w w') : QAt base w' g a cap b gw vW ms n F R H rt mo ⟨updB s.X j ⟨y, (s.X j).st, (s.X j).may, (s.X j).load, (s.X j).wait⟩, s.N, s.T⟩ := by
  obtain ⟨n1, n2, n3⟩ := h.b_ne (by omega)
  obtain ⟨ea, cs, hc, hr⟩ := h.row (by omega)
  refine ⟨(f.block g (lt_of_heap h.blk) (fun e => tag_neI h.blk (h.mod j hj) (by decide) e)).trans h.blk, fun _ => ⟨ea, cs, (f.block b (lt_of_heap hc) (fun e => n2 j hj e.symm)).trans hc, hr.same (fun i hi k hk => ?_)⟩, fun i hi => ?_, h.whl.fr f (fun q hq e => rx_tag h.whl (h.mod j hj) (by decide) (by decide) (e ▸ hq)), h.nd, h.bg, h.bb, h.bm⟩
  · show _ = rfl5 (updB s.X j _ i) k
    unfold updB
    split
    · rename_i e
      rw [e]
      match k, hk with | 0, _ => rfl | 1, _ => rfl | 2, _ => rfl | 3, _ => rfl
    · rfl
  · show RM w' (ms i) F R H (updB s.X j _ i).hs
    unfold updB
    split
    · rename_i e
      rw [e]
      exact hy
    · rename_i e
      exact (h.mod i hi).fr f (fun e2 => e (h.nd i j hi hj e2))
/-- Its wheel is another. -/
theorem QAt.pwhl (h : QAt base w g a cap b gw vW ms n F R H rt mo s) {N : Nat} {T : List (Int × Int)} (hw : RWA base w' gw N T uW) (f : Fr (RX2 gw vW) w w') : QAt base w' g a cap b gw uW ms n F R H rt mo ⟨s.X, N, T⟩ := by
  refine ⟨(f.block g (lt_of_heap h.blk) (rx_tag h.whl h.blk (by decide) (by decide))).trans h.blk, fun hn => ?_, fun i hi => (h.mod i hi).fr f (rx_tag h.whl (h.mod i hi) (by decide) (by decide)), hw, h.nd, h.bg, h.bb, h.bm⟩
  obtain ⟨ea, cs, hc, hr⟩ := h.row hn
  exact ⟨ea, cs, (f.block b (lt_of_heap hc) (h.b_ne hn).2.2).trans hc, hr⟩
/-- What a call leaves. -/
def QPost (base : Nat) (w : World) (g : Nat) (a : Option Addr) (cap b gw : Nat) (vW : Value) (ms : Nat → Nat) (n : Nat) (F R H rt mo : Int) (s : Pl) (w' : World) : Prop := ∃ uW, QAt base w' g a cap b gw uW ms n F R H rt mo s ∧ Fr (QX b gw vW ms n) w w'
theorem QPost.refl (h : QAt base w g a cap b gw vW ms n F R H rt mo s) : QPost base w g a cap b gw vW ms n F R H rt mo s w := ⟨vW, h, Fr.refl _ _⟩
theorem rplIs_yes (h : QAt base w g a cap b gw vW ms n F R H rt mo s) (hn : n ≤ 16) {j : Nat} (hj : j < n) : Calls Try.prog 48 #[.pointer (some ⟨g, 0, none⟩), .int .i64 (j : Int)] w fun e w' => e = .returned (.bool true) ∧ w = w' := by
  have h0 := h.head.1
  have hj2 : (j : Int) < (n : Int) := by omega
  have hj3 : (0 : Int) ≤ (j : Int) := by omega
  have d1 : decide ((0 : Int) ≤ (j : Int)) = true := decide_eq_true hj3
  have d2 : decide ((j : Int) < (n : Int)) = true := decide_eq_true hj2
  clear h
  go_enter Try.func48, Try.ntmps48
  go_wp2_with (fail)
  go_ret
  exact ⟨by simp, rfl⟩
theorem rplIs_no (h : QAt base w g a cap b gw vW ms n F R H rt mo s) (hn : n ≤ 16) {d : Int} (hd : d < 0 ∨ (n : Int) ≤ d) : Calls Try.prog 48 #[.pointer (some ⟨g, 0, none⟩), .int .i64 d] w fun e w' => e = .returned (.bool false) ∧ w = w' := by
  have h0 := h.head.1
  clear h
  by_cases h1 : d < 0
  · have d1 : decide ((0 : Int) ≤ d) = false := decide_eq_false (by omega)
    have d3 : ¬ (0 : Int) ≤ d := by omega
    go_enter Try.func48, Try.ntmps48
    go_wp2_with (fail)
    go_ret
    exact ⟨rfl, rfl⟩
  · have d1 : decide ((0 : Int) ≤ d) = true := decide_eq_true (by omega)
    have d3 : (0 : Int) ≤ d := by omega
    have d2 : decide (d < (n : Int)) = false := decide_eq_false (by omega)
    have d4 : ¬ d < (n : Int) := by omega
    go_enter Try.func48, Try.ntmps48
    go_wp2_with (fail)
    go_ret
    exact ⟨by simp, rfl⟩
theorem rplOpened_no (p : Option Addr) (d : Int) (w : World) (K : Calls Try.prog 48 #[.pointer p, .int .i64 d] w fun e w' => e = .returned (.bool false) ∧ w = w') : Calls Try.prog 33 #[.pointer p, .int .i64 d] w fun e w' => e = .returned (.int .i64 1) ∧ w = w' := by
  go_enter Try.func33, Try.ntmps33
  go_wp2_with (go_at_call 48; refine K.mono ?_; clear K; rintro e w' ⟨rfl, rfl⟩)
  go_ret
  exact ⟨rfl, rfl⟩
theorem rplFailed_no (p : Option Addr) (d : Int) (w : World) (K : Calls Try.prog 48 #[.pointer p, .int .i64 d] w fun e w' => e = .returned (.bool false) ∧ w = w') : Calls Try.prog 34 #[.pointer p, .int .i64 d] w fun e w' => e = .returned (.int .i64 1) ∧ w = w' := by
  go_enter Try.func34, Try.ntmps34
  go_wp2_with (go_at_call 48; refine K.mono ?_; clear K; rintro e w' ⟨rfl, rfl⟩)
  go_ret
  exact ⟨rfl, rfl⟩
theorem rplDrain_no (p : Option Addr) (d : Int) (w : World) (K : Calls Try.prog 48 #[.pointer p, .int .i64 d] w fun e w' => e = .returned (.bool false) ∧ w = w') : Calls Try.prog 35 #[.pointer p, .int .i64 d] w fun e w' => e = .returned (.int .i64 1) ∧ w = w' := by
  go_enter Try.func35, Try.ntmps35
  go_wp2_with (go_at_call 48; refine K.mono ?_; clear K; rintro e w' ⟨rfl, rfl⟩)
  go_ret
  exact ⟨rfl, rfl⟩
theorem rplLimit_no (p : Option Addr) (d : Int) (v : Int) (w : World) (K : Calls Try.prog 48 #[.pointer p, .int .i64 d] w fun e w' => e = .returned (.bool false) ∧ w = w') : Calls Try.prog 36 #[.pointer p, .int .i64 d, .int .i64 v] w fun e w' => e = .returned (.int .i64 1) ∧ w = w' := by
  go_enter Try.func36, Try.ntmps36
  go_wp2_with (go_at_call 48; refine K.mono ?_; clear K; rintro e w' ⟨rfl, rfl⟩)
  go_ret
  exact ⟨rfl, rfl⟩
theorem rplTake_no (p : Option Addr) (d : Int) (w : World) (K : Calls Try.prog 48 #[.pointer p, .int .i64 d] w fun e w' => e = .returned (.bool false) ∧ w = w') : Calls Try.prog 19 #[.pointer p, .int .i64 d] w fun e w' => e = .returned (.int .i64 1) ∧ w = w' := by
  go_enter Try.func19, Try.ntmps19
  go_wp2_with (go_at_call 48; refine K.mono ?_; clear K; rintro e w' ⟨rfl, rfl⟩)
  go_ret
  exact ⟨rfl, rfl⟩
theorem rplPut_no (p : Option Addr) (d : Int) (w : World) (K : Calls Try.prog 48 #[.pointer p, .int .i64 d] w fun e w' => e = .returned (.bool false) ∧ w = w') : Calls Try.prog 37 #[.pointer p, .int .i64 d] w fun e w' => e = .returned (.int .i64 1) ∧ w = w' := by
  go_enter Try.func37, Try.ntmps37
  go_wp2_with (go_at_call 48; refine K.mono ?_; clear K; rintro e w' ⟨rfl, rfl⟩)
  go_ret
  exact ⟨rfl, rfl⟩
theorem rplProbe_no (p : Option Addr) (d : Int) (v : Bool) (w : World) (K : Calls Try.prog 48 #[.pointer p, .int .i64 d] w fun e w' => e = .returned (.bool false) ∧ w = w') : Calls Try.prog 38 #[.pointer p, .int .i64 d, .bool v] w fun e w' => e = .returned (.int .i64 1) ∧ w = w' := by
  go_enter Try.func38, Try.ntmps38
  go_wp2_with (go_at_call 48; refine K.mono ?_; clear K; rintro e w' ⟨rfl, rfl⟩)
  go_ret
  exact ⟨rfl, rfl⟩
theorem rplState_no (p : Option Addr) (d : Int) (w : World) (K : Calls Try.prog 48 #[.pointer p, .int .i64 d] w fun e w' => e = .returned (.bool false) ∧ w = w') : Calls Try.prog 40 #[.pointer p, .int .i64 d] w fun e w' => e = .returned (.int .i64 (-1)) ∧ w = w' := by
  go_enter Try.func40, Try.ntmps40
  go_wp2_with (go_at_call 48; refine K.mono ?_; clear K; rintro e w' ⟨rfl, rfl⟩)
  go_ret
  exact ⟨rfl, rfl⟩
theorem rplWait_no (p : Option Addr) (d : Int) (w : World) (K : Calls Try.prog 48 #[.pointer p, .int .i64 d] w fun e w' => e = .returned (.bool false) ∧ w = w') : Calls Try.prog 41 #[.pointer p, .int .i64 d] w fun e w' => e = .returned (.int .i64 (0)) ∧ w = w' := by
  go_enter Try.func41, Try.ntmps41
  go_wp2_with (go_at_call 48; refine K.mono ?_; clear K; rintro e w' ⟨rfl, rfl⟩)
  go_ret
  exact ⟨rfl, rfl⟩
theorem rplState_in (h : QAt base w g a cap b gw vW ms n F R H rt mo s) (hn : n ≤ 16) {j : Nat} (hj : j < n) : Calls Try.prog 40 #[.pointer (some ⟨g, 0, none⟩), .int .i64 (j : Int)] w fun e w' => e = .returned (.int .i64 (s.X j).st) ∧ w = w' := by
  have KF := rplIs_yes h hn hj
  have h0 := h.head0 (by omega)
  have hj2 : (j : Int) < (n : Int) := by omega
  obtain ⟨-, c1, -, -, -, -⟩ := h.cells hj
  clear h
  go_enter Try.func40, Try.ntmps40
  go_wp2_with (go_at_call 48; refine KF.mono ?_; clear KF; rintro e w1 ⟨rfl, rfl⟩)
  go_ret
  exact ⟨rfl, rfl⟩
theorem rplWait_in (h : QAt base w g a cap b gw vW ms n F R H rt mo s) (hn : n ≤ 16) {j : Nat} (hj : j < n) : Calls Try.prog 41 #[.pointer (some ⟨g, 0, none⟩), .int .i64 (j : Int)] w fun e w' => e = .returned (.int .i64 (s.X j).wait) ∧ w = w' := by
  have KF := rplIs_yes h hn hj
  have h0 := h.head0 (by omega)
  have hj2 : (j : Int) < (n : Int) := by omega
  obtain ⟨-, -, -, -, c4, -⟩ := h.cells hj
  clear h
  go_enter Try.func41, Try.ntmps41
  go_wp2_with (go_at_call 48; refine KF.mono ?_; clear KF; rintro e w1 ⟨rfl, rfl⟩)
  go_ret
  exact ⟨rfl, rfl⟩
theorem rplOpened_in (h : QAt base w g a cap b gw vW ms n F R H rt mo s) (hn : n ≤ 16) {j : Nat} (hj : j < n) : Calls Try.prog 33 #[.pointer (some ⟨g, 0, none⟩), .int .i64 (j : Int)] w fun e w' => e = .returned (.int .i64 (opnP rt s j).1) ∧ QPost base w g a cap b gw vW ms n F R H rt mo (opnP rt s j).2 w' := by
  have KF := rplIs_yes h hn hj
  obtain ⟨-, c1, c2, c3, c4, z⟩ := h.cells hj
  obtain ⟨-, h1, h2, h3⟩ := h.head
  have h0 := h.head0 (by omega)
  have hj2 : (j : Int) < (n : Int) := by omega
  have hbg : b ≠ g := (h.b_ne (by omega)).1
  have hgb : g ≠ b := fun e => hbg e.symm
  have z1 := z (j * 5 + 1)
  have z2 := z (j * 5 + 2)
  have z3 := z (j * 5 + 3)
  have z4 := z (j * 5 + 4)
  have HP : Hid (QAt base w g a cap b gw vW ms n F R H rt mo s) := h
  by_cases e1 : (s.X j).st = 1
  · have E : opnP rt s j = (0, ⟨updB s.X j ⟨(s.X j).hs, 2, 0, 0, rt⟩, s.N, s.T⟩) := if_pos e1
    rw [E]
    rw [e1] at c1
    clear h z E e1
    go_enter Try.func33, Try.ntmps33
    go_wp2_with (go_at_call 48; refine KF.mono ?_; clear KF; rintro e w1 ⟨rfl, rfl⟩)
    obtain ⟨W, hW⟩ : ∃ W, W = ((w.setCell ⟨b, j * 5 + 1, none⟩ (.int .i64 2)).setCell ⟨b, j * 5 + 2, none⟩ (.int .i64 0)).setCell ⟨b, j * 5 + 3, none⟩ (.int .i64 0) := ⟨_, rfl⟩
    have PW : Hid (QAt base W g a cap b gw vW ms n F R H rt mo ⟨updB s.X j ⟨(s.X j).hs, 2, 0, 0, (s.X j).wait⟩, s.N, s.T⟩) := by rw [hW]; exact (((HP.out.pst hj 2).pload hj 0).pmay hj 0).to (by simp [updB_at, updB_two])
    have FW : Hid (Fr (QX b gw vW ms n) w W) := by rw [hW]; exact (((Fr.refl (S := QX b gw vW ms n) _).setS (.inl ⟨by omega, rfl⟩) _ _).setS (.inl ⟨by omega, rfl⟩) _ _).setS (.inl ⟨by omega, rfl⟩) _ _
    rw [← hW]
    clear hW h0 h1 h2 h3 c1 c2 c3 c4 z1 z2 z3 z4
    have h0 := PW.out.head0 (by omega)
    have h2 := PW.out.head.2.2.1
    obtain ⟨-, -, -, -, c4, z⟩ := PW.out.cells hj
    have z4 := z (j * 5 + 4)
    clear z
    go_region
    all_goals
      go_wp2_with (fail)
      go_ret
      exact ⟨rfl, vW, ((PW.out.pwait hj rt).later (Fr.refl _ _).drew).to (by simp [updB_at, updB_two]), (FW.out.setS (.inl ⟨by omega, rfl⟩) _ _).drew⟩
  · have E : opnP rt s j = (5, s) := if_neg e1
    rw [E]
    clear h z E
    go_enter Try.func33, Try.ntmps33
    go_wp2_with (go_at_call 48; refine KF.mono ?_; clear KF; rintro e w1 ⟨rfl, rfl⟩)
    go_ret
    exact ⟨rfl, QPost.refl HP.out⟩
theorem rplLimit_in (h : QAt base w g a cap b gw vW ms n F R H rt mo s) (hn : n ≤ 16) {j : Nat} (hj : j < n) (v : Int) : Calls Try.prog 36 #[.pointer (some ⟨g, 0, none⟩), .int .i64 (j : Int), .int .i64 v] w fun e w' => e = .returned (.int .i64 (limP s j v).1) ∧ QPost base w g a cap b gw vW ms n F R H rt mo (limP s j v).2 w' := by
  have KF := rplIs_yes h hn hj
  obtain ⟨-, c1, c2, c3, c4, z⟩ := h.cells hj
  obtain ⟨-, h1, h2, h3⟩ := h.head
  have h0 := h.head0 (by omega)
  have hj2 : (j : Int) < (n : Int) := by omega
  have hbg : b ≠ g := (h.b_ne (by omega)).1
  have hgb : g ≠ b := fun e => hbg e.symm
  have z1 := z (j * 5 + 1)
  have z2 := z (j * 5 + 2)
  have z3 := z (j * 5 + 3)
  have z4 := z (j * 5 + 4)
  have HP : Hid (QAt base w g a cap b gw vW ms n F R H rt mo s) := h
  by_cases e1 : (s.X j).st < 2
  · have E : limP s j v = (5, s) := if_pos e1
    rw [E]
    clear h z E
    go_enter Try.func36, Try.ntmps36
    go_wp2_with (go_at_call 48; refine KF.mono ?_; clear KF; rintro e w1 ⟨rfl, rfl⟩)
    go_ret
    exact ⟨rfl, QPost.refl HP.out⟩
  by_cases e2 : v < 0
  · have E : limP s j v = (1, s) := by unfold limP; rw [if_neg e1, if_pos e2]
    rw [E]
    clear h z E
    go_enter Try.func36, Try.ntmps36
    go_wp2_with (go_at_call 48; refine KF.mono ?_; clear KF; rintro e w1 ⟨rfl, rfl⟩)
    go_ret
    exact ⟨rfl, QPost.refl HP.out⟩
  · have E : limP s j v = (0, ⟨updB s.X j ⟨(s.X j).hs, (s.X j).st, v, (s.X j).load, (s.X j).wait⟩, s.N, s.T⟩) := by unfold limP; rw [if_neg e1, if_neg e2]
    rw [E]
    clear h z E
    go_enter Try.func36, Try.ntmps36
    go_wp2_with (go_at_call 48; refine KF.mono ?_; clear KF; rintro e w1 ⟨rfl, rfl⟩)
    go_ret
    exact ⟨rfl, vW, HP.out.pmay hj v, (Fr.refl (S := QX b gw vW ms n) _).setS (.inl ⟨by omega, rfl⟩) _ _⟩
theorem rplTake_in (h : QAt base w g a cap b gw vW ms n F R H rt mo s) (hn : n ≤ 16) {j : Nat} (hj : j < n) (l0 : 0 ≤ (s.X j).load) (lc : (s.X j).load ≤ 9000000000000000000) : Calls Try.prog 19 #[.pointer (some ⟨g, 0, none⟩), .int .i64 (j : Int)] w fun e w' => e = .returned (.int .i64 (takP s j).1) ∧ QPost base w g a cap b gw vW ms n F R H rt mo (takP s j).2 w' := by
  have KF := rplIs_yes h hn hj
  obtain ⟨-, c1, c2, c3, c4, z⟩ := h.cells hj
  obtain ⟨-, h1, h2, h3⟩ := h.head
  have h0 := h.head0 (by omega)
  have hj2 : (j : Int) < (n : Int) := by omega
  have hbg : b ≠ g := (h.b_ne (by omega)).1
  have hgb : g ≠ b := fun e => hbg e.symm
  have z1 := z (j * 5 + 1)
  have z2 := z (j * 5 + 2)
  have z3 := z (j * 5 + 3)
  have z4 := z (j * 5 + 4)
  have HP : Hid (QAt base w g a cap b gw vW ms n F R H rt mo s) := h
  by_cases e1 : (s.X j).st = 2
  · by_cases e2 : (s.X j).may ≤ (s.X j).load
    · have E : takP s j = (9, s) := by unfold takP; rw [if_pos e1, if_pos e2]
      rw [E]
      rw [e1] at c1
      have d2 : decide ((s.X j).may ≤ (s.X j).load) = true := decide_eq_true e2
      clear h z E e1
      go_enter Try.func19, Try.ntmps19
      go_wp2_with (go_at_call 48; refine KF.mono ?_; clear KF; rintro e w1 ⟨rfl, rfl⟩)
      go_quiet (fail)
      go_wp2_with (fail)
      go_ret
      exact ⟨rfl, vW, HP.out.later ((Fr.refl _ _).drewN _), (Fr.refl (S := QX b gw vW ms n) _).drewN _⟩
    · have E : takP s j = (0, ⟨updB s.X j ⟨(s.X j).hs, 2, (s.X j).may, (s.X j).load + 1, (s.X j).wait⟩, s.N, s.T⟩) := by unfold takP; rw [if_pos e1, if_neg e2]
      rw [E]
      rw [e1] at c1
      have d2 : decide ((s.X j).may ≤ (s.X j).load) = false := decide_eq_false e2
      have HE : Hid ((s.X j).st = 2) := e1
      clear h z E e1
      go_enter Try.func19, Try.ntmps19
      go_wp2_with (go_at_call 48; refine KF.mono ?_; clear KF; rintro e w1 ⟨rfl, rfl⟩)
      go_quiet (fail)
      go_wp2_with (fail)
      go_ret
      exact ⟨rfl, vW, ((HP.out.later ((Fr.refl _ _).drewN _)).pload hj _).to (by rw [HE.out]), ((Fr.refl (S := QX b gw vW ms n) _).drewN _).setS (.inl ⟨by omega, rfl⟩) _ _⟩
  · have E : takP s j = (5, s) := if_neg e1
    rw [E]
    clear h z E
    go_enter Try.func19, Try.ntmps19
    go_wp2_with (go_at_call 48; refine KF.mono ?_; clear KF; rintro e w1 ⟨rfl, rfl⟩)
    go_ret
    exact ⟨rfl, QPost.refl HP.out⟩
theorem rplempty_in (h : QAt base w g a cap b gw vW ms n F R H rt mo s) (hn : n ≤ 16) {j : Nat} (hj : j < n) (hN : s.N < 1000000000000000000) : Calls Try.prog 56 #[.pointer (some ⟨g, 0, none⟩), .int .i64 (j : Int)] w fun e w' => e = .returned (.tuple #[]) ∧ QPost base w g a cap b gw vW ms n F R H rt mo (empP s j) w' := by
  obtain ⟨-, c1, c2, -, -, z⟩ := h.cells hj
  obtain ⟨-, h1, h2, h3⟩ := h.head
  have h0 := h.head0 (by omega)
  have hj2 : (j : Int) < (n : Int) := by omega
  have hbg : b ≠ g := (h.b_ne (by omega)).1
  have hgb : g ≠ b := fun e => hbg e.symm
  have z1 := z (j * 5 + 1)
  have HP : Hid (QAt base w g a cap b gw vW ms n F R H rt mo s) := h
  by_cases e1 : (s.X j).st = 3
  · by_cases e2 : (s.X j).load = 0
    · have E : empP s j = lowP s j 1 := if_pos ⟨e1, e2⟩
      rw [E]
      have PW : Hid (QAt base (w.setCell ⟨b, j * 5 + 1, none⟩ (.int .i64 0)) g a cap b gw vW ms n F R H rt mo ⟨updB s.X j ⟨(s.X j).hs, 0, (s.X j).may, 0, (s.X j).wait⟩, s.N, s.T⟩) := (h.pst hj 0).to (by rw [e2])
      have KS := rqSet_in PW.out.whl PW.out.size hN (j : Int) 1 ⟨by omega, by omega⟩
      rw [e1] at c1
      rw [e2] at c2
      clear h z E e1 e2
      go_enter Try.func56, Try.ntmps56
      go_wp2_with (go_at_call 30; refine KS.mono ?_; clear KS; rintro e w2 ⟨rfl, uW, k1, k2, k3⟩)
      go_end0
      exact ⟨rfl, uW, PW.out.pwhl k1 k2, ((Fr.refl (S := QX b gw vW ms n) _).setS (.inl ⟨by omega, rfl⟩) _ _).trans (k2.mono (fun k _ e => .inr (.inr e)))⟩
    · have E : empP s j = s := if_neg (fun e => e2 e.2)
      rw [E]
      rw [e1] at c1
      have d1 : ((s.X j).load == 0) = false := by simpa using e2
      have d2 : decide ((s.X j).load = 0) = false := decide_eq_false e2
      clear h z E e1
      go_enter Try.func56, Try.ntmps56
      go_wp2_with (fail)
      go_end0
      exact ⟨rfl, QPost.refl HP.out⟩
  · have E : empP s j = s := if_neg (fun e => e1 e.1)
    rw [E]
    have d1 : ((s.X j).st == 3) = false := by simpa using e1
    have d2 : decide ((s.X j).st = 3) = false := decide_eq_false e1
    clear h z E
    go_enter Try.func56, Try.ntmps56
    go_wp2_with (fail)
    go_end0
    exact ⟨rfl, QPost.refl HP.out⟩
theorem rplDrain_in (h : QAt base w g a cap b gw vW ms n F R H rt mo s) (hn : n ≤ 16) {j : Nat} (hj : j < n) (hN : s.N < 1000000000000000000) : Calls Try.prog 35 #[.pointer (some ⟨g, 0, none⟩), .int .i64 (j : Int)] w fun e w' => e = .returned (.int .i64 (draP s j).1) ∧ QPost base w g a cap b gw vW ms n F R H rt mo (draP s j).2 w' := by
  have KF := rplIs_yes h hn hj
  obtain ⟨-, c1, c2, c3, c4, z⟩ := h.cells hj
  obtain ⟨-, h1, h2, h3⟩ := h.head
  have h0 := h.head0 (by omega)
  have hj2 : (j : Int) < (n : Int) := by omega
  have hbg : b ≠ g := (h.b_ne (by omega)).1
  have hgb : g ≠ b := fun e => hbg e.symm
  have z1 := z (j * 5 + 1)
  have z2 := z (j * 5 + 2)
  have z3 := z (j * 5 + 3)
  have z4 := z (j * 5 + 4)
  have HP : Hid (QAt base w g a cap b gw vW ms n F R H rt mo s) := h
  by_cases e1 : (s.X j).st = 2
  · have E : draP s j = (0, empP ⟨updB s.X j ⟨(s.X j).hs, 3, (s.X j).may, (s.X j).load, (s.X j).wait⟩, s.N, s.T⟩ j) := if_pos e1
    rw [E]
    have KE := rplempty_in (h.pst hj 3) hn hj hN
    rw [e1] at c1
    clear h z E e1 hN
    go_enter Try.func35, Try.ntmps35
    go_wp2_with (first | (go_at_call 48; refine KF.mono ?_; clear KF; rintro e w1 ⟨rfl, rfl⟩) | (go_at_call 56; refine KE.mono ?_; clear KE; rintro e w2 ⟨rfl, uW, p2, f2⟩))
    go_ret
    exact ⟨rfl, uW, p2, ((Fr.refl (S := QX b gw vW ms n) _).setS (.inl ⟨by omega, rfl⟩) _ _).trans f2⟩
  · have E : draP s j = (5, s) := if_neg e1
    rw [E]
    clear h z E
    go_enter Try.func35, Try.ntmps35
    go_wp2_with (go_at_call 48; refine KF.mono ?_; clear KF; rintro e w1 ⟨rfl, rfl⟩)
    go_ret
    exact ⟨rfl, QPost.refl HP.out⟩
theorem rplPut_in (h : QAt base w g a cap b gw vW ms n F R H rt mo s) (hn : n ≤ 16) {j : Nat} (hj : j < n) (hN : s.N < 1000000000000000000) (l0 : 0 ≤ (s.X j).load) (lc : (s.X j).load ≤ 9000000000000000000) : Calls Try.prog 37 #[.pointer (some ⟨g, 0, none⟩), .int .i64 (j : Int)] w fun e w' => e = .returned (.int .i64 (putP s j).1) ∧ QPost base w g a cap b gw vW ms n F R H rt mo (putP s j).2 w' := by
  have KF := rplIs_yes h hn hj
  obtain ⟨-, c1, c2, c3, c4, z⟩ := h.cells hj
  obtain ⟨-, h1, h2, h3⟩ := h.head
  have h0 := h.head0 (by omega)
  have hj2 : (j : Int) < (n : Int) := by omega
  have hbg : b ≠ g := (h.b_ne (by omega)).1
  have hgb : g ≠ b := fun e => hbg e.symm
  have z1 := z (j * 5 + 1)
  have z2 := z (j * 5 + 2)
  have z3 := z (j * 5 + 3)
  have z4 := z (j * 5 + 4)
  have HP : Hid (QAt base w g a cap b gw vW ms n F R H rt mo s) := h
  by_cases e1 : (s.X j).load = 0
  · have E : putP s j = (5, s) := if_pos e1
    rw [E]
    rw [e1] at c2
    clear h z E e1
    go_enter Try.func37, Try.ntmps37
    go_wp2_with (go_at_call 48; refine KF.mono ?_; clear KF; rintro e w1 ⟨rfl, rfl⟩)
    go_ret
    exact ⟨rfl, QPost.refl HP.out⟩
  · have E : putP s j = (0, empP ⟨updB s.X j ⟨(s.X j).hs, (s.X j).st, (s.X j).may, (s.X j).load - 1, (s.X j).wait⟩, s.N, s.T⟩ j) := if_neg e1
    rw [E]
    have KE := rplempty_in (h.pload hj ((s.X j).load - 1)) hn hj hN
    clear h z E hN
    go_enter Try.func37, Try.ntmps37
    go_wp2_with (first | (go_at_call 48; refine KF.mono ?_; clear KF; rintro e w1 ⟨rfl, rfl⟩) | (go_at_call 56; refine KE.mono ?_; clear KE; rintro e w2 ⟨rfl, uW, p2, f2⟩))
    go_ret
    exact ⟨rfl, uW, p2, ((Fr.refl (S := QX b gw vW ms n) _).setS (.inl ⟨by omega, rfl⟩) _ _).trans f2⟩
theorem rplProbe_in (h : QAt base w g a cap b gw vW ms n F R H rt mo s) (hn : n ≤ 16) {j : Nat} (hj : j < n) (v : Bool) {c : Int} (hi : InvH F c (s.X j).hs) (hc : c ≤ 9000000000000000000) : Calls Try.prog 38 #[.pointer (some ⟨g, 0, none⟩), .int .i64 (j : Int), .bool v] w fun e w' => e = .returned (.int .i64 0) ∧ QPost base w g a cap b gw vW ms n F R H rt mo (prbP F R H s j v) w' := by
  have KF := rplIs_yes h hn hj
  obtain ⟨c0, -, -, -, -, -⟩ := h.cells hj
  have h0 := h.head0 (by omega)
  have hj2 : (j : Int) < (n : Int) := by omega
  have KP := reProbe_in v (ms j) F R H c (s.X j).hs w (h.mod j hj) hi hc
  have HP : Hid (QAt base w g a cap b gw vW ms n F R H rt mo s) := h
  clear h hi hc
  go_enter Try.func38, Try.ntmps38
  go_wp2_with (first | (go_at_call 48; refine KF.mono ?_; clear KF; rintro e w1 ⟨rfl, rfl⟩) | (go_at_call 57; refine KP.mono ?_; clear KP; rintro e w2 ⟨rfl, p2, f2⟩))
  go_ret
  exact ⟨rfl, vW, HP.out.phs hj p2 f2, f2.mono (fun k _ e => .inr (.inl ⟨j, hj, e⟩))⟩
end
end Go.Proofs.Ytoiencoojkahmaa
