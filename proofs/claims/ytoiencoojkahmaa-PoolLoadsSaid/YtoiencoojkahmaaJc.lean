/- A pool: lower, and the calls that change a backend. -/
import Derived.Test.YtoiencoojkahmaaJb
import Derived.Test.YtoiencoojkahmaaGg
namespace Go.Proofs.Ytoiencoojkahmaa
open Go.RowKit Go.Maps
set_option linter.unusedVariables false
set_option maxRecDepth 100000
set_option maxHeartbeats 4000000

/-- What lower leaves, cell by cell. -/
def LowAs (base : Nat) (w : World) (g b gw mb : Nat) (sl : List Value) (cs : Array Value) (hd : Array Value) (j N : Nat) (T : List (Int × Int)) (a : Int) (w' : World) : Prop :=
  ∃ sl', w'.heap[g]? = some (.cells hd 51 (0, 0)) ∧ w'.heap[b]? = some (.cells ((cs.setIfInBounds (j * 5 + 1) (.int .i64 0)).setIfInBounds (j * 5 + 3) (.int .i64 0)) 61 (0, 0)) ∧ WAt base w' gw mb sl' N (setT N T (j : Int) a).2 ∧ Fr (fun k => k = b ∨ WX gw mb sl k) w w'
theorem pllower_core {base : Nat} {w : World} {g b gw mb : Nat} {sl : List Value} {n : Nat} {rt mo : Int} {cs : Array Value} {N : Nat} {T : List (Int × Int)}
    (hg : w.heap[g]? = some (.cells #[.slice (some ⟨b, 0, none⟩) n n, .pointer (some ⟨gw, 0, none⟩), .int .i64 rt, .int .i64 mo] 51 (0, 0))) (hc : w.heap[b]? = some (.cells cs 61 (0, 0)))
    {j : Nat} (hj : j < n) (hn : n ≤ 16) {x1 x3 : Value} (s1 : cs[j * 5 + 1]? = some x1) (s3 : cs[j * 5 + 3]? = some x3) (hW : WAt base w gw mb sl N T) (hb : base ≤ w.heap.size) (hN : N < 1000000000000000000) (a : Int) :
    Calls Try.prog 27 #[.pointer (some ⟨g, 0, none⟩), .int .i64 (j : Int), .int .i64 a] w fun e w' => e = .returned (.tuple #[]) ∧ LowAs base w g b gw mb sl cs #[.slice (some ⟨b, 0, none⟩) n n, .pointer (some ⟨gw, 0, none⟩), .int .i64 rt, .int .i64 mo] j N T a w' := by
  have c0 : w.cell? ⟨g, 0, none⟩ = some (.slice (some ⟨b, 0, none⟩) n n) := cell_of_heap hg rfl
  have d1 : w.cell? ⟨b, j * 5 + 1, none⟩ = some x1 := cell_of_heap hc s1
  have d3 : w.cell? ⟨b, j * 5 + 3, none⟩ = some x3 := cell_of_heap hc s3
  have z1 : w.frozen? ⟨b, j * 5 + 1, none⟩ = false := frozen_of_heap hc
  have z3 : w.frozen? ⟨b, j * 5 + 3, none⟩ = false := frozen_of_heap hc
  have hbg : b ≠ g := tag_neI hc hg (by decide)
  have hbw := wx_tag hW hc (by decide) (by decide)
  have hgw := wx_tag hW hg (by decide) (by decide)
  obtain ⟨w1, hw1⟩ : ∃ w1, w1 = (w.setCell ⟨b, j * 5 + 1, none⟩ (.int .i64 0)).setCell ⟨b, j * 5 + 3, none⟩ (.int .i64 0) := ⟨_, rfl⟩
  have F1 : Hid (Fr (fun k => k = b) w w1) := by rw [hw1]; exact ((Fr.refl _ _).setB _ _).setB _ _
  have B1 : Hid (w1.heap[b]? = some (.cells ((cs.setIfInBounds (j * 5 + 1) (.int .i64 0)).setIfInBounds (j * 5 + 3) (.int .i64 0)) 61 (0, 0))) := by rw [hw1]; exact heap_set _ (heap_set _ hc)
  have G1 : Hid (w1.heap[g]? = some (.cells #[.slice (some ⟨b, 0, none⟩) n n, .pointer (some ⟨gw, 0, none⟩), .int .i64 rt, .int .i64 mo] 51 (0, 0))) := (F1.out.block g (lt_of_heap hg) (fun e => hbg e.symm)).trans hg
  have W1 : Hid (WAt base w1 gw mb sl N T) := hW.fr F1.out (fun k hk e => hbw (e ▸ hk))
  have e1 : w1.cell? ⟨g, 1, none⟩ = some (.pointer (some ⟨gw, 0, none⟩)) := cell_of_heap G1.out rfl
  have KS := qSet_in W1.out (Nat.le_trans hb F1.out.size) hN (j : Int) a ⟨by omega, by omega⟩
  have HN : Hid (¬ WX gw mb sl b ∧ ¬ WX gw mb sl g) := ⟨hbw, hgw⟩
  have hj2 : (j : Int) < (n : Int) := by omega
  clear hg hc s1 s3 hW hb hbg hbw hgw
  go_enter Try.func27, Try.ntmps27
  go_upto_region 2 with (fail)
  rw [← hw1]
  clear hw1 c0 d1 d3 z1 z3
  go_wp2_with (go_at_call 51; refine KS.mono ?_; clear KS; rintro e w2 ⟨rfl, hp⟩)
  go_end0
  obtain ⟨sl', k1, k2, k3⟩ := hp
  exact ⟨rfl, sl', (k2.block g (lt_of_heap G1.out) HN.out.2).trans G1.out, (k2.block b (lt_of_heap B1.out) HN.out.1).trans B1.out, k1, (F1.out.mono (fun k _ e => .inl e)).trans (k2.mono (fun k _ e => .inr e))⟩
section
variable {base : Nat} {w : World} {g b gw mb : Nat} {sl : List Value} {ms : Nat → Nat} {n : Nat} {F R H rt mo : Int} {s : Pl}
/-- What a call leaves. -/
def PPost (base : Nat) (w : World) (g b gw mb : Nat) (sl : List Value) (ms : Nat → Nat) (n : Nat) (F R H rt mo : Int) (s : Pl) (w' : World) : Prop := ∃ sl', PAt base w' g b gw mb sl' ms n F R H rt mo s ∧ Fr (PX b gw mb sl ms n) w w'
theorem PPost.refl (h : PAt base w g b gw mb sl ms n F R H rt mo s) : PPost base w g b gw mb sl ms n F R H rt mo s w := ⟨sl, h, Fr.refl _ _⟩
theorem pllower_in (h : PAt base w g b gw mb sl ms n F R H rt mo s) (hb : base ≤ w.heap.size) (hn : n ≤ 16) (hN : s.N < 1000000000000000000) {j : Nat} (hj : j < n) (a : Int) :
    Calls Try.prog 27 #[.pointer (some ⟨g, 0, none⟩), .int .i64 (j : Int), .int .i64 a] w fun e w' => e = .returned (.tuple #[]) ∧ PPost base w g b gw mb sl ms n F R H rt mo (lowP s j a) w' := by
  obtain ⟨n1, n2, n3⟩ := h.b_ne
  obtain ⟨cs, hc, hr⟩ := h.row
  obtain ⟨q0, q1⟩ := hr j hj
  refine (pllower_core h.blk hc hj hn (q1 0 (by omega)) (q1 2 (by omega)) h.whl hb hN a).mono ?_
  rintro e w' ⟨rfl, sl', k1, k2, k3, k4⟩
  refine ⟨rfl, sl', ⟨k1, ⟨_, k2, ?_⟩, fun i hi => ?_, k3, h.nd, h.bg, h.bb, h.bm⟩, k4.mono (fun k _ e => ?_)⟩
  · have r1 := hr.set hj 0 (by omega) ⟨(s.X j).hs, 0, (s.X j).may, (s.X j).load, (s.X j).wait⟩ (v := .int .i64 0) rfl (fun l hl hne => by match l, hl, hne with | 1, _, _ => rfl | 2, _, _ => rfl | 3, _, _ => rfl)
    have r2 := r1.set hj 2 (by omega) ⟨(s.X j).hs, 0, (s.X j).may, 0, (s.X j).wait⟩ (v := .int .i64 0) rfl (fun l hl hne => by rw [updB_at]; match l, hl, hne with | 0, _, _ => rfl | 1, _, _ => rfl | 3, _, _ => rfl)
    rw [updB_two] at r2
    exact r2
  · have : HM w' (ms i) F R H (s.X i).hs := (h.mod i hi).fr k4 (by
      rintro (e | e)
      · exact n2 i hi e
      · exact wx_tag h.whl (h.mod i hi) (by decide) (by decide) e)
    show HM w' (ms i) F R H (updB s.X j _ i).hs
    unfold updB
    split
    · rename_i e
      have e2 : (s.X j).hs = (s.X i).hs := by rw [e]
      dsimp only
      rw [e2]
      exact this
    · exact this
  · rcases e with e | e
    · exact .inl e
    · exact .inr (.inr e)
end
end Go.Proofs.Ytoiencoojkahmaa
