/- A pool: Tick. -/
import Derived.Test.YtoiencoojkahmaaJd
import Derived.Test.YtoiencoojkahmaaGi
namespace Go.Proofs.Ytoiencoojkahmaa
open Go.RowKit Go.Maps
set_option linter.unusedVariables false
set_option maxRecDepth 100000
set_option maxHeartbeats 4000000

theorem tckX_zero (X : Nat → Bk) : tckX X 0 = X := by funext i; simp [tckX]
theorem tckX_self (X : Nat → Bk) (k : Nat) : tckX X k k = X k := by simp [tckX]
theorem tckX_succ (X : Nat → Bk) (k : Nat) : updB (tckX X k) k ⟨tckS (tckX X k k).hs, (tckX X k k).st, (tckX X k k).may, (tckX X k k).load, (tckX X k k).wait⟩ = tckX X (k + 1) := by
  funext i
  rw [tckX_self]
  unfold updB tckX
  by_cases h : i = k
  · subst h; simp
  · rw [if_neg h]
    by_cases h2 : i < k
    · rw [if_pos h2, if_pos (by omega)]
    · rw [if_neg h2, if_neg (by omega)]
theorem dueX_nil (X : Nat → Bk) : dueX X [] = X := by funext i; simp [dueX]
theorem dueX_snoc (X : Nat → Bk) (D : List Int) (j : Nat) : updB (dueX X D) j ⟨(dueX X D j).hs, 1, (dueX X D j).may, (dueX X D j).load, (dueX X D j).wait⟩ = dueX X (D ++ [(j : Int)]) := by
  funext i
  unfold updB
  by_cases h : i = j
  · subst h
    unfold dueX
    by_cases h2 : (i : Int) ∈ D <;> simp [h2]
  · rw [if_neg h]
    unfold dueX
    have h3 : ¬ (i : Int) = (j : Int) := by omega
    by_cases h2 : (i : Int) ∈ D <;> simp [h2, h3]
theorem take_snoc {D : List Int} {i : Nat} {d : Int} (h : D[i]? = some d) : D.take (i + 1) = D.take i ++ [d] := by
  rw [List.take_add_one, h]
  rfl
section
variable {base : Nat} {w w' : World} {g b gw mb : Nat} {sl sl2 : List Value} {ms : Nat → Nat} {n : Nat} {F R H rt mo : Int} {s : Pl}
/-- Its wheel is another. -/
theorem PAt.pwhl (h : PAt base w g b gw mb sl ms n F R H rt mo s) {N : Nat} {T : List (Int × Int)} (hw : WAt base w' gw mb sl2 N T) (f : Fr (WX gw mb sl) w w') : PAt base w' g b gw mb sl2 ms n F R H rt mo ⟨s.X, N, T⟩ := by
  obtain ⟨n1, n2, n3⟩ := h.b_ne
  obtain ⟨cs, hc, hr⟩ := h.row
  exact ⟨(f.block g (lt_of_heap h.blk) (wx_tag h.whl h.blk (by decide) (by decide))).trans h.blk, ⟨cs, (f.block b (lt_of_heap hc) n3).trans hc, hr⟩, fun i hi => (h.mod i hi).fr f (wx_tag h.whl (h.mod i hi) (by decide) (by decide)), hw, h.nd, h.bg, h.bb, h.bm⟩
/-- What Tick answers and leaves. -/
def PTickAs (base : Nat) (w : World) (g b gw mb : Nat) (sl : List Value) (ms : Nat → Nat) (n : Nat) (F R H rt mo : Int) (s : Pl) (e : Ending) (w' : World) : Prop :=
  ∃ a m c, e = .returned (.slice a m c) ∧ OwnAt w' 3 (.slice a m c) (iv (dueT s.N s.T)) ∧ (∀ k, (Value.slice a m c).ownBlock = some k → w.heap.size ≤ k) ∧ PPost base w g b gw mb sl ms n F R H rt mo (ticP n s) w'
theorem plTick_in (h : PAt base w g b gw mb sl ms n F R H rt mo s) (hb : base ≤ w.heap.size) (hn : n ≤ 16) (hF : 1 ≤ F) {c : Int} (hi : InvP n F mo c s) (hN : s.N < 1000000000000000000) :
    Calls Try.prog 13 #[.pointer (some ⟨g, 0, none⟩)] w (PTickAs base w g b gw mb sl ms n F R H rt mo s) := by
  obtain ⟨h0, h1, -, -⟩ := h.head
  have KM := plmade_in g gw w h1
  have HP : Hid (PAt base w g b gw mb sl ms n F R H rt mo s) := h
  have HI : Hid (InvP n F mo c s) := hi
  have HB : Hid (base ≤ w.heap.size) := hb
  clear h hi hb
  go_enter Try.func13, Try.ntmps13
  go_wp2_with (go_at_call 42; refine KM.mono ?_; clear KM; rintro e w1 ⟨rfl, rfl⟩)
  go_loopw [15] (fun x15 wr => ∃ k : Nat, x15 = .int .i64 (k : Int) ∧ k ≤ n ∧ Hid (PAt base wr g b gw mb sl ms n F R H rt mo ⟨tckX s.X k, s.N, s.T⟩ ∧ Fr (PX b gw mb sl ms n) w wr)) (fun x15 _ => n - (intOf x15).toNat)
  case atStart => exact ⟨0, rfl, by omega, by rw [tckX_zero]; exact HP.out, Fr.refl _ _⟩
  case round =>
    clear h0 h1
    obtain ⟨k, rfl, hkn, HS⟩ := hrel
    by_cases hlt : k < n
    · have hlt2 : (k : Int) < (n : Int) := by omega
      obtain ⟨h0, -, -, -⟩ := HS.out.1.head
      obtain ⟨c0, -, -, -, -, -⟩ := HS.out.1.cells hlt
      have KT := eTick_in (ms k) F R H c _ wr (HS.out.1.mod k hlt) hF (by show InvH F c (tckX s.X k k).hs; rw [tckX_self]; exact (HI.out.b k hlt).h)
      go_wp2_with (go_at_call 43; refine KT.mono ?_; clear KT; rintro e w2 ⟨rfl, p2, f2⟩)
      go_roundw
      case rel => exact ⟨k + 1, by go_num, by omega, (HS.out.1.phs hlt p2 f2).to (by rw [tckX_succ]), HS.out.2.trans (f2.mono (fun q _ e => .inr (.inl ⟨k, hlt, e⟩)))⟩
      case measure => simp [intOf]; omega
    · have hge : k = n := by omega
      subst hge
      have hnlt : ¬ (k : Int) < (k : Int) := by omega
      obtain ⟨-, h1, -, -⟩ := HS.out.1.head
      have KW := qTick_in HS.out.1.whl (Nat.le_trans HB.out HS.out.2.size) hN
      obtain ⟨D, hD⟩ : ∃ D, dueT s.N s.T = D := ⟨_, rfl⟩
      have HD : Hid (dueT s.N s.T = D) := hD
      have HJ : Hid (∀ d ∈ D, ∃ i : Nat, d = (i : Int) ∧ i < k) := fun d hd => by
        obtain ⟨i, e1, e2, -⟩ := HI.out.due (d := d) (by rw [hD]; exact hd)
        exact ⟨i, e1, e2⟩
      have hfew : D.length ≤ 1024 := by rw [← hD]; exact due_few HI.out.t
      clear hD hlt hkn
      go_wp2_with (go_at_call 44; refine KW.mono ?_; clear KW; rintro e w2 ⟨da, dm, dc, rfl, o2, q2, sl2, p2, f2, -⟩)
      have HO2 : Hid (OwnAt w2 3 (.slice da dm dc) (iv D)) := by have := o2; rw [← HD.out]; exact this
      have HQ2 : Hid (∀ q, (Value.slice da dm dc).ownBlock = some q → w.heap.size ≤ q) := fun q hq => Nat.le_trans HS.out.2.size (q2 q hq)
      have HP2 : Hid (PAt base w2 g b gw mb sl2 ms k F R H rt mo ⟨tckX s.X k, s.N + 1, restT s.N s.T⟩ ∧ Fr (PX b gw mb sl ms k) w w2) := ⟨HS.out.1.pwhl p2 f2, HS.out.2.trans (f2.mono (fun q _ e => .inr (.inr e)))⟩
      have hdm : D.length = dm := HO2.out.lenI.1.symm
      have HM2 : Hid (D.length = dm) := hdm
      rw [hdm] at hfew
      clear o2 q2 p2 f2 HS h1 hdm
      go_loopw [35] (fun x35 wr => ∃ i : Nat, x35 = .int .i64 (i : Int) ∧ i ≤ dm ∧ Hid (PAt base wr g b gw mb sl2 ms k F R H rt mo ⟨dueX (tckX s.X k) (D.take i), s.N + 1, restT s.N s.T⟩ ∧ Fr (PX b gw mb sl ms k) w wr ∧ OwnAt wr 3 (.slice da dm dc) (iv D))) (fun x35 _ => dm - (intOf x35).toNat)
      case atStart => exact ⟨0, rfl, by omega, by rw [List.take_zero, dueX_nil]; exact HP2.out.1, HP2.out.2, HO2.out⟩
      case round =>
        clear HP2 HO2
        obtain ⟨i, rfl, hin, HT⟩ := hrel
        by_cases hlt : i < dm
        · have hlt2 : (i : Int) < (dm : Int) := by omega
          obtain ⟨d, hd⟩ : ∃ d, D[i]? = some d := ⟨_, List.getElem?_eq_getElem (by rw [HM2.out]; exact hlt)⟩
          obtain ⟨j, rfl, hj⟩ := HJ.out d (List.mem_of_getElem? hd)
          obtain ⟨g1, o1, rfl, hg1, a0⟩ := HT.out.2.2.ints i _ hd
          have hj2 : (j : Int) < (k : Int) := by omega
          obtain ⟨h0, -, -, -⟩ := HT.out.1.head
          obtain ⟨-, c1, -, -, -, z⟩ := HT.out.1.cells hj
          have z1 := z (j * 5 + 1)
          have HE : Hid (D.take (i + 1) = D.take i ++ [(j : Int)]) := take_snoc hd
          have HNB : Hid (∀ q, (Value.slice (some ⟨g1, o1, none⟩) dm dc).ownBlock = some q → q ≠ b) := fun q hq => by
            obtain ⟨cur, hc⟩ := own_tagI HT.out.2.2 q hq
            obtain ⟨cs, hcs, -⟩ := HT.out.1.row
            exact tag_neI hc hcs (by decide)
          clear hd z
          go_wp2_with (fail)
          go_roundw
          case rel => exact ⟨i + 1, by go_num, by omega, (HT.out.1.pst hj 1).to (by rw [HE.out, ← dueX_snoc]), HT.out.2.1.setS (.inl rfl) _ _, HT.out.2.2.fr ((Fr.refl (fun q => q = b) _).setB _ _) HNB.out⟩
          case measure => simp [intOf]; omega
        · have hge : i = dm := by omega
          have HG : Hid (D.take i = D) := List.take_of_length_le (by rw [HM2.out]; omega)
          go_wp2_with (fail)
          go_ret
          refine ⟨da, dm, dc, rfl, by rw [HD.out]; exact HT.out.2.2, HQ2.out, sl2, HT.out.1.to ?_, HT.out.2.1⟩
          rw [HG.out, ← HD.out]
          rfl
end
end Go.Proofs.Ytoiencoojkahmaa
