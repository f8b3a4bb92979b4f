/- The document's pool: Tick. -/
import Derived.Test.YtoiencoojkahmaaJm
namespace Go.Proofs.Ytoiencoojkahmaa
open Go.RowKit Go.Maps
set_option linter.unusedVariables false
set_option maxRecDepth 100000
set_option maxHeartbeats 4000000

/-- One that is due, and was not looked at yet, is down. -/
theorem due_down {n : Nat} {F mo c : Int} {s : Pl} (h : InvP n F mo c s) {i j : Nat} (hd : (dueT s.N s.T)[i]? = some (j : Int)) : (dueX (tckX s.X n) ((dueT s.N s.T).take i) j).st = 0 ∧ j < n := by
  obtain ⟨j', e1, e2, e3⟩ := h.due (List.mem_of_getElem? hd)
  obtain rfl : j = j' := by omega
  have hn := due_nodup h.t
  have hni : (j : Int) ∉ (dueT s.N s.T).take i := fun hm => by
    have h2 := hn
    rw [← List.take_append_drop i (dueT s.N s.T), List.nodup_append] at h2
    exact h2.2.2 _ hm _ (List.mem_of_getElem? (i := 0) (by rw [List.getElem?_drop]; exact hd)) rfl
  refine ⟨?_, e2⟩
  unfold dueX
  rw [if_neg hni]
  unfold tckX
  rw [if_pos e2]
  exact e3
section
variable {base : Nat} {w w' : World} {g : Nat} {a : Option Addr} {cap b gw : Nat} {vW uW : Value} {ms : Nat → Nat} {n : Nat} {F R H rt mo : Int} {s : Pl}
/-- What the document's Tick answers and leaves. -/
def QTickAs (base : Nat) (w : World) (g : Nat) (a : Option Addr) (cap b gw : Nat) (vW : Value) (ms : Nat → Nat) (n : Nat) (F R H rt mo : Int) (s : Pl) (e : Ending) (w' : World) : Prop :=
  ∃ p m c, e = .returned (.slice p m c) ∧ OwnAt w' 3 (.slice p m c) (iv (dueT s.N s.T)) ∧ (∀ k, (Value.slice p m c).ownBlock = some k → w.heap.size ≤ k) ∧ QPost base w g a cap b gw vW ms n F R H rt mo (ticP n s) w'
/-- Those that are due, as far as they were looked at. -/
structure DuS (base : Nat) (w w2 : World) (g : Nat) (a : Option Addr) (cap b gw : Nat) (vW uW : Value) (ms : Nat → Nat) (n : Nat) (F R H rt mo : Int) (X : Nat → Bk) (N : Nat) (T : List (Int × Int)) (D : List Int) (i : Nat) (due out : Value) (wr : World) : Prop where
  q : QAt base wr g a cap b gw uW ms n F R H rt mo ⟨dueX X (D.take i), N, T⟩
  f : Fr (QX b gw vW ms n) w wr
  d : OwnAt wr 3 due (iv D)
  o : OwnAt wr 3 out (iv (D.take i))
  dl : ∀ k, due.ownBlock = some k → k < w2.heap.size
  dw : ∀ k, due.ownBlock = some k → w.heap.size ≤ k
  ol : ∀ k, out.ownBlock = some k → w2.heap.size ≤ k
  s2 : w.heap.size ≤ w2.heap.size
  s3 : w2.heap.size ≤ wr.heap.size
theorem DuS.later {w2 wr : World} {X : Nat → Bk} {N : Nat} {T : List (Int × Int)} {D : List Int} {i : Nat} {due out : Value} (h : DuS base w w2 g a cap b gw vW uW ms n F R H rt mo X N T D i due out wr) (f : Fr (fun _ => False) wr w') : DuS base w w2 g a cap b gw vW uW ms n F R H rt mo X N T D i due out w' :=
  ⟨h.q.later f, h.f.trans (f.mono (fun _ _ e => e.elim)), h.d.fr f (fun _ _ => id), h.o.fr f (fun _ _ => id), h.dl, h.dw, h.ol, h.s2, Nat.le_trans h.s3 f.size⟩
/-- One is dialled, and told. -/
theorem DuS.next {w2 wr w5 : World} {X : Nat → Bk} {N : Nat} {T : List (Int × Int)} {D : List Int} {i j : Nat} {due out out2 : Value} (h : DuS base w w2 g a cap b gw vW uW ms n F R H rt mo X N T D i due out wr) (hj : j < n) (hd : D[i]? = some (j : Int)) (f : Fr (fun k => out.ownBlock = some k) (wr.setCell ⟨b, j * 5 + 1, none⟩ (.int .i64 1)).drew w5) (ho : OwnAt w5 3 out2 (iv (D.take i ++ [(j : Int)]))) (hl : out2.ownBlock = out.ownBlock ∨ ∃ k, out2.ownBlock = some k ∧ (wr.setCell ⟨b, j * 5 + 1, none⟩ (.int .i64 1)).drew.heap.size ≤ k) :
    DuS base w w2 g a cap b gw vW uW ms n F R H rt mo X N T D (i + 1) due out2 w5 := by
  have hn : 0 < n := by omega
  obtain ⟨-, cs, hcs, -⟩ := h.q.row hn
  have f1 : Fr (fun k => k = b) wr (wr.setCell ⟨b, j * 5 + 1, none⟩ (.int .i64 1)).drew := ((Fr.refl _ _).setB _ _).drew
  have nb : ∀ v xs, OwnAt wr 3 v xs → ∀ k, v.ownBlock = some k → k ≠ b := fun v xs hv k hk => by
    obtain ⟨cur, hc⟩ := own_tagI hv k hk
    exact tag_neI hc hcs (by decide)
  have q1 : QAt base (wr.setCell ⟨b, j * 5 + 1, none⟩ (.int .i64 1)).drew g a cap b gw uW ms n F R H rt mo ⟨dueX X (D.take (i + 1)), N, T⟩ := ((h.q.pst hj 1).to (by rw [take_snoc hd, ← dueX_snoc])).later (Fr.refl _ _).drew
  have o1 := h.o.fr f1 (nb _ _ h.o)
  have d1 := h.d.fr f1 (nb _ _ h.d)
  have tg : ∀ k, out.ownBlock = some k → ∃ cur, (wr.setCell ⟨b, j * 5 + 1, none⟩ (.int .i64 1)).drew.heap[k]? = some (.cells cur 3 (0, 0)) := fun k hk => own_tagI o1 k hk
  refine ⟨q1.fr f ?_ ?_, (((h.f.trans (f1.mono (fun k _ e => .inl ⟨hn, e⟩))).mono (T := fun k => QX b gw vW ms n k ∨ w.heap.size ≤ k) (fun _ _ e => .inl e)).trans (f.mono (fun k _ e => .inr (Nat.le_trans h.s2 (h.ol k e))))).mono (fun k hk e => e.elim id (fun e => absurd e (by omega))), d1.fr f (fun k hk e => ?_), by rw [take_snoc hd]; exact ho, h.dl, h.dw, fun k hk => ?_, h.s2, Nat.le_trans h.s3 (Nat.le_trans f1.size f.size)⟩
  · intro e
    obtain ⟨cur, hc⟩ := tg g e
    exact tag_neI hc q1.blk (by decide) rfl
  · intro k hk e
    obtain ⟨cur, hc⟩ := tg k e
    exact q1.tag hc (by decide) (by decide) (by decide) (by decide) hk
  · have := h.dl k hk; have := h.ol k e; omega
  · rcases hl with e | ⟨k', e, hk'⟩
    · rw [e] at hk; exact h.ol k hk
    · rw [e] at hk; cases hk; have := h.s3; have := f1.size; omega
/-- Behind the store of one's state: what is due and what was told are as they were. -/
theorem DuS.mid {w2 wr : World} {X : Nat → Bk} {N : Nat} {T : List (Int × Int)} {D : List Int} {i j : Nat} {due out : Value} (h : DuS base w w2 g a cap b gw vW uW ms n F R H rt mo X N T D i due out wr) (hj : j < n) : OwnAt (wr.setCell ⟨b, j * 5 + 1, none⟩ (.int .i64 1)).drew 3 due (iv D) ∧ OwnAt (wr.setCell ⟨b, j * 5 + 1, none⟩ (.int .i64 1)).drew 3 out (iv (D.take i)) := by
  obtain ⟨-, cs, hcs, -⟩ := h.q.row (by omega)
  have f1 : Fr (fun k => k = b) wr (wr.setCell ⟨b, j * 5 + 1, none⟩ (.int .i64 1)).drew := ((Fr.refl _ _).setB _ _).drew
  have nb : ∀ v xs, OwnAt wr 3 v xs → ∀ k, v.ownBlock = some k → k ≠ b := fun v xs hv k hk => by
    obtain ⟨cur, hc⟩ := own_tagI hv k hk
    exact tag_neI hc hcs (by decide)
  exact ⟨h.d.fr f1 (nb _ _ h.d), h.o.fr f1 (nb _ _ h.o)⟩
theorem rplTick_in (h : QAt base w g a cap b gw vW ms n F R H rt mo s) (hn : n ≤ 16) {c : Int} (hi : InvP n F mo c s) (hN : s.N < 1000000000000000000) :
    Calls Try.prog 32 #[.pointer (some ⟨g, 0, none⟩)] w (QTickAs base w g a cap b gw vW ms n F R H rt mo s) := by
  have HP : Hid (QAt base w g a cap b gw vW ms n F R H rt mo s) := h
  have HI : Hid (InvP n F mo c s) := hi
  clear h hi
  go_enter Try.func32, Try.ntmps32
  go_wp2_with (fail)
  go_loopw [3] (fun x3 wr => ∃ k : Nat, x3 = .int .i64 (k : Int) ∧ k ≤ n ∧ Hid (QAt base wr g a cap b gw vW ms n F R H rt mo ⟨tckX s.X k, s.N, s.T⟩ ∧ Fr (QX b gw vW ms n) w wr)) (fun x3 _ => n - (intOf x3).toNat)
  case atStart => exact ⟨0, rfl, by omega, by rw [tckX_zero]; exact HP.out, Fr.refl _ _⟩
  case round =>
    obtain ⟨k, rfl, hkn, HS⟩ := hrel
    by_cases hlt : k < n
    · have hlt2 : (k : Int) < (n : Int) := by omega
      have h0 := HS.out.1.head0 (by omega)
      obtain ⟨c0, -, -, -, -, -⟩ := HS.out.1.cells hlt
      have KT := reTick_in (ms k) F R H c _ wr (HS.out.1.mod k hlt) (by show InvH F c (tckX s.X k k).hs; rw [tckX_self]; exact (HI.out.b k hlt).h)
      go_wp2_with (go_at_call 54; refine KT.mono ?_; clear KT; rintro e w2 ⟨rfl, p2, f2⟩)
      go_roundw
      case rel => exact ⟨k + 1, by go_num, by omega, (HS.out.1.phs hlt p2 f2).to (by rw [tckX_succ]), HS.out.2.trans (f2.mono (fun q _ e => .inr (.inl ⟨k, hlt, e⟩)))⟩
      case measure => simp [intOf]; omega
    · have hge : k = n := by omega
      subst hge
      have hnlt : ¬ (k : Int) < (k : Int) := by omega
      have h0 := HS.out.1.head.1
      have h1 := HS.out.1.head.2.1
      have KW := rqTick_in HS.out.1.whl HS.out.1.size hN
      obtain ⟨D, hD⟩ : ∃ D, dueT s.N s.T = D := ⟨_, rfl⟩
      have HD : Hid (dueT s.N s.T = D) := hD
      have HJ : Hid (∀ d ∈ D, ∃ i : Nat, d = (i : Int) ∧ i < k) := fun d hd => by
        obtain ⟨i, e1, e2, -⟩ := HI.out.due (d := d) (by rw [hD]; exact hd)
        exact ⟨i, e1, e2⟩
      have HZ : Hid (∀ (i j : Nat), D[i]? = some (j : Int) → (dueX (tckX s.X k) (D.take i) j).st = 0) := fun i j hd => by rw [← hD] at hd ⊢; exact (due_down HI.out hd).1
      have hfew : D.length ≤ 1024 := by rw [← hD]; exact due_few HI.out.t
      clear hD hlt hkn
      go_wp2_with (go_at_call 55; refine KW.mono ?_; clear KW; rintro e w2 ⟨da, dm, dc, rfl, o2, q2, uW, p2, f2, -⟩)
      have HO2 : Hid (OwnAt w2 3 (.slice da dm dc) (iv D)) := by have := o2; rw [← HD.out]; exact this
      have HQ2 : Hid (∀ q, (Value.slice da dm dc).ownBlock = some q → w.heap.size ≤ q) := fun q hq => Nat.le_trans HS.out.2.size (q2 q hq)
      have HS2 : Hid (DuS base w w2 g a cap b gw vW uW ms k F R H rt mo (tckX s.X k) (s.N + 1) (restT s.N s.T) D 0 (.slice da dm dc) (.slice none 0 0) w2) := ⟨(HS.out.1.pwhl p2 f2).to (by rw [List.take_zero, dueX_nil]), HS.out.2.trans (f2.mono (fun q _ e => .inr (.inr e))), HO2.out, by rw [List.take_zero]; exact OwnAt.nil _ _, fun q hq => HO2.out.lt q hq, HQ2.out, fun q hq => by simp [Value.ownBlock] at hq, Nat.le_trans HS.out.2.size f2.size, Nat.le_refl _⟩
      have hdm : D.length = dm := HO2.out.lenI.1.symm
      have HM2 : Hid (D.length = dm) := hdm
      rw [hdm] at hfew
      clear o2 q2 p2 f2 HS h1 h0 hdm HO2 HQ2
      go_wp2_with (fail)
      go_loopw [5, 6] (fun x5 x6 wr => ∃ (i om oc : Nat) (oa : Option Addr), x5 = .slice oa om oc ∧ x6 = .int .i64 (i : Int) ∧ i ≤ dm ∧ Hid (DuS base w w2 g a cap b gw vW uW ms k F R H rt mo (tckX s.X k) (s.N + 1) (restT s.N s.T) D i (.slice da dm dc) (.slice oa om oc) wr)) (fun _ x6 _ => dm - (intOf x6).toNat)
      case atStart => exact ⟨0, 0, 0, none, rfl, rfl, by omega, HS2.out⟩
      case round =>
        clear HS2
        obtain ⟨i, om, oc, oa, rfl, rfl, hin, HT⟩ := hrel
        by_cases hlt : i < dm
        · have hlt2 : (i : Int) < (dm : Int) := by omega
          obtain ⟨d, hd⟩ : ∃ d, D[i]? = some d := ⟨_, List.getElem?_eq_getElem (by rw [HM2.out]; exact hlt)⟩
          obtain ⟨j, rfl, hj⟩ := HJ.out d (List.mem_of_getElem? hd)
          obtain ⟨g1, o1, rfl, hg1, a0⟩ := HT.out.d.ints i _ hd
          have hj2 : (j : Int) < (k : Int) := by omega
          have h0 := HT.out.q.head0 (by omega)
          obtain ⟨-, c1, -, -, -, z⟩ := HT.out.q.cells hj
          replace c1 : wr.cell? ⟨b, j * 5 + 1, none⟩ = some (.int .i64 0) := by rw [c1]; show some (Value.int .i64 (dueX (tckX s.X k) (D.take i) j).st) = _; rw [HZ.out i j hd]
          have z1 := z (j * 5 + 1)
          have HDI : Hid (D[i]? = some (j : Int)) := hd
          clear hd z
          go_wp2_with (fail)
          go_quiet (fail)
          obtain ⟨wq, hwq⟩ : ∃ wq, wq = wr.drewN nq := ⟨_, rfl⟩
          have Fq : Hid (Fr (fun _ => False) wr wq) := by rw [hwq]; exact (Fr.refl _ _).drewN nq
          rw [← hwq]
          clear hwq a0 c1 z1 h0 hg1
          have HTq : Hid (DuS base w w2 g a cap b gw vW uW ms k F R H rt mo (tckX s.X k) (s.N + 1) (restT s.N s.T) D i (.slice (some ⟨g1, o1, none⟩) dm dc) (.slice oa om oc) wq) := HT.out.later Fq.out
          clear Fq HT
          obtain ⟨g1', o1', e1, hg1, a0⟩ := HTq.out.d.ints i _ HDI.out
          cases e1
          have h0 := HTq.out.q.head0 (by omega)
          obtain ⟨-, c1, -, -, -, z⟩ := HTq.out.q.cells hj
          have z1 := z (j * 5 + 1)
          clear z
          go_upto_region 11 with (fail)
          go_region
          all_goals
            obtain ⟨W, hW⟩ : ∃ W, W = (wq.setCell ⟨b, j * 5 + 1, none⟩ (.int .i64 1)).drew := ⟨_, rfl⟩
            have HW : Hid (W = (wq.setCell ⟨b, j * 5 + 1, none⟩ (.int .i64 1)).drew) := hW
            have hm := HTq.out.mid hj
            rw [← hW] at hm ⊢
            clear hW a0 h0 c1 z1 hg1
            obtain ⟨g1', o1', e1, -, a0⟩ := hm.1.ints i _ HDI.out
            cases e1
            obtain ⟨a', n', c', w5, hrun, -, ho, hf, hl⟩ := run_addW (j : Int) hm.2 (by rw [List.length_take, HM2.out]; omega)
            have HN : Hid (DuS base w w2 g a cap b gw vW uW ms k F R H rt mo (tckX s.X k) (s.N + 1) (restT s.N s.T) D (i + 1) (.slice (some ⟨g1, o1, none⟩) dm dc) (.slice a' n' c') w5) := HTq.out.next hj HDI.out (by rw [← HW.out]; exact hf) ho (by rw [← HW.out]; exact hl)
            clear ho hf hl hm HW HTq
            go_wp2_with (refine wpList_append_run9 rfl (.tmp 58) (.tmp 63) 38 rfl (.slice oa om oc) (.slice (some ⟨W.heap.size, 0, none⟩) 1 1) (.slice a' n' c') rfl rfl hrun ?_)
            go_roundw
            case rel => exact ⟨i + 1, n', c', a', rfl, by go_num, by omega, HN.out⟩
            case measure => simp [intOf]; omega
        · have hge : i = dm := by omega
          have HG : Hid (D.take i = D) := List.take_of_length_le (by rw [HM2.out]; omega)
          go_wp2_with (fail)
          go_ret
          refine ⟨oa, om, oc, rfl, by have := HT.out.o; rw [HG.out] at this; rw [HD.out]; exact this, fun q hq => Nat.le_trans HT.out.s2 (HT.out.ol q hq), uW, HT.out.q.to ?_, HT.out.f⟩
          rw [HG.out, ← HD.out]
          rfl
end
end Go.Proofs.Ytoiencoojkahmaa
