/- The document's wheel: Tick. -/
import Derived.Test.YtoiencoojkahmaaGu
namespace Go.Proofs.Ytoiencoojkahmaa
open Go.RowKit
set_option linter.unusedVariables false
set_option maxRecDepth 100000
set_option maxHeartbeats 4000000

/-- How far the document's tick is: those that are due, and the rest, each gathered in memory of its own. -/
structure RtS (w : World) (N : Nat) (L : List (Int × Int)) (i : Nat) (v u : Value) (wr : World) : Prop where
  due : OwnAt wr 3 v (iv (((L.take i).filter (fun x => decide (x.2 = (N : Int) + 1))).map (·.1)))
  rest : TowAt wr u ((L.take i).filter (fun x => !decide (x.2 = (N : Int) + 1)))
  nd : ∀ k, v.ownBlock = some k → w.heap.size ≤ k
  nr : ∀ k, u.ownBlock = some k → w.heap.size ≤ k
  fr : Fr (fun _ => False) w wr
theorem newI {w : World} {v u : Value} (h : ∀ k, v.ownBlock = some k → w.heap.size ≤ k) {n : Nat} (hs : w.heap.size ≤ n) (ho : u.ownBlock = v.ownBlock ∨ ∃ k, u.ownBlock = some k ∧ n ≤ k) : ∀ k, u.ownBlock = some k → w.heap.size ≤ k := fun k hk => by
  rcases ho with e | ⟨j, e, hj⟩
  · rw [e] at hk; exact h k hk
  · rw [e] at hk; cases hk; omega
theorem Fr.freshI {w a b : World} {v : Value} (h : Fr (fun _ => False) w a) (hf : Fr (fun k => v.ownBlock = some k) a b) (hv : ∀ k, v.ownBlock = some k → w.heap.size ≤ k) : Fr (fun _ => False) w b :=
  ((h.mono (T := fun k => w.heap.size ≤ k) (fun _ _ e => e.elim)).trans (hf.mono (fun k _ e => hv k e))).mono (fun k hk e => by have : w.heap.size ≤ k := e; omega)
theorem RtS.later {w : World} {N : Nat} {L : List (Int × Int)} {i : Nat} {v u : Value} {wr w' : World} (h : RtS w N L i v u wr) (f : Fr (fun _ => False) wr w') : RtS w N L i v u w' :=
  ⟨h.due.fr f (fun _ _ => id), h.rest.fr f (fun _ _ => id), h.nd, h.nr, h.fr.trans f⟩
theorem RtS.late {w : World} {N : Nat} {L : List (Int × Int)} {i : Nat} {v u : Value} {wr : World} (h : RtS w N L i v u wr) {x : Int × Int} (hx : L[i]? = some x) (hl : x.2 = (N : Int) + 1) (hfew : L.length ≤ 1024) :
    ∃ a' n' c' w', (Builtin.append_ #[38, 38] 38 #[v, .slice (some ⟨wr.heap.size, 0, none⟩) 1 1]).run Try.prog (wr.alloc (.cells #[.int .i64 x.1] 3)) = .ok (.slice a' n' c') w' ∧ RtS w N L (i + 1) (.slice a' n' c') u w' := by
  have hT : L.take (i + 1) = L.take i ++ [x] := by rw [List.take_add_one, hx]; rfl
  obtain ⟨a', n', c', w', hr, hn, ho, hf, hk⟩ := run_addI x.1 h.due (by
    rw [List.length_map]
    have h1 := List.length_filter_le (fun x : Int × Int => decide (x.2 = (N : Int) + 1)) (L.take i)
    rw [List.length_take] at h1
    omega)
  refine ⟨a', n', c', w', hr, ?_, ?_, newI h.nd h.fr.size hk, h.nr, h.fr.freshI hf h.nd⟩
  · rw [hT, List.filter_append, List.map_append]
    simpa [hl] using ho
  · rw [hT, List.filter_append]
    have := h.rest.fr hf (fun k hk2 e => by
      obtain ⟨-, cur, hc⟩ := h.rest.lt k hk2
      obtain ⟨cur2, hc2⟩ := own_tagI h.due k e
      exact tag_neI hc hc2 (by decide) rfl)
    simpa [hl] using this
theorem RtS.keep {w : World} {N : Nat} {L : List (Int × Int)} {i : Nat} {v u : Value} {wr : World} (h : RtS w N L i v u wr) {x : Int × Int} (hx : L[i]? = some x) (hl : ¬ x.2 = (N : Int) + 1) (hfew : L.length ≤ 1024) :
    ∃ a' n' c' w', (Builtin.append_ #[91, 91] 91 #[u, .slice (some ⟨wr.heap.size, 0, none⟩) 1 1]).run Try.prog (wr.alloc (.cells #[.int .i64 x.1, .int .i64 x.2] 95)) = .ok (.slice a' n' c') w' ∧ RtS w N L (i + 1) v (.slice a' n' c') w' := by
  have hT : L.take (i + 1) = L.take i ++ [x] := by rw [List.take_add_one, hx]; rfl
  obtain ⟨a', n', c', w', hr, hn, ho, hf, hk⟩ := run_addT x.1 x.2 h.rest (by
    have h1 := List.length_filter_le (fun x : Int × Int => !decide (x.2 = (N : Int) + 1)) (L.take i)
    rw [List.length_take] at h1
    omega)
  refine ⟨a', n', c', w', hr, ?_, ?_, h.nd, newI h.nr h.fr.size hk, h.fr.freshI hf h.nr⟩
  · rw [hT, List.filter_append, List.map_append]
    have := h.due.fr hf (fun k hk2 e => by
      obtain ⟨-, cur, hc⟩ := h.rest.lt k e
      obtain ⟨cur2, hc2⟩ := own_tagI h.due k hk2
      exact tag_neI hc hc2 (by decide) rfl)
    simpa [hl] using this
  · rw [hT, List.filter_append]
    simpa [hl] using ho
/-- What the document's Tick answers and leaves. -/
def RTickAs (base : Nat) (w : World) (g : Nat) (vL : Value) (N : Nat) (L : List (Int × Int)) (e : Ending) (w' : World) : Prop :=
  ∃ a n c, e = .returned (.slice a n c) ∧ OwnAt w' 3 (.slice a n c) (iv (dueT N L)) ∧ (∀ k, (Value.slice a n c).ownBlock = some k → w.heap.size ≤ k) ∧ RPo base w g vL (N + 1) (restT N L) w'
theorem rqTick_in {base : Nat} {w : World} {g N : Nat} {L : List (Int × Int)} {vL : Value} (h : RWA base w g N L vL) (hb : base ≤ w.heap.size) (hN : N < 1000000000000000000) :
    Calls Try.prog 55 #[.pointer (some ⟨g, 0, none⟩)] w (RTickAs base w g vL N L) := by
  have H : Hid (RWA base w g N L vL) := h
  have HB : Hid (base ≤ w.heap.size) := hb
  obtain ⟨a, c, hvL, hcap⟩ := h.row.form
  obtain ⟨c0, c1⟩ := h.cells
  obtain ⟨n, hn⟩ : ∃ n, L.length = n := ⟨_, rfl⟩
  rw [hn] at hvL
  have HN : Hid (L.length = n) := hn
  have HV : Hid (vL = .slice a n c) := hvL
  have hfew : n ≤ 1024 := by have := h.inv.few; omega
  have z0 : w.frozen? ⟨g, 0, none⟩ = false := frozen_of_heap h.blk
  obtain ⟨w1, hw1⟩ : ∃ w1, w1 = w.setCell ⟨g, 0, none⟩ (.int .i64 ((N : Int) + 1)) := ⟨_, rfl⟩
  have F1 : Hid (Fr (fun k => k = g) w w1) := by rw [hw1]; exact (Fr.refl _ _).setB _ _
  have B1 : Hid (w1.heap[g]? = some (.cells #[.int .i64 ((N : Int) + 1), .slice a n c] 93 (0, 0))) := by show _ = _; rw [hw1, block_set h.blk, hvL]; rfl
  have R1 : Hid (TowAt w1 (.slice a n c) L) := by have := h.row.fr F1.out (fun k hk => h.ne k hk); rw [hvL] at this; exact this
  rw [hvL] at c1
  clear h hvL hn hb hcap
  go_enter Try.func55, Try.ntmps55
  go_upto_region 2 with (fail)
  rw [← hw1]
  clear hw1 c0 c1 z0
  have HS0 : Hid (RtS w1 N L 0 (.slice none 0 0) (.slice none 0 0) w1) := ⟨by rw [List.take_zero]; exact OwnAt.nil _ _, by rw [List.take_zero]; exact TowAt.nil _, fun k hk => by simp [Value.ownBlock] at hk, fun k hk => by simp [Value.ownBlock] at hk, Fr.refl _ _⟩
  go_wp2_with (fail)
  go_loopw [3, 4, 5] (fun x3 x4 x5 wr => ∃ (i dm dc rm rc : Nat) (da ra : Option Addr), x3 = .slice da dm dc ∧ x4 = .slice ra rm rc ∧ x5 = .int .i64 (i : Int) ∧ i ≤ n ∧ Hid (RtS w1 N L i (.slice da dm dc) (.slice ra rm rc) wr)) (fun _ _ x5 _ => n - (intOf x5).toNat)
  case atStart => exact ⟨0, 0, 0, 0, 0, none, none, rfl, rfl, rfl, by omega, HS0.out⟩
  case round =>
    clear HS0
    obtain ⟨i, dm, dc, rm, rc, da, ra, rfl, rfl, rfl, hin, HS⟩ := hrel
    have Bw : Hid (wr.heap[g]? = some (.cells #[.int .i64 ((N : Int) + 1), .slice a n c] 93 (0, 0))) := (HS.out.fr.block g (lt_of_heap B1.out) id).trans B1.out
    have c0 : wr.cell? ⟨g, 0, none⟩ = some (.int .i64 ((N : Int) + 1)) := cell_of_heap Bw.out rfl
    have c1 : wr.cell? ⟨g, 1, none⟩ = some (.slice a n c) := cell_of_heap Bw.out rfl
    by_cases hlt : i < n
    · have hlt2 : (i : Int) < (n : Int) := by omega
      obtain ⟨⟨xd, xs⟩, hx⟩ : ∃ y, L[i]? = some y := ⟨L[i]'(by rw [HN.out]; exact hlt), List.getElem?_eq_getElem _⟩
      have Rw : Hid (TowAt wr (.slice a n c) L) := R1.out.fr HS.out.fr (fun _ _ => id)
      obtain ⟨gl, cap, e1, r0, r1, -⟩ := Rw.out.cells i _ hx
      have e2 := (Value.slice.inj e1).1
      subst e2
      dsimp only at r0 r1
      have HX : Hid (L[i]? = some (xd, xs)) := hx
      clear e1 hx
      by_cases hl : xs = (N : Int) + 1
      · subst hl
        go_wp2_with (fail)
        go_quiet (fail)
        obtain ⟨wq, hwq⟩ : ∃ wq, wq = wr.drewN nq := ⟨_, rfl⟩
        have Fq : Hid (Fr (fun _ => False) wr wq) := by rw [hwq]; exact (Fr.refl _ _).drewN nq
        rw [← hwq]
        clear hwq c0 c1 r0 r1
        have HSq : Hid (RtS w1 N L i (.slice da dm dc) (.slice ra rm rc) wq) := HS.out.later Fq.out
        have Bq : Hid (wq.heap[g]? = some (.cells #[.int .i64 ((N : Int) + 1), .slice (some ⟨gl, 0, none⟩) n c] 93 (0, 0))) := (Fq.out.block g (lt_of_heap Bw.out) id).trans Bw.out
        have c1 : wq.cell? ⟨g, 1, none⟩ = some (.slice (some ⟨gl, 0, none⟩) n c) := cell_of_heap Bq.out rfl
        obtain ⟨gl', cap', e1, r0, r1, -⟩ := (Rw.out.fr Fq.out (fun _ _ => id)).cells i _ HX.out
        cases e1
        dsimp only at r0 r1
        obtain ⟨a', n', c', w5, hrun, hnx⟩ := HSq.out.late HX.out rfl (by rw [HN.out]; exact hfew)
        have HX5 : Hid (RtS w1 N L (i + 1) (.slice a' n' c') (.slice ra rm rc) w5) := hnx
        clear hnx
        go_wp2_with (refine wpList_append_run9 rfl (.tmp 35) (.tmp 44) 38 rfl (.slice da dm dc) (.slice (some ⟨wq.heap.size, 0, none⟩) 1 1) (.slice a' n' c') rfl rfl hrun ?_)
        go_roundw
        case rel => exact ⟨i + 1, n', c', rm, rc, a', ra, rfl, rfl, by go_num, by omega, HX5.out⟩
        case measure => simp [intOf]; omega
      · have hl2 : (xs == (N : Int) + 1) = false := by rw [beq_eq_false_iff_ne]; exact hl
        have HL : Hid (¬ xs = (N : Int) + 1) := hl
        go_wp2_with (fail)
        go_quiet (fail)
        obtain ⟨wq, hwq⟩ : ∃ wq, wq = wr.drewN nq := ⟨_, rfl⟩
        have Fq : Hid (Fr (fun _ => False) wr wq) := by rw [hwq]; exact (Fr.refl _ _).drewN nq
        rw [← hwq]
        clear hwq c0 c1 r0 r1
        have HSq : Hid (RtS w1 N L i (.slice da dm dc) (.slice ra rm rc) wq) := HS.out.later Fq.out
        have Bq : Hid (wq.heap[g]? = some (.cells #[.int .i64 ((N : Int) + 1), .slice (some ⟨gl, 0, none⟩) n c] 93 (0, 0))) := (Fq.out.block g (lt_of_heap Bw.out) id).trans Bw.out
        have c1 : wq.cell? ⟨g, 1, none⟩ = some (.slice (some ⟨gl, 0, none⟩) n c) := cell_of_heap Bq.out rfl
        obtain ⟨gl', cap', e1, r0, r1, -⟩ := (Rw.out.fr Fq.out (fun _ _ => id)).cells i _ HX.out
        cases e1
        dsimp only at r0 r1
        obtain ⟨a', n', c', w5, hrun, hnx⟩ := HSq.out.keep HX.out HL.out (by rw [HN.out]; exact hfew)
        have HX5 : Hid (RtS w1 N L (i + 1) (.slice da dm dc) (.slice a' n' c') w5) := hnx
        clear hnx
        go_wp2_with (refine wpList_append_run9 rfl (.tmp 46) (.tmp 54) 91 rfl (.slice ra rm rc) (.slice (some ⟨wq.heap.size, 0, none⟩) 1 1) (.slice a' n' c') rfl rfl hrun ?_)
        go_roundw
        case rel => exact ⟨i + 1, dm, dc, n', c', da, a', rfl, rfl, by go_num, by omega, HX5.out⟩
        case measure => simp [intOf]; omega
    · have hlt2 : ¬ (i : Int) < (n : Int) := by omega
      have z1 : wr.frozen? ⟨g, 1, none⟩ = false := frozen_of_heap Bw.out
      have hTk : L.take i = L := List.take_of_length_le (by rw [HN.out]; omega)
      have HE : Hid (RTickAs base w g vL N L (.returned (.slice da dm dc)) (wr.setCell ⟨g, 1, none⟩ (.slice ra rm rc))) := by
        have f6 : Fr (fun k => k = g) wr (wr.setCell ⟨g, 1, none⟩ (.slice ra rm rc)) := (Fr.refl _ _).setB _ _
        have hd := HS.out.due
        have hr := HS.out.rest
        rw [hTk] at hd hr
        have hs1 := F1.out.size
        have hgl := lt_of_heap B1.out
        refine ⟨da, dm, dc, rfl, hd.fr f6 (fun k hk e => ?_), fun k hk => Nat.le_trans hs1 (HS.out.nd k hk), .slice ra rm rc, ⟨?_, hr.fr f6 (fun k hk e => ?_), inv_tick H.out.inv, H.out.bg, fun k hk => ?_⟩, ?_, fun k hk hl => ?_⟩
        · have := HS.out.nd k hk; omega
        · rw [block_set Bw.out, Int.natCast_add]; rfl
        · have := HS.out.nr k hk; omega
        · have := HS.out.nr k hk; have := HB.out; omega
        · exact ((F1.out.mono (fun k _ e => .inl e)).trans (HS.out.fr.mono (fun _ _ e => e.elim))).trans (f6.mono (fun k _ e => .inl e))
        · have := HS.out.nr k hk; omega
      clear hTk
      go_wp2_with (fail)
      go_ret
      exact HE.out
end Go.Proofs.Ytoiencoojkahmaa
