/- A wheel: Tick. -/
import Derived.Test.YtoiencoojkahmaaGh
import Derived.Test.YtoiencoojkahmaaAv
namespace Go.Proofs.Ytoiencoojkahmaa
open Go.RowKit Go.Maps
set_option linter.unusedVariables false
set_option maxRecDepth 100000
set_option maxHeartbeats 4000000

theorem cut_none : ∀ w, (Instr.slice 38 (.slice none 0 0) none (some (.int .i64 0)) none).run Try.prog w = .ok (.slice none 0 0) w := fun w => by kernel_rfl
theorem cut_start {w : World} {a : Option Addr} {n c : Nat} {cur : List Int} (h : OwnAt w 3 (.slice a n c) (iv cur)) : ∀ w, (Instr.slice 38 (.slice a n c) none (some (.int .i64 0)) none).run Try.prog w = .ok (.slice a 0 c) w := by
  rcases h with ⟨e, e2⟩ | ⟨g', off', cap, row, e, hg, k1, k2, k3, k4⟩
  · cases e
    exact cut_none
  · obtain ⟨rfl, -, rfl⟩ := Value.slice.inj e
    exact cutI_to ⟨g', off', none⟩ n c 0 (Nat.zero_le _) (by rw [add_none]; rfl) (by omega)
/-- What Tick answers and leaves. -/
def TickAs (base : Nat) (w : World) (g mb : Nat) (sl : List Value) (N : Nat) (L : List (Int × Int)) (e : Ending) (w' : World) : Prop :=
  ∃ a n c, e = .returned (.slice a n c) ∧ OwnAt w' 3 (.slice a n c) (iv (dueT N L)) ∧ (∀ k, (Value.slice a n c).ownBlock = some k → w.heap.size ≤ k) ∧ WPost base w g mb sl (N + 1) (restT N L) w'
theorem TkS.ends {base : Nat} {w wr : World} {g mb : Nat} {sl : List Value} {N : Nat} {L : List (Int × Int)} {r n i j : Nat} {da : Option Addr} {dm dc : Nat} (h : TkS base w g mb sl N L r n i j da dm dc wr) (hi : InvT N L) (hr : r < 64) (hN : ((N : Int) + 1) % 64 = (r : Int)) (hn : (slotT L (r : Int)).length = n) (hni : n ≤ i) (hb : base ≤ w.heap.size) {a : Option Addr} {c : Nat} (hv : sl.getD r nilS = .slice a n c) :
    TickAs base w g mb sl N L (.returned (.slice da dm dc)) (wr.setCell ⟨g, r, none⟩ (.slice a j c)) := by
  obtain ⟨cur, h1, h2, h3, h4, h5, h6, h7, h8⟩ := h
  have hT : (slotT L (r : Int)).take i = slotT L (r : Int) := List.take_of_length_le (by omega)
  rw [hT] at h1 h3 h4 h6
  have hjl : j ≤ cur.length := by
    have := List.length_filter_le (fun d => !lateB N L d) (slotT L (r : Int))
    omega
  have ho := h1.s r hr
  rw [if_pos rfl, hv] at ho
  have ho2 := ho.shrink j hjl
  rw [h3] at ho2
  have hP := h1.slot_to (Nat.le_trans hb h8.size) hr (Fr.refl _ _) ho2 (.inl (by rw [hv]; exact ownB_same _ _ _ _ _))
  have f2 : Fr (fun k => k = g) wr (wr.setCell ⟨g, r, none⟩ (.slice a j c)) := (Fr.refl _ _).setB _ _
  refine ⟨da, dm, dc, rfl, ?_, h7, _, hP.1.wheel (inv_tick hi) (by rw [Int.natCast_add]; rfl) ?_ (fun q hq => ?_), ?_, fun k hk hl => hP.2.2 k hk (Nat.lt_of_lt_of_le hl h8.size)⟩
  · rw [due_slot hi, hN]
    exact h6.fr f2 (fun k hk e => by obtain ⟨cc, hcc⟩ := own_tagI h6 k hk; exact tag_neI hcc h1.c.blk (by decide) e)
  · rw [← goneM_end hi, hN]
  · by_cases e : q = r
    · rw [if_pos e, e, ← hN, rest_slot hi, hN]
    · rw [if_neg e]
      simp only [if_neg e]
      rw [rest_other (by rw [hN]; omega)]
  · exact h8.trans hP.2.1
theorem qTick_in {base : Nat} {w : World} {g mb : Nat} {sl : List Value} {N : Nat} {L : List (Int × Int)} (h : WAt base w g mb sl N L) (hb : base ≤ w.heap.size) (hN : N < 1000000000000000000) :
    Calls Try.prog 44 #[.pointer (some ⟨g, 0, none⟩)] w (TickAs base w g mb sl N L) := by
  have K := qmade_in w h.1.c
  obtain ⟨r, hr, hNr⟩ := slot_rest (x := (N : Int) + 1) (by omega)
  have hr2 : (r : Int) < 64 := by omega
  have HI : Hid (InvT N L) := h.2
  have HNr : Hid (((N : Int) + 1) % 64 = (r : Int)) := hNr
  have H : Hid (WAt base w g mb sl N L) := h
  have HB : Hid (base ≤ w.heap.size) := hb
  have HW : Hid (∀ k, WX g mb sl k → k < w.heap.size) := h.1.lt
  obtain ⟨w1, hw1⟩ : ∃ w1, w1 = w.setCell ⟨g, 65, none⟩ (.int .i64 ((N : Int) + 1)) := ⟨_, rfl⟩
  have P1 : Hid (WP base w1 g mb sl ((N : Int) + 1) L.length (mapT L) (fun r => slotT L (r : Int))) := by rw [hw1]; exact h.1.now_to _
  have F1 : Hid (Fr (WX g mb sl) w w1) := by rw [hw1]; exact ((Fr.refl (fun k => k = g) _).setB _ _).mono (fun k _ e => .inl e)
  have cn := h.1.c.now
  have zn := h.1.c.frozen 65
  obtain ⟨a, c, hvs, hc⟩ := (P1.out.s r hr).form
  rw [iv_length] at hvs hc
  obtain ⟨n, hn⟩ : ∃ n, (slotT L (r : Int)).length = n := ⟨_, rfl⟩
  rw [hn] at hvs hc
  have HVS : Hid (sl.getD r nilS = .slice a n c) := hvs
  have HNL : Hid ((slotT L (r : Int)).length = n) := hn
  have hn4 : n ≤ 1024 := by have h1 := slot_few L (r : Int); have h2 := h.2.few; omega
  have HO : Hid (OwnAt w1 3 (.slice a n c) (iv (slotT L (r : Int)))) := by rw [← hvs]; exact P1.out.s r hr
  have hcut := cut_start HO.out
  have HS0 : Hid (TkS base w g mb sl N L r n 0 0 none 0 0 w1) := by
    refine ⟨slotT L (r : Int), P1.out.same (by rw [List.take_zero, goneM_nil]) (fun q hq => ?_), hn, by simp, by simp, rfl, by rw [List.take_zero]; exact OwnAt.nil _ _, fun k hk => by simp [Value.ownBlock] at hk, F1.out⟩
    by_cases e : q = r
    · rw [if_pos e, e]
    · rw [if_neg e]
  clear h hvs hn hb
  go_enter Try.func44, Try.ntmps44
  go_upto_region 4 with (go_at_call 60; refine K.mono ?_; clear K; rintro e w' ⟨rfl, rfl⟩)
  rw [← hw1]
  clear hw1 cn zn
  have cn := P1.out.c.now
  have cs : w1.cell? ⟨g, r, none⟩ = some (.slice a n c) := by rw [P1.out.c.slot r hr, HVS.out]
  go_wp2_with (fail)
  rw [hNr]
  clear hNr cn cs hcut
  go_loopw [4, 5, 37] (fun x4 x5 x37 wr => ∃ (i j dm dc : Nat) (da : Option Addr), x4 = .slice da dm dc ∧ x5 = .slice a j c ∧ x37 = .int .i64 (i : Int) ∧ i ≤ n ∧ Hid (TkS base w g mb sl N L r n i j da dm dc wr)) (fun _ _ x37 _ => n - (intOf x37).toNat)
  case atStart => exact ⟨0, 0, 0, 0, none, rfl, rfl, rfl, by omega, HS0.out⟩
  case round =>
    clear HS0
    obtain ⟨i, j, dm, dc, da, rfl, rfl, rfl, hin, HS⟩ := hrel
    have HC : Hid (WC wr g sl mb ((N : Int) + 1)) := by obtain ⟨cur, h1, -⟩ := HS.out; exact h1.c
    have cm := HC.out.map
    have cn := HC.out.now
    by_cases hlt : i < n
    · have hlt2 : (i : Int) < (n : Int) := by omega
      obtain ⟨d, hz⟩ : ∃ d, (slotT L (r : Int))[i]? = some d := ⟨_, List.getElem?_eq_getElem (by rw [HNL.out]; exact hlt)⟩
      obtain ⟨x, hxL, hx1, hx2⟩ := slot_mem.1 (List.mem_of_getElem? hz)
      have hfd : findT L d = some x := by rw [← hx1]; exact find_mem HI.out.nd hxL
      have hld : lateB N L d = decide (x.2 = (N : Int) + 1) := by rw [← hx1]; exact late_mem HI.out hxL
      have hdI : IsI d := by have := HI.out.ids x hxL; rw [hx1] at this; exact ⟨by omega, this.2⟩
      have HD : Hid (IsI d) := hdI
      obtain ⟨gb, off, rfl, -, -⟩ := HO.out.ints i d hz
      have hgb : gb < w.heap.size := HW.out gb (.inr (.inr ⟨r, hr, by rw [HVS.out]; rfl⟩))
      have c0 := HS.out.cell hr hz HVS.out
      have hmv : goneM N L ((slotT L (r : Int)).take i) d = some (.int .i64 x.2) := by
        have hnd : d ∉ (slotT L (r : Int)).take i := by
          have h1 := slot_nodup HI.out (r : Int)
          rw [← List.take_append_drop i (slotT L (r : Int)), List.nodup_append] at h1
          intro e
          refine h1.2.2 d e d ?_ rfl
          have : ((slotT L (r : Int)).drop i)[0]? = some d := by rw [List.getElem?_drop]; exact hz
          exact List.mem_of_getElem? this
        rw [goneM_look hnd]
        unfold mapT
        rw [hfd]
        rfl
      obtain ⟨t, ht⟩ : ∃ t, x.2 = t := ⟨_, rfl⟩
      rw [ht] at hmv hld
      have hlk : ∀ k, (Instr.lookup 85 (.map (some mb)) (.int .i64 d) false).run Try.prog (wr.drewN k) = .ok (.int .i64 t) (wr.drewN k) := fun k => by
        obtain ⟨cur, h1, -⟩ := HS.out
        have := ((h1.m.fr ((Fr.refl (fun _ => False) _).drewN k) id).look Try.underlying85 qzero_int hdI).1
        rwa [hmv] at this
      have HZ : Hid ((slotT L (r : Int))[i]? = some d) := hz
      clear hz hxL hx1 hx2 hfd ht hdI hmv
      by_cases hl : t = (N : Int) + 1
      · have HLT : Hid (lateB N L d = true) := by show _ = _; rw [hld, hl]; simp
        subst hl
        clear hld
        go_wp2_with (fail)
        go_quiet (fail)
        obtain ⟨wq, hwq⟩ : ∃ wq, wq = wr.drewN nq := ⟨_, rfl⟩
        have HSq : Hid (TkS base w g mb sl N L r n i j da dm dc wq) := by rw [hwq]; exact HS.out.later ((Fr.refl _ _).drewN nq)
        rw [← hwq]
        clear hwq hlk c0 cm cn HC
        obtain ⟨a', n', c', w2, hrun, hwc, hm2, hnext⟩ := HSq.out.late hr HZ.out HLT.out HI.out.few HW.out
        have HM2 : Hid (MapAt w2 mb L.length (goneM N L ((slotT L (r : Int)).take i))) := hm2
        have HX : Hid (∀ w3, MapAt w3 mb L.length (delM (goneM N L ((slotT L (r : Int)).take i)) d) → Fr (fun k => k = mb) w2 w3 → TkS base w g mb sl N L r n (i + 1) j a' n' c' w3) := hnext
        have cm := hwc.map
        clear hm2 hnext hwc
        go_wp2_with (first
          | (refine wpList_append_run9 rfl (.tmp 56) (.tmp 58) 38 rfl (.slice da dm dc) (.slice (some ⟨wq.heap.size, 0, none⟩) 1 1) (.slice a' n' c') rfl rfl hrun ?_)
          | (refine wpList_del rfl (.tmp 63) (.tmp 64) 85 rfl 3 Try.underlying85 mb L.length (goneM N L ((slotT L (r : Int)).take i)) rfl HM2.out d rfl HD.out ?_; intro w4 hm4 hf4 hs4))
        have HS4 : Hid (TkS base w g mb sl N L r n (i + 1) j a' n' c' w4) := HX.out w4 hm4 hf4
        go_roundw
        case rel => exact ⟨i + 1, j, n', c', a', rfl, rfl, by go_num, by omega, HS4.out⟩
        case measure => simp [intOf]; omega
      · have HLT : Hid (lateB N L d = false) := by show _ = _; rw [hld]; simp [hl]
        have hl2 : (t == (N : Int) + 1) = false := by rw [beq_eq_false_iff_ne]; exact hl
        have hl3 : (t != (N : Int) + 1) = true := by rw [bne, hl2]; rfl
        clear hld
        go_wp2_with (fail)
        go_quiet (fail)
        obtain ⟨wq, hwq⟩ : ∃ wq, wq = wr.drewN nq := ⟨_, rfl⟩
        have HSq : Hid (TkS base w g mb sl N L r n i j da dm dc wq) := by rw [hwq]; exact HS.out.later ((Fr.refl _ _).drewN nq)
        rw [← hwq]
        clear hwq hlk c0 cm cn HC
        obtain ⟨w2, hrun, hnext⟩ := HSq.out.keep hr hlt HZ.out HLT.out HVS.out hgb
        have HX : Hid (TkS base w g mb sl N L r n (i + 1) (j + 1) da dm dc w2) := hnext
        clear hnext
        go_wp2_with (refine wpList_append_run9 rfl (.tmp 52) (.tmp 54) 38 rfl (.slice (some ⟨gb, off, none⟩) j c) (.slice (some ⟨wq.heap.size, 0, none⟩) 1 1) (.slice (some ⟨gb, off, none⟩) (j + 1) c) rfl rfl hrun ?_)
        go_roundw
        case rel => exact ⟨i + 1, j + 1, dm, dc, da, rfl, rfl, by go_num, by omega, HX.out⟩
        case measure => simp [intOf]; omega
    · have hlt2 : ¬ (i : Int) < (n : Int) := by omega
      have cs : wr.cell? ⟨g, r, none⟩ = some (.slice a n c) := by rw [HC.out.slot r hr, HVS.out]
      have zs : wr.frozen? ⟨g, r, none⟩ = false := HC.out.frozen r
      go_wp2_with (fail)
      go_ret
      exact HS.out.ends HI.out hr HNr.out HNL.out (by omega) HB.out HVS.out
end Go.Proofs.Ytoiencoojkahmaa
