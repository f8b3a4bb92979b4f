/- Contract of the reader's move. -/
import Derived.Test.YtikaefjhmgcidaaTa
import Derived.Test.YtikaefjhmgcidaaXp
namespace Go.Proofs.Ytikaefjhmgcidaa
open Go.RowKit
set_option linter.unusedVariables false
set_option maxRecDepth 100000
set_option maxHeartbeats 4000000

theorem make_full (n : Nat) (h : n ≤ 140737488351232) : ∀ w : World, (Instr.makeSlice 31 (.int .i64 (n : Int)) (.int .i64 (n : Int))).run Try.prog w = .ok (.slice (some ⟨w.heap.size, 0, none⟩) n n) (w.alloc (.cells (bv (List.replicate n 0)).toArray 5)) := by
  intro w
  have hr := run_make (P := Try.prog) w 31 5 ((Try.prog.info? 5).get (by kernel_rfl)) (.int .u8 0) Try.underlying31 (by kernel_rfl) (by kernel_rfl) .i64 .i64 n n (by omega) (by omega) (by rw [show (((Try.prog.info? 5).get (by kernel_rfl)).bytes) = 1 from by kernel_rfl]; omega) (by omega)
  rw [show (((Try.prog.info? 5).get (by kernel_rfl)).size) = 1 from by kernel_rfl] at hr
  simpa [Value.cells, made_bytes] using hr

/-- What a reader holds, cut from some place on. -/
theorem own_cut {w : World} {a : Option Addr} {n c : Nat} {D : List UInt8} (ho : OwnAt w 5 (.slice a n c) (bv D)) (at_ : Nat) (h : at_ ≤ n) :
    ∃ dp : Option Addr, (∀ w, (Instr.slice 31 (.slice a n c) (some (.int .i64 (at_ : Int))) none none).run Try.prog w = .ok (.slice dp (n - at_) (c - at_)) w) ∧ (∀ w', SrcAt w' a D → SrcAt w' dp (D.drop at_)) := by
  rcases ho with ⟨hv, hx⟩ | ⟨g, off, cap, cur, hv, hg, h1, h2, h3, h4⟩
  · cases hv
    obtain rfl : at_ = 0 := by omega
    exact ⟨none, cut_nil Try.prog 31 5 Try.underlying31 (by kernel_rfl) .i64, fun w' hs => hs⟩
  · cases hv
    rw [bv_length] at h h2
    obtain ⟨dp, e1, e2⟩ := cut_from Try.prog 31 5 Try.underlying31 (by kernel_rfl) ⟨g, off, none⟩ D.length c at_ .i64 h
    rw [bv_length]
    refine ⟨dp, e1, fun w' hs => ?_⟩
    intro j x hj
    rw [List.getElem?_drop] at hj
    have hjl := (List.getElem?_eq_some_iff.1 hj).1
    obtain ⟨ad, e3, hc⟩ := hs _ _ hj
    cases e3
    refine ⟨_, e2 (by omega), ?_⟩
    rw [add_none] at hc ⊢
    rw [add_none, Nat.add_assoc]
    exact hc

/-- What move leaves. -/
def MovedAs (w : World) (g : Nat) (most : Int) (v : Value) (at_ : Nat) (X : Flt) (D : List UInt8) (w' : World) : Prop :=
  ∃ a' n' c' at' D', RdC w' g most (.slice a' n' c') at' X ∧ OwnAt w' 5 (.slice a' n' c') (bv D') ∧ at' ≤ D'.length ∧ D'.drop at' = D.drop at_ ∧ D'.length ≤ 2 * (D.drop at_).length ∧ Fr (fun k => k = g) w w' ∧ ((Value.slice a' n' c').ownBlock = v.ownBlock ∨ ∃ k, (Value.slice a' n' c').ownBlock = some k ∧ w.heap.size ≤ k)

theorem move_in (g : Nat) (most : Int) (a : Option Addr) (n c at_ : Nat) (X : Flt) (D : List UInt8) (w : World) (h : RdC w g most (.slice a n c) at_ X) (ho : OwnAt w 5 (.slice a n c) (bv D)) (hm : 0 < most) (hat : at_ ≤ n) (hbig : n ≤ 225179981368371) :
    Calls Try.prog 23 #[.pointer (some ⟨g, 0, none⟩)] w fun e w' => e = .returned (.tuple #[]) ∧ MovedAs w g most (.slice a n c) at_ X D w' := by
  have hDn : D.length = n := (own_len ho).1.symm
  have KR : Hid (∀ k, Calls Try.prog 16 #[.pointer (some ⟨g, 0, none⟩)] (w.drewN k) fun e w' => e = .returned (.int .i64 ((n - at_ : Nat) : Int)) ∧ ∃ m, w' = (w.drewN k).drewN m) := fun k => Rest_in g most a n c at_ X (w.drewN k) h hm hat (by omega)
  obtain ⟨c0, c1, c2, c3, c4, c5⟩ := rcells h
  have HR : Hid (RdC w g most (.slice a n c) at_ X) := h
  have HO : Hid (OwnAt w 5 (.slice a n c) (bv D)) := ho
  have HD : Hid (D.length = n) := hDn
  obtain ⟨r, hr⟩ : ∃ r, r = n - at_ := ⟨_, rfl⟩
  rw [← hr] at KR
  have hr2 : r + at_ = n := by omega
  clear h ho hDn
  by_cases h0 : at_ = 0
  · subst h0
    clear hr
    go_enter Try.func23, Try.ntmps23
    go_wp2_with (fail)
    go_quiet (fail)
    go_wp2_with (fail)
    refine bodyPost_ret (results_none rfl _ _ _) rfl ?_
    refine ⟨rfl, a, n, c, 0, D, HR.out, HO.out.fr ((Fr.refl (fun _ => False) _).drewN _) (fun _ _ => id), by simp, rfl, by simp; omega, (Fr.refl _ _).drewN _, .inl rfl⟩
  · have h0b : ((at_ : Int) == 0) = false := by simp; omega
    by_cases hgt : at_ < r
    · have hgi : (at_ : Int) < (r : Int) := by omega
      clear hr
      go_enter Try.func23, Try.ntmps23
      go_wp2_with (fail)
      go_quiet ((go_at_call 16; exact Calls.quiet_of (KR.out _)))
      go_wp2_with (fail)
      refine bodyPost_ret (results_none rfl _ _ _) rfl ?_
      refine ⟨rfl, a, n, c, at_, D, HR.out, HO.out.fr ((Fr.refl (fun _ => False) _).drewN _) (fun _ _ => id), by rw [HD.out]; exact hat, rfl, by rw [List.length_drop, HD.out]; omega, (Fr.refl _ _).drewN _, .inl rfl⟩
    · have hgi : ¬ (at_ : Int) < (r : Int) := by omega
      have hgd : decide ((at_ : Int) < (r : Int)) = false := decide_eq_false hgi
      clear hr
      obtain ⟨dp, hcut, hcs⟩ := own_cut HO.out at_ hat
      rw [show n - at_ = r by omega] at hcut
      have hmk := make_full r (by omega)
      have HCS : Hid (∀ w', SrcAt w' a D → SrcAt w' dp (D.drop at_)) := hcs
      have hdl : (D.drop at_).length = r := by rw [List.length_drop, HD.out]; omega
      have HDL : Hid ((D.drop at_).length = r) := hdl
      clear hcs hdl
      go_enter Try.func23, Try.ntmps23
      go_wp2_with (fail)
      go_quiet ((go_at_call 16; exact Calls.quiet_of (KR.out _)))
      go_wp2_with (go_at_call 16; refine (KR.out _).mono ?_; rintro e w2 ⟨rfl, k2, hk2⟩; have F2 : Hid (Fr (fun _ => False) w w2 ∧ w2.heap = w.heap) := (by rw [hk2]; exact ⟨((Fr.refl _ _).drewN _).drewN _, rfl⟩); clear hk2)
      obtain ⟨W3, hW3⟩ : ∃ W3, W3 = w2.alloc (.cells (bv (List.replicate r 0)).toArray 5) := ⟨_, rfl⟩
      have hL : w2.heap.size = w.heap.size := by rw [F2.out.2]
      have F3 : Hid (Fr (fun _ => False) w W3 ∧ W3.heap[w.heap.size]? = some (.cells (bv (List.replicate r 0)).toArray 5 (0, 0))) := by rw [hW3]; exact ⟨F2.out.1.alloc _, last_at _ hL⟩
      rw [← hW3, hL]
      clear hW3 hL c0 c1 c2 c3 c4 c5
      have HR3 : Hid (RdC W3 g most (.slice a n c) at_ X) := HR.out.fr F3.out.1 id
      obtain ⟨c0, c1, c2, c3, c4, c5⟩ := rcells HR3.out
      refine wp_region_cut 10 1 #[true, true, true, true, true, true, true, true, true, true, false] (by kernel_rfl) (by kernel_rfl) rfl rfl ?_
      simp only [List.take_succ_cons, List.take_zero]
      repeat (go_big_quiet_step (fail))
      refine wpQuiet_nil ?_
      rintro _ ⟨n3, rfl⟩ mm
      refine wpAny_ready (rs := [10]) (by kernel_rfl) (by simp) ?_
      refine AllReady.cons rfl (fun K hK => ?_) AllReady.nil
      refine step_copy_row rfl (.tmp 20) (.tmp 29) 31 31 rfl 5 Try.underlying31 (by kernel_rfl) (some ⟨w.heap.size, 0, none⟩) dp r r r (c - at_) (by go_simp) (by go_simp) w.heap.size 0 (List.replicate r 0) 5 F3.out.2 (D.drop at_) (by rw [HDL.out]; simp) (fun _ => rfl) (HCS.out _ (own_src (HO.out.fr (F3.out.1.drewN n3) (fun _ _ => id)))) (by rw [HDL.out]; simp) ?_
      intro w4 H4 F4
      have hlt : g < w.heap.size := HR.out.lt
      have F4b : Hid (Fr (fun k => k = w.heap.size) W3 w4) := ((Fr.refl _ _).drewN n3).trans F4.out
      have HR4 : Hid (RdC w4 g most (.slice a n c) at_ X) := HR3.out.fr F4b.out (by omega)
      have H4b : Hid (w4.heap[w.heap.size]? = some (.cells (bv (D.drop at_)).toArray 5 (0, 0))) := by
        show _ = _
        rw [H4.out, splice_zero, HDL.out]
        simp
      refine hK _ _ ?_
      clear hK K H4 F4 c0 c1 c2 c3 c4 c5
      obtain ⟨c0, c1, c2, c3, c4, c5⟩ := rcells HR4.out
      have z1 : w4.frozen? ⟨g, 1, none⟩ = false := frozen_of_heap HR4.out
      have z2 : w4.frozen? ⟨g, 2, none⟩ = false := frozen_of_heap HR4.out
      simp only [Act.put, List.getElem_toArray, List.getElem_cons_succ, List.getElem_cons_zero, List.setIfInBounds_toArray, List.set_cons_zero, List.set_cons_succ]
      refine wpAny_done (by kernel_rfl) ?_ _
      go_wp2_with (fail)
      refine bodyPost_end (results_none rfl _ _ _) rfl ?_
      have hown : OwnAt w4 5 (.slice (some ⟨w.heap.size, 0, none⟩) r r) (bv (D.drop at_)) := .inr ⟨w.heap.size, 0, r, (bv (D.drop at_)).toArray, by rw [bv_length, HDL.out], H4b.out, by simp [bv_length, HDL.out], by rw [bv_length, HDL.out]; exact Nat.le_refl _, by unfold maxLen; omega, by simp⟩
      have hfr : Fr (fun k => k = g ∨ k = w.heap.size) w w4 := (F3.out.1.mono (T := fun k => k = g ∨ k = w.heap.size) (fun _ _ e => e.elim)).trans (F4b.out.mono (fun _ _ e => .inr e))
      refine ⟨rfl, some ⟨w.heap.size, 0, none⟩, r, r, 0, D.drop at_, rset (rset HR4.out), ?_, by simp, rfl, by rw [HDL.out]; omega, ?_, .inr ⟨w.heap.size, rfl, Nat.le_refl _⟩⟩
      · exact hown.fr (((Fr.refl _ _).setB 1 _).setB 2 _) (own_ne HR4.out hown)
      · exact ((hfr.setS (.inl rfl) 1 _).setS (.inl rfl) 2 _).mono (fun k hk e => by omega)
end Go.Proofs.Ytikaefjhmgcidaa
