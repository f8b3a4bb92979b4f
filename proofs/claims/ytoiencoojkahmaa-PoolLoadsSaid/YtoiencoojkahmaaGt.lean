/- The document's wheel: New, find, Left, Cancel. -/
import Derived.Test.YtoiencoojkahmaaGs
import Derived.Test.YtoiencoojkahmaaGd
import Derived.BigQuiet
namespace Go.Proofs.Ytoiencoojkahmaa
open Go.RowKit
set_option linter.unusedVariables false
set_option maxRecDepth 100000
set_option maxHeartbeats 4000000

/-- The document's wheel in memory. -/
structure RWA (base : Nat) (w : World) (g : Nat) (N : Nat) (L : List (Int × Int)) (vL : Value) : Prop where
  blk : w.heap[g]? = some (.cells #[.int .i64 (N : Int), vL] 93 (0, 0))
  row : TowAt w vL L
  inv : InvT N L
  bg : base ≤ g
  bL : ∀ k, vL.ownBlock = some k → base ≤ k
/-- The blocks that it lies in. -/
def RX2 (g : Nat) (vL : Value) (k : Nat) : Prop := k = g ∨ vL.ownBlock = some k
section
variable {base : Nat} {w w' : World} {g N : Nat} {L : List (Int × Int)} {vL : Value}
theorem RWA.cells (h : RWA base w g N L vL) : w.cell? ⟨g, 0, none⟩ = some (.int .i64 (N : Int)) ∧ w.cell? ⟨g, 1, none⟩ = some vL := ⟨cell_of_heap h.blk rfl, cell_of_heap h.blk rfl⟩
theorem RWA.fr {X : Nat → Prop} (h : RWA base w g N L vL) (f : Fr X w w') (hx : ∀ k, RX2 g vL k → ¬ X k) : RWA base w' g N L vL :=
  ⟨(f.block g (lt_of_heap h.blk) (hx g (.inl rfl))).trans h.blk, h.row.fr f (fun k hk => hx k (.inr hk)), h.inv, h.bg, h.bL⟩
theorem RWA.later (h : RWA base w g N L vL) (f : Fr (fun _ => False) w w') : RWA base w' g N L vL := h.fr f (fun _ _ => id)
theorem RWA.base_le (h : RWA base w g N L vL) : ∀ k, RX2 g vL k → base ≤ k := by
  rintro k (rfl | e)
  · exact h.bg
  · exact h.bL k e
theorem RWA.lt (h : RWA base w g N L vL) : ∀ k, RX2 g vL k → k < w.heap.size := by
  rintro k (rfl | e)
  · exact lt_of_heap h.blk
  · exact (h.row.lt k e).1
theorem RWA.ne (h : RWA base w g N L vL) : ∀ k, vL.ownBlock = some k → k ≠ g := fun k hk => by
  obtain ⟨-, cur, hc⟩ := h.row.lt k hk
  exact tag_neI hc h.blk (by decide)
end
/-- What a call of it leaves. -/
def RPo (base : Nat) (w : World) (g : Nat) (vL : Value) (N : Nat) (L : List (Int × Int)) (w' : World) : Prop := ∃ uL, RWA base w' g N L uL ∧ Fr (RX2 g vL) w w' ∧ ∀ k, uL.ownBlock = some k → k < w.heap.size → vL.ownBlock = some k
theorem RPo.refl {base : Nat} {w : World} {g : Nat} {vL : Value} {N : Nat} {L : List (Int × Int)} (h : RWA base w g N L vL) : RPo base w g vL N L w := ⟨vL, h, Fr.refl _ _, fun _ h _ => h⟩
theorem rqNew_in (base : Nat) (w : World) (hb : base ≤ w.heap.size) :
    Calls Try.prog 29 #[] w fun e w' => e = .returned (.pointer (some ⟨w.heap.size, 0, none⟩)) ∧ RWA base w' w.heap.size 0 [] (.slice none 0 0) ∧ Fr (fun _ => False) w w' := by
  have hz : ∀ w, (zeroValue 93).run Try.prog w = .ok (.agg #[.int .i64 0, .slice none 0 0]) w := fun w => by kernel_rfl
  have H2 : Hid (RWA base (w.alloc (.cells #[.int .i64 0, .slice none 0 0] 93)) w.heap.size 0 [] (.slice none 0 0)) := ⟨heap_alloc_new _ _, TowAt.nil _, inv_newT, hb, fun k hk => by simp [Value.ownBlock] at hk⟩
  have F2 : Hid (Fr (fun _ => False) w (w.alloc (.cells #[.int .i64 0, .slice none 0 0] 93))) := (Fr.refl _ _).alloc _
  go_enter Try.func29, Try.ntmps29
  go_wp2_with (fail)
  go_ret
  exact ⟨rfl, H2.out, F2.out⟩
/-- Where a timer stands. -/
def FoundT (L : List (Int × Int)) (d r : Int) : Prop := (r = -1 ∧ findT L d = none) ∨ ∃ (i : Nat) (y : Int × Int), r = (i : Int) ∧ L[i]? = some y ∧ y.1 = d ∧ findT L d = some y
theorem rqfind_in {base : Nat} {w : World} {g N : Nat} {L : List (Int × Int)} {vL : Value} (h : RWA base w g N L vL) (d : Int) : Calls Try.prog 52 #[.pointer (some ⟨g, 0, none⟩), .int .i64 d] w fun e w' => (∃ r, e = .returned (.int .i64 r) ∧ FoundT L d r) ∧ w = w' := by
  have H : Hid (RWA base w g N L vL) := h
  obtain ⟨a, c, rfl, hcap⟩ := h.row.form
  obtain ⟨c0, c1⟩ := h.cells
  have hfew := h.inv.few
  obtain ⟨n, hn⟩ : ∃ n, L.length = n := ⟨_, rfl⟩
  rw [hn] at c1 hfew hcap H
  have HN : Hid (L.length = n) := hn
  clear h hn
  go_enter Try.func52, Try.ntmps52
  go_wp2_with (fail)
  go_loopw [5] (fun x5 wr => ∃ i : Nat, x5 = .int .i64 (i : Int) ∧ i ≤ n ∧ w = wr ∧ Hid (∀ x ∈ L.take i, x.1 ≠ d)) (fun x5 _ => n - (intOf x5).toNat)
  case atStart => exact ⟨0, rfl, by omega, rfl, fun x hx => by simp at hx⟩
  case round =>
    obtain ⟨i, rfl, hin, rfl, HK⟩ := hrel
    by_cases hlt : i < n
    · have hlt2 : (i : Int) < (n : Int) := by omega
      obtain ⟨⟨yd, ys⟩, hy⟩ : ∃ y, L[i]? = some y := ⟨L[i]'(by rw [HN.out]; exact hlt), List.getElem?_eq_getElem _⟩
      obtain ⟨gl, cap, e1, r0, r1, -⟩ := H.out.row.cells i _ hy
      cases e1
      dsimp only at r0 r1
      have HY : Hid (L[i]? = some (yd, ys)) := hy
      clear hy
      by_cases hd : yd = d
      · subst hd
        go_wp2_with (fail)
        go_ret
        refine ⟨⟨i, rfl, .inr ⟨i, _, rfl, HY.out, rfl, ?_⟩⟩, rfl⟩
        exact find_mem H.out.inv.nd (x := (yd, ys)) (List.mem_of_getElem? HY.out)
      · go_wp2_with (fail)
        go_roundw
        case rel =>
          refine ⟨i + 1, by go_num, by omega, (by first | rfl | trivial), fun x hx => ?_⟩
          have hl := (List.getElem?_eq_some_iff.1 HY.out).1
          rw [List.take_succ_eq_append_getElem hl, List.mem_append, List.mem_singleton] at hx
          rcases hx with hx | rfl
          · exact HK.out x hx
          · have e := HY.out
            rw [List.getElem?_eq_getElem hl] at e
            rw [Option.some.inj e]
            exact hd
        case measure => simp [intOf]; omega
    · obtain rfl : n = i := by omega
      go_wp2_with (fail)
      go_ret
      have e := HK.out
      rw [← HN.out, List.take_length] at e
      exact ⟨⟨-1, rfl, .inl ⟨rfl, findT_of_none e⟩⟩, rfl⟩
theorem rqfind_none {base : Nat} {w : World} {g N : Nat} {L : List (Int × Int)} {vL : Value} (h : RWA base w g N L vL) (d : Int) (hf : findT L d = none) : Calls Try.prog 52 #[.pointer (some ⟨g, 0, none⟩), .int .i64 d] w fun e w' => e = .returned (.int .i64 (-1)) ∧ w = w' := by
  refine (rqfind_in h d).mono ?_
  rintro e w' ⟨⟨r, rfl, hr⟩, rfl⟩
  rcases hr with ⟨rfl, -⟩ | ⟨i, y, rfl, h1, h2, h3⟩
  · exact ⟨rfl, rfl⟩
  · rw [hf] at h3; cases h3
theorem rqfind_some {base : Nat} {w : World} {g N : Nat} {L : List (Int × Int)} {vL : Value} (h : RWA base w g N L vL) (d : Int) {x : Int × Int} (hf : findT L d = some x) : Calls Try.prog 52 #[.pointer (some ⟨g, 0, none⟩), .int .i64 d] w fun e w' => (∃ i : Nat, e = .returned (.int .i64 (i : Int)) ∧ L[i]? = some x) ∧ w = w' := by
  refine (rqfind_in h d).mono ?_
  rintro e w' ⟨⟨r, rfl, hr⟩, rfl⟩
  rcases hr with ⟨rfl, hn⟩ | ⟨i, y, rfl, h1, h2, h3⟩
  · rw [hf] at hn; cases hn
  · rw [hf] at h3; cases h3
    exact ⟨⟨i, rfl, h1⟩, rfl⟩
theorem del_atT {L : List (Int × Int)} (hn : (L.map (·.1)).Nodup) {i : Nat} {x : Int × Int} (hi : L[i]? = some x) : L.take i ++ L.drop (i + 1) = delT L x.1 := by
  have hl := (List.getElem?_eq_some_iff.1 hi).1
  have e0 : L = L.take i ++ x :: L.drop (i + 1) := by
    have e1 : L[i] = x := by rw [List.getElem?_eq_getElem hl] at hi; exact Option.some.inj hi
    rw [← e1, ← List.drop_eq_getElem_cons hl, List.take_append_drop]
  rw [e0] at hn
  rw [List.map_append, List.map_cons, List.nodup_append, List.nodup_cons] at hn
  conv => rhs; rw [e0]
  unfold delT
  rw [List.filter_append, List.filter_cons, if_neg (by simp)]
  congr 1
  · symm
    rw [List.filter_eq_self]
    intro y hy
    have := hn.2.2 y.1 (List.mem_map.2 ⟨y, hy, rfl⟩) x.1 (List.mem_cons_self ..)
    simpa using this
  · symm
    rw [List.filter_eq_self]
    intro y hy
    have : y.1 ≠ x.1 := fun e => hn.2.1.1 (List.mem_map.2 ⟨y, hy, e⟩)
    simpa using this
theorem rqCancel_in {base : Nat} {w : World} {g N : Nat} {L : List (Int × Int)} {vL : Value} (h : RWA base w g N L vL) (hb : base ≤ w.heap.size) (d : Int) : Calls Try.prog 53 #[.pointer (some ⟨g, 0, none⟩), .int .i64 d] w fun e w' => e = .returned (.int .i64 (cancelT L d).1) ∧ RPo base w g vL N (cancelT L d).2 w' := by
  cases hf : findT L d with
  | none =>
    have K := rqfind_none h d hf
    have H : Hid (RWA base w g N L vL) := h
    have hl : cancelT L d = (6, L) := by unfold cancelT; rw [hf]
    rw [hl]
    clear h hf hl
    go_enter Try.func53, Try.ntmps53
    go_wp2_with (go_at_call 52; refine K.mono ?_; clear K; rintro e w' ⟨rfl, rfl⟩)
    go_ret
    exact ⟨rfl, RPo.refl H.out⟩
  | some x =>
    have K := rqfind_some h d hf
    have hl : cancelT L d = (0, delT L d) := by unfold cancelT; rw [hf]
    rw [hl]
    have HXD : Hid (x.1 = d) := (findT_some hf).2
    have H : Hid (RWA base w g N L vL) := h
    obtain ⟨a, c, rfl, hcap⟩ := h.row.form
    obtain ⟨c0, c1⟩ := h.cells
    have hfew := h.inv.few
    obtain ⟨n, hn⟩ : ∃ n, L.length = n := ⟨_, rfl⟩
    rw [hn] at c1 hfew hcap H
    rw [hn]
    have HN : Hid (L.length = n) := hn
    have HB : Hid (base ≤ w.heap.size) := hb
    clear h hn hf hl
    go_enter Try.func53, Try.ntmps53
    go_upto_region 2 with (go_at_call 52; refine K.mono ?_; clear K; rintro e w' ⟨⟨i, rfl, hi⟩, rfl⟩)
    have hlt : i < n := by rw [← HN.out]; exact (List.getElem?_eq_some_iff.1 hi).1
    have hlt2 : (i : Int) < (n : Int) := by omega
    have hi0 : ¬ (i : Int) < 0 := by omega
    obtain ⟨gl, cap, e1, -, -, -⟩ := H.out.row.cells i _ hi
    have e2 := (Value.slice.inj e1).1
    subst e2
    clear e1
    have hl1 : (L.take i).length = i := by rw [List.length_take, HN.out]; omega
    have hl2 : (L.drop (i + 1)).length = n - (i + 1) := by rw [List.length_drop, HN.out]
    obtain ⟨a4, c4, w4, hr4, hR4, hF4, hO4⟩ := tow_append (TowAt.nil w) (some ⟨gl, 0, none⟩) i c (M := L.take i) hl1.symm (fun hp => by
      obtain ⟨g', e', hs⟩ := H.out.row.src 0 (L.take i) (by rw [List.drop_zero, hl1]) hp
      cases e'
      exact ⟨_, rfl, by simpa using hs⟩) (by simp; omega)
    rw [List.nil_append, hl1] at hr4 hR4 hO4
    have F4 : Hid (Fr (fun _ => False) w w4) := hF4.mono (fun k _ e => by simp [Value.ownBlock] at e)
    have H4 : Hid (RWA base w4 g N L (.slice (some ⟨gl, 0, none⟩) n c)) := H.out.later F4.out
    obtain ⟨dp, hcut2, hdp⟩ := tcut_from Try.prog 91 95 Try.underlying91 (by kernel_rfl) ⟨gl, 0, none⟩ n c (i + 1) (by omega) (by omega)
    have hcut3 : ∀ w, (Instr.slice 91 (.slice (some ⟨gl, 0, none⟩) n c) (some (.int .i64 ((i : Int) + 1))) none none).run Try.prog w = .ok (.slice dp (n - (i + 1)) (c - (i + 1))) w := hcut2
    clear hcut2
    have hcut1 := tcut_to Try.prog 91 95 Try.underlying91 (by kernel_rfl) ⟨gl, 0, none⟩ n c i (by omega) (by omega) (by omega) (by rw [add_none])
    obtain ⟨a5, c5, w5, hr5, hR5, hF5, hO5⟩ := tow_append hR4 dp (n - (i + 1)) (c - (i + 1)) (M := L.drop (i + 1)) hl2.symm (fun hp => by
      obtain ⟨g', e', hs⟩ := H4.out.row.src (i + 1) (L.drop (i + 1)) (by rw [List.take_length]) hp
      cases e'
      refine ⟨_, hdp (by omega), ?_⟩
      rw [add_none, Nat.zero_add]
      exact hs) (by rw [hl1, hl2]; omega)
    have hdel := del_atT H.out.inv.nd hi
    rw [HXD.out] at hdel
    rw [hdel] at hR5
    have hl5 : (L.take i ++ L.drop (i + 1)).length = n - 1 := by rw [List.length_append, hl1, hl2]; omega
    have hl6 : (delT L d).length = n - 1 := by rw [← hdel]; exact hl5
    rw [hl5] at hr5 hO5
    rw [hl6] at hR5
    have hsz3 := F4.out.size
    have N4 : ∀ k, (Value.slice a4 i c4).ownBlock = some k → w.heap.size ≤ k := fun k hk => by
      rcases hO4 with e | e
      · rw [e] at hk; simp [Value.ownBlock] at hk
      · rw [e] at hk; cases hk; omega
    have N5 : Hid (∀ k, (Value.slice a5 (n - 1) c5).ownBlock = some k → w.heap.size ≤ k) := fun k hk => by
      rcases hO5 with e | e
      · rw [e] at hk; exact N4 k hk
      · rw [e] at hk; cases hk; omega
    have F5 : Hid (Fr (fun _ => False) w w5) := ((F4.out.mono (T := fun k => w.heap.size ≤ k) (fun _ _ e => e.elim)).trans (hF5.mono (fun k _ e => N4 k e))).mono (fun k hk e => by have : w.heap.size ≤ k := e; omega)
    have k4 : w4.cell? ⟨g, 1, none⟩ = some (.slice (some ⟨gl, 0, none⟩) n c) := H4.out.cells.2
    have H5 : Hid (RWA base w5 g N L (.slice (some ⟨gl, 0, none⟩) n c)) := H.out.later F5.out
    have k5 : w5.cell? ⟨g, 1, none⟩ = some (.slice (some ⟨gl, 0, none⟩) n c) := H5.out.cells.2
    have z5 : w5.frozen? ⟨g, 1, none⟩ = false := frozen_of_heap H5.out.blk
    have HE : Hid (RPo base w g (.slice (some ⟨gl, 0, none⟩) n c) N (delT L d) (w5.setCell ⟨g, 1, none⟩ (.slice a5 (n - 1) c5))) := by
      have f6 : Fr (fun k => k = g) w5 (w5.setCell ⟨g, 1, none⟩ (.slice a5 (n - 1) c5)) := (Fr.refl _ _).setB _ _
      refine ⟨.slice a5 (n - 1) c5, ⟨?_, hR5.fr f6 (fun k hk e => ?_), inv_del H.out.inv d, H.out.bg, fun k hk => Nat.le_trans HB.out (N5.out k hk)⟩, (F5.out.mono (fun _ _ e => e.elim)).trans (f6.mono (fun k _ e => .inl e)), fun k hk hk2 => ?_⟩
      · rw [block_set H5.out.blk]
        rfl
      · have h1 := N5.out k hk
        have h2 := lt_of_heap H.out.blk
        omega
      · have h1 := N5.out k hk
        omega
    clear hdel hR5 hR4 hF4 hO4 hF5 hO5 hl1 hl2 hl5 hl6 hdp N4 hi hsz3
    go_wp2_with (first
      | (refine wpList_append_run9 rfl (.tmp 12) (.tmp 18) 91 rfl (.slice none 0 0) (.slice (some ⟨gl, 0, none⟩) i c) (.slice a4 i c4) rfl rfl hr4 ?_)
      | (refine wpList_append_run9 rfl (.tmp 21) (.tmp 28) 91 rfl (.slice a4 i c4) (.slice dp (n - (i + 1)) (c - (i + 1))) (.slice a5 (n - 1) c5) rfl rfl hr5 ?_))
    go_ret
    exact ⟨rfl, HE.out⟩
end Go.Proofs.Ytoiencoojkahmaa
