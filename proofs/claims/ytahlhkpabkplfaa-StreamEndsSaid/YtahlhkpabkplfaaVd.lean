/- The document's streams: drop, put. -/
import Derived.Test.YtahlhkpabkplfaaVc
import Derived.Test.YtahlhkpabkplfaaXp
import Derived.Test.YtahlhkpabkplfaaYk
import Derived.Deep.Cut
import Derived.Deep.QuietTactic
namespace Go.Proofs.Ytahlhkpabkplfaa
open Go.RowKit
set_option linter.unusedVariables false
set_option maxRecDepth 100000
set_option maxHeartbeats 4000000

theorem own_rest {w : World} {e : TypeId} {g off n cap : Nat} {u : Value} {r : List Value} (h : OwnAt w e (.slice (some ⟨g, off, none⟩) n cap) (u :: r)) (hc : 1 < cap) : OwnAt w e (.slice (some ⟨g, off + 1, none⟩) (n - 1) (cap - 1)) r := by
  rcases h with ⟨h, _⟩ | ⟨g', off', cap', cur, h, hg, h1, h2, h3, h4⟩
  · cases h
  · cases h
    simp only [List.length_cons] at h2 h4
    have hr : (cur.toList.drop (off + 1)).take r.length = r := by
      have := congrArg (List.drop 1) h4
      rw [List.drop_take, List.drop_drop] at this
      simpa using this
    exact .inr ⟨g, off + 1, cap - 1, cur, by simp, hg, by omega, by omega, by omega, hr⟩
theorem cut_front (P : Program) (t e : TypeId) (ht : P.underlying t = some (.slice e)) (hsz : (P.info? e).map (·.size) = some 1) (a : Addr) (len cap : Nat) (hl : 1 ≤ len) (hc : 1 < cap) :
    ∀ w, (Instr.slice t (.slice (some a) len cap) (some (.int .i64 1)) none none).run P w = .ok (.slice (some (a.add 1)) (len - 1) (cap - 1)) w := by
  intro w
  have hb := run_sliceBound (P := P) (w := w) .i64 ((1 : Nat) : Int) len .sliceB (by omega) (by omega)
  cases hi : P.info? e with
  | none => simp [hi] at hsz
  | some i =>
  have h1 : i.size = 1 := by simpa [hi] using hsz
  have hb' := hb
  rw [show ((1 : Nat) : Int) = 1 from rfl] at hb'
  have hc1 : ¬ cap = 1 := by omega
  simp [Instr.slice, run_underlying ht, Instr.sliceBounds, hb', sizeOf, typeInfo, hi, h1, hc1]
theorem rydrop_in (base g : Nat) (S : Stm) (vL vG : Value) (d : Int) (w : World) (h : RAt base w g S vL vG) (hb : base ≤ w.heap.size) : Calls Try.prog 50 #[.pointer (some ⟨g, 0, none⟩), .int .i64 d] w fun e w' => e = .returned (.tuple #[]) ∧ ∃ uG, RAt base w' g (dropS S d) vL uG ∧ Fr (fun k => k = g ∨ vG.ownBlock = some k) w w' ∧ (uG.ownBlock = vG.ownBlock ∨ ∃ k, uG.ownBlock = some k ∧ w.heap.size ≤ k) := by
  have H : Hid (RAt base w g S vL vG) := h
  obtain ⟨c0, c1, c2, c3, c4, c5, c6⟩ := h.cells
  have hfew := h.inv.few
  have HI := inv_drop h.inv d
  clear h
  go_enter Try.func50, Try.ntmps50
  go_upto_region 1 with (refine wpList_addI rfl (.tmp 8) (.tmp 10) rfl vG S.gone d rfl H.out.gone rfl (by omega) ?_; intro a1 n1 q1 w2 N2 H2 F2 O2; have R2 : Hid (w2.heap[g]? = some (.cells #[.bool S.server, .int .i64 S.most, .int .i64 S.mine, vL, vG, .int .i64 S.theirs, .int .i64 S.ours] 72 (0, 0))) := (F2.out.block g (lt_of_heap H.out.blk) (fun e => H.out.apart.2.1 g e rfl)).trans H.out.blk; have k4 : w2.cell? ⟨g, 4, none⟩ = some vG := cell_of_heap R2.out rfl; have z4 : w2.frozen? ⟨g, 4, none⟩ = false := frozen_of_heap R2.out)
  obtain ⟨w3, hw3⟩ : ∃ w3, w3 = w2.setCell ⟨g, 4, none⟩ (.slice a1 n1 q1) := ⟨_, rfl⟩
  have F3 : Hid (Fr (fun k => k = g) w2 w3) := by rw [hw3]; exact setB_fr _ _ rfl
  have R3 : Hid (w3.heap[g]? = some (.cells #[.bool S.server, .int .i64 S.most, .int .i64 S.mine, vL, .slice a1 n1 q1, .int .i64 S.theirs, .int .i64 S.ours] 72 (0, 0))) := by rw [hw3]; exact vset R2.out
  rw [← hw3]
  clear hw3 k4 z4 c0 c1 c2 c3 c4 c5 c6
  have HB : Hid (∀ k, (Value.slice a1 n1 q1).ownBlock = some k → base ≤ k ∧ k ≠ g) := fun k hk => by
    rcases O2.out with e | ⟨j, e, hj⟩
    · rw [e] at hk; exact H.out.bs.2 k hk
    · rw [e] at hk
      cases hk
      have := lt_of_heap H.out.blk
      omega
  have H3 : Hid (OwnAt w3 3 (.slice a1 n1 q1) ((S.gone ++ [d]).map (Value.int .i64))) := H2.out.fr F3.out (fun k hk => (HB.out k hk).2)
  have L3 : Hid (RowAt w3 vL S.L) := (H.out.row.fr F2.out (fun k hk => H.out.apart.2.2 k hk)).fr F3.out (fun k hk => H.out.apart.1 k hk)
  have F23 : Hid (Fr (fun k => k = g ∨ vG.ownBlock = some k) w w3) := (F2.out.mono (fun _ _ e => .inr e)).trans (F3.out.mono (fun _ _ e => .inl e))
  have c4 : w3.cell? ⟨g, 4, none⟩ = some (.slice a1 n1 q1) := cell_of_heap R3.out rfl
  have z4 : w3.frozen? ⟨g, 4, none⟩ = false := frozen_of_heap R3.out
  have HII : Hid (InvS (dropS S d)) := HI
  clear HI
  by_cases hk : S.gone.length < 64
  · have HG : Hid ((dropS S d).gone = S.gone ++ [d]) := by
      show last64 (S.gone ++ [d]) = S.gone ++ [d]
      unfold last64
      rw [List.length_append, List.length_singleton, Nat.sub_eq_zero_of_le (by omega), List.drop_zero]
    have hn1 : (n1 : Int) ≤ 64 := by rw [N2.out]; omega
    clear hfew hk
    go_wp2_with (fail)
    refine bodyPost_end (results_none rfl _ _ _) rfl ⟨rfl, .slice a1 n1 q1, ⟨R3.out, L3.out, by rw [HG.out]; exact H3.out, HII.out, H.out.bg, H.out.bL, fun k hk => (HB.out k hk).1⟩, F23.out, O2.out⟩
  · have h64 : S.gone.length = 64 := by omega
    obtain ⟨x, r, hxr⟩ : ∃ x r, S.gone = x :: r := by
      cases hg : S.gone with
      | nil => rw [hg] at h64; simp at h64
      | cons x r => exact ⟨x, r, rfl⟩
    have hrl : r.length = 63 := by rw [hxr] at h64; simpa using h64
    have HG : Hid ((dropS S d).gone = r ++ [d]) := by
      show last64 (S.gone ++ [d]) = r ++ [d]
      unfold last64
      rw [List.length_append, List.length_singleton, h64, hxr]
      rfl
    obtain rfl : n1 = 65 := by rw [N2.out, h64]
    have H4 : Hid (OwnAt w3 3 (.slice a1 65 q1) (.int .i64 x :: (r ++ [d]).map (Value.int .i64))) := by
      have := H3.out
      rw [hxr] at this
      exact this
    have hq : 65 ≤ q1 := by
      rcases H4.out with ⟨e, _⟩ | ⟨_, _, _, _, e, _, _, h2, _⟩
      · cases e
      · have e3 := (Value.slice.inj e).2.2
        simp [hrl] at h2
        omega
    obtain ⟨gg, off, cap, e1, -⟩ := H4.out.cells 0 _ rfl
    have e2 := (Value.slice.inj e1).1
    subst e2
    have hcut := cut_front Try.prog 62 3 Try.underlying62 (by kernel_rfl) ⟨gg, off, none⟩ 65 q1 (by omega) (by omega)
    rw [add_none] at hcut
    have H5 : Hid (OwnAt w3 3 (.slice (some ⟨gg, off + 1, none⟩) 64 (q1 - 1)) ((r ++ [d]).map (Value.int .i64))) := own_rest H4.out (by omega)
    have hgg := HB.out gg rfl
    clear hfew hk h64 hxr hrl e1 H4
    simp only [Nat.reduceSub] at hcut
    go_wp2_with (fail)
    refine wp_region_cut 14 1 #[true, true, true, true, true, true, true, true, true, true, true, true, true, true, false] (by kernel_rfl) (by kernel_rfl) rfl rfl ?_
    simp only [List.take_succ_cons, List.take_zero]
    repeat (go_big_quiet_step (fail))
    refine wpQuiet_nil ?_
    rintro _ ⟨nq, rfl⟩ mm
    refine wpAny_ready (rs := [14]) (by kernel_rfl) (by simp) ?_
    refine AllReady.cons rfl (fun K hK => ?_) AllReady.nil
    go_simp
    refine hK _ _ ?_
    clear hK K
    refine wpAny_done (by kernel_rfl) ?_ _
    obtain ⟨w5, hw5⟩ : ∃ w5, w5 = (w3.drewN nq).setCell ⟨g, 4, none⟩ (.slice (some ⟨gg, off + 1, none⟩) 64 (q1 - 1)) := ⟨_, rfl⟩
    have F5 : Fr (fun k => k = g) w3 w5 := by rw [hw5]; exact ((Fr.refl _ _).drewN nq).setB _ _
    have R5 : w5.heap[g]? = some (.cells #[.bool S.server, .int .i64 S.most, .int .i64 S.mine, vL, .slice (some ⟨gg, off + 1, none⟩) 64 (q1 - 1), .int .i64 S.theirs, .int .i64 S.ours] 72 (0, 0)) := by rw [hw5]; exact vset (w := w3.drewN nq) R3.out
    rw [← hw5]
    clear hw5
    go_wp2_with (fail)
    refine bodyPost_end (results_none rfl _ _ _) rfl ⟨rfl, .slice (some ⟨gg, off + 1, none⟩) 64 (q1 - 1), ⟨R5, L3.out.fr F5 (fun k hk => H.out.apart.1 k hk), by rw [HG.out]; exact H5.out.fr F5 (fun k hk => by cases hk; exact hgg.2), HII.out, H.out.bg, H.out.bL, fun k hk => by cases hk; exact hgg.1⟩, F23.out.trans (F5.mono (fun _ _ e => .inl e)), O2.out⟩
/-- What is gathered of a list into which a number is put. -/
def PutI (d : Int) (L : List (Int × Int)) (i : Nat) (done : Bool) (M : List (Int × Int)) : Prop := M.length = i + (if done then 1 else 0) ∧ (if done then putL d L = M ++ L.drop i else putL d L = M ++ putL d (L.drop i))
theorem putI_start (d : Int) (L : List (Int × Int)) : PutI d L 0 false [] := ⟨rfl, rfl⟩
theorem drop_one {L : List (Int × Int)} {i : Nat} {y : Int × Int} (h : L[i]? = some y) : L.drop i = y :: L.drop (i + 1) := by
  have hl := (List.getElem?_eq_some_iff.1 h).1
  rw [List.getElem?_eq_getElem hl] at h
  rw [List.drop_eq_getElem_cons hl, Option.some.inj h]
theorem PutI.done {d : Int} {L : List (Int × Int)} {i : Nat} {M : List (Int × Int)} {y : Int × Int} (h : PutI d L i true M) (hy : L[i]? = some y) : PutI d L (i + 1) true (M ++ [y]) := by
  obtain ⟨h1, h2⟩ := h
  simp only [if_true] at h1 h2
  rw [drop_one hy] at h2
  refine ⟨by simp; omega, ?_⟩
  simp only [if_true]
  rw [h2]
  simp
theorem PutI.later {d : Int} {L : List (Int × Int)} {i : Nat} {M : List (Int × Int)} {y : Int × Int} (h : PutI d L i false M) (hy : L[i]? = some y) (hd : ¬ d < y.1) : PutI d L (i + 1) false (M ++ [y]) := by
  obtain ⟨h1, h2⟩ := h
  simp only [Bool.false_eq_true, if_false] at h1 h2
  rw [drop_one hy, putL, if_neg hd] at h2
  refine ⟨by simp; omega, ?_⟩
  simp only [Bool.false_eq_true, if_false]
  rw [h2]
  simp
theorem PutI.now {d : Int} {L : List (Int × Int)} {i : Nat} {M : List (Int × Int)} {y : Int × Int} (h : PutI d L i false M) (hy : L[i]? = some y) (hd : d < y.1) : PutI d L (i + 1) true ((M ++ [(d, 0)]) ++ [y]) := by
  obtain ⟨h1, h2⟩ := h
  simp only [Bool.false_eq_true, if_false] at h1 h2
  rw [drop_one hy, putL, if_pos hd] at h2
  refine ⟨by simp; omega, ?_⟩
  simp only [if_true]
  rw [h2]
  simp
/-- A row that is gathered. -/
def GatL (w wr : World) (v : Value) (M : List (Int × Int)) : Prop := RowAt wr v M ∧ (∀ k, v.ownBlock = some k → w.heap.size ≤ k) ∧ Fr (fun _ => False) w wr
theorem GatL.step {w wr w2 : World} {v u : Value} {M N : List (Int × Int)} (h : GatL w wr v M) (h2 : RowAt w2 u N) (hf : Fr (fun k => v.ownBlock = some k) wr w2) (ho : u.ownBlock = v.ownBlock ∨ ∃ k, u.ownBlock = some k ∧ wr.heap.size ≤ k) : GatL w w2 u N :=
  ⟨h2, newer (w' := w2) h.2.1 h.2.2.size ho, h.2.2.fresh hf h.2.1⟩
theorem ryput_in (base g : Nat) (S T : Stm) (vL vG : Value) (d : Int) (w : World) (h : RAt base w g S vL vG) (hb : base ≤ w.heap.size) (hT : T = { S with L := putL d S.L }) (hi : InvS T) : Calls Try.prog 51 #[.pointer (some ⟨g, 0, none⟩), .int .i64 d] w fun e w' => e = .returned (.tuple #[]) ∧ ∃ uL, RAt base w' g T uL vG ∧ Fr (fun k => k = g) w w' ∧ (∀ k, uL.ownBlock = some k → w.heap.size ≤ k) := by
  have H : Hid (RAt base w g S vL vG) := h
  have HT : Hid (T = { S with L := putL d S.L } ∧ InvS T) := ⟨hT, hi⟩
  obtain ⟨a, c, rfl, hcap⟩ := h.row.form
  have hfew := few_known h.inv
  obtain ⟨n, hn⟩ : ∃ n, S.L.length = n := ⟨_, rfl⟩
  rw [hn] at hfew hcap H
  have HN : Hid (S.L.length = n) := hn
  have c3 : w.cell? ⟨g, 3, none⟩ = some (.slice a n c) := H.out.cells.2.2.2.1
  clear h hn hT hi
  go_enter Try.func51, Try.ntmps51
  go_wp2_with (fail)
  go_loopw [4, 5, 6] (fun x4 x5 x6 wr => ∃ (i m lc : Nat) (la : Option Addr) (dn : Bool) (M : List (Int × Int)), x4 = .slice la m lc ∧ x5 = .bool dn ∧ x6 = .int .i64 (i : Int) ∧ i ≤ n ∧ m ≤ i + 1 ∧ Hid (GatL w wr (.slice la m lc) M ∧ PutI d S.L i dn M ∧ M.length = m)) (fun _ _ x6 _ => n - (intOf x6).toNat)
  case atStart => exact ⟨0, 0, 0, none, false, [], rfl, rfl, rfl, by omega, by omega, ⟨RowAt.nil _, fun k hk => by simp [Value.ownBlock] at hk, Fr.refl _ _⟩, putI_start _ _, rfl⟩
  case round =>
    obtain ⟨i, m, lc, la, dn, M, rfl, rfl, rfl, hin, hmi, HK⟩ := hrel
    have HR : Hid (RAt base wr g S (.slice a n c) vG) := H.out.later HK.out.1.2.2
    clear c3
    have c3 : wr.cell? ⟨g, 3, none⟩ = some (.slice a n c) := HR.out.cells.2.2.2.1
    by_cases hlt : i < n
    · have hlt2 : (i : Int) < (n : Int) := by omega
      obtain ⟨⟨yd, ys⟩, hy⟩ : ∃ y, S.L[i]? = some y := ⟨S.L[i]'(by rw [HN.out]; exact hlt), List.getElem?_eq_getElem _⟩
      obtain ⟨gl, cap, e1, r0, r1, -⟩ := HR.out.row.cells i _ hy
      have e2 := (Value.slice.inj e1).1
      subst e2
      dsimp only at r0 r1
      have HY : Hid (S.L[i]? = some (yd, ys)) := hy
      clear e1 hy
      have HMl : Hid (M.length ≤ 3000) := by have := HK.out.2.2; show _ ≤ _; omega
      cases dn
      · by_cases hd : d < yd
        · go_upto_region 7 with (refine wpList_addL rfl (.tmp 30) (.tmp 33) rfl rfl (.slice la m lc) M d 0 rfl HK.out.1.1 rfl (by have := HMl.out; omega) ?_; intro la2 n2 lc2 w2 N2 H2 F2 O2)
          have HK2 : Hid (GatL w w2 (.slice la2 n2 lc2) (M ++ [(d, 0)])) := HK.out.1.step H2.out F2.out O2.out
          have HR2 : Hid (RAt base w2 g S (.slice (some ⟨gl, 0, none⟩) n c) vG) := H.out.later HK2.out.2.2
          have HL2 : Hid (n2 = (M ++ [(d, 0)]).length) := by show _ = _; rw [N2.out]; simp
          clear c3 r0 r1
          have c3 : w2.cell? ⟨g, 3, none⟩ = some (.slice (some ⟨gl, 0, none⟩) n c) := HR2.out.cells.2.2.2.1
          obtain ⟨gl', cap', e1, r0, r1, -⟩ := HR2.out.row.cells i _ HY.out
          have e2 := (Value.slice.inj e1).1
          cases e2
          dsimp only at r0 r1
          clear e1
          go_wp2_with (refine wpList_addL rfl (.tmp 35) (.tmp 43) rfl rfl (.slice la2 n2 lc2) (M ++ [(d, 0)]) yd ys rfl HK2.out.1 rfl (by have := HMl.out; simp; omega) ?_; intro la3 n3 lc3 w3 N3 H3 F3 O3)
          have HK3 : Hid (GatL w w3 (.slice la3 n3 lc3) ((M ++ [(d, 0)]) ++ [(yd, ys)])) := HK2.out.step H3.out F3.out O3.out
          have HL3 : Hid (((M ++ [(d, 0)]) ++ [(yd, ys)]).length = n3) := by show _ = _; rw [N3.out]; simp
          have hm3 : n3 ≤ i + 1 + 1 := by have h1 := HL3.out; have h2 := HK.out.2.2; have h3 := HK.out.2.1.1; simp at h1 h3; omega
          go_roundw
          case rel => exact ⟨i + 1, n3, lc3, la3, true, _, rfl, rfl, by go_num, by omega, hm3, HK3.out, HK.out.2.1.now HY.out hd, HL3.out⟩
          case measure => simp [intOf]; omega
        · go_wp2_with (refine wpList_addL rfl (.tmp 35) (.tmp 43) rfl rfl (.slice la m lc) M yd ys rfl HK.out.1.1 rfl (by have := HMl.out; omega) ?_; intro la3 n3 lc3 w3 N3 H3 F3 O3)
          have HK3 : Hid (GatL w w3 (.slice la3 n3 lc3) (M ++ [(yd, ys)])) := HK.out.1.step H3.out F3.out O3.out
          have HL3 : Hid ((M ++ [(yd, ys)]).length = n3) := by show _ = _; rw [N3.out]; simp
          have hm3 : n3 ≤ i + 1 + 1 := by have h1 := HL3.out; have h2 := HK.out.2.2; have h3 := HK.out.2.1.1; simp at h1 h3; omega
          go_roundw
          case rel => exact ⟨i + 1, n3, lc3, la3, false, _, rfl, rfl, by go_num, by omega, hm3, HK3.out, HK.out.2.1.later HY.out hd, HL3.out⟩
          case measure => simp [intOf]; omega
      · go_wp2_with (refine wpList_addL rfl (.tmp 35) (.tmp 43) rfl rfl (.slice la m lc) M yd ys rfl HK.out.1.1 rfl (by have := HMl.out; omega) ?_; intro la3 n3 lc3 w3 N3 H3 F3 O3)
        have HK3 : Hid (GatL w w3 (.slice la3 n3 lc3) (M ++ [(yd, ys)])) := HK.out.1.step H3.out F3.out O3.out
        have HL3 : Hid ((M ++ [(yd, ys)]).length = n3) := by show _ = _; rw [N3.out]; simp
        have hm3 : n3 ≤ i + 1 + 1 := by have h1 := HL3.out; have h2 := HK.out.2.2; have h3 := HK.out.2.1.1; simp at h1 h3; omega
        go_roundw
        case rel => exact ⟨i + 1, n3, lc3, la3, true, _, rfl, rfl, by go_num, by omega, hm3, HK3.out, HK.out.2.1.done HY.out, HL3.out⟩
        case measure => simp [intOf]; omega
    · obtain rfl : n = i := by omega
      have hdr : S.L.drop n = [] := by rw [List.drop_eq_nil_iff, HN.out]; exact Nat.le_refl _
      have HMl : Hid (M.length ≤ 3000) := by have := HK.out.2.2; show _ ≤ _; omega
      cases dn
      · have HP : Hid (putL d S.L = M ++ [(d, 0)]) := by
          have h2 := HK.out.2.1.2
          simp only [Bool.false_eq_true, if_false] at h2
          rw [hdr] at h2
          exact h2
        clear hdr
        go_upto_region 11 with (refine wpList_addL rfl (.tmp 47) (.tmp 50) rfl rfl (.slice la m lc) M d 0 rfl HK.out.1.1 rfl (by have := HMl.out; omega) ?_; intro la2 n2 lc2 w2 N2 H2 F2 O2)
        have HK2 : Hid (GatL w w2 (.slice la2 n2 lc2) (M ++ [(d, 0)])) := HK.out.1.step H2.out F2.out O2.out
        have HR2 : Hid (RAt base w2 g S (.slice a n c) vG) := H.out.later HK2.out.2.2
        clear c3
        have c3 : w2.cell? ⟨g, 3, none⟩ = some (.slice a n c) := HR2.out.cells.2.2.2.1
        have z3 : w2.frozen? ⟨g, 3, none⟩ = false := frozen_of_heap HR2.out.blk
        go_wp2_with (fail)
        have hgl := lt_of_heap H.out.blk
        obtain ⟨hT, hi⟩ := HT.out
        subst hT
        refine bodyPost_end (results_none rfl _ _ _) rfl ⟨rfl, .slice la2 n2 lc2, ?_, (HK2.out.2.2.mono (fun _ _ e => e.elim)).trans (setB_fr _ _ rfl), HK2.out.2.1⟩
        exact HR2.out.put 3 _ rfl hi (by rw [HP.out]; exact HK2.out.1) HR2.out.gone (fun k hk => by have := HK2.out.2.1 k hk; omega) HR2.out.bs.2
      · have HP : Hid (putL d S.L = M) := by
          have h2 := HK.out.2.1.2
          simp only [if_true] at h2
          rw [hdr] at h2
          show _ = _
          simpa using h2
        clear hdr
        have z3 : wr.frozen? ⟨g, 3, none⟩ = false := frozen_of_heap HR.out.blk
        go_wp2_with (fail)
        have hgl := lt_of_heap H.out.blk
        obtain ⟨hT, hi⟩ := HT.out
        subst hT
        refine bodyPost_end (results_none rfl _ _ _) rfl ⟨rfl, .slice la m lc, ?_, (HK.out.1.2.2.mono (fun _ _ e => e.elim)).trans (setB_fr _ _ rfl), HK.out.1.2.1⟩
        exact HR.out.put 3 _ rfl hi (by rw [HP.out]; exact HK.out.1.1) HR.out.gone (fun k hk => by have := HK.out.1.2.1 k hk; omega) HR.out.bs.2
end Go.Proofs.Ytahlhkpabkplfaa
