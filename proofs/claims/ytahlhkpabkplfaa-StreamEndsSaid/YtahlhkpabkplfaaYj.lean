/- The program's streams: Peer. -/
import Derived.Test.YtahlhkpabkplfaaYi
namespace Go.Proofs.Ytahlhkpabkplfaa
open Go.RowKit Go.Maps
set_option linter.unusedVariables false
set_option maxRecDepth 100000
set_option maxHeartbeats 4000000

/-- A fault, as a value. -/
def fltV (x : Bool × Int × Int) : Value := .agg #[.bool x.1, .int .i64 x.2.1, .int .i64 x.2.2]
theorem peerS_bad {S : Stm} {d : Int} (h : d < 1 ∨ 2147483647 < d ∨ ownS S.server d = true ∨ d ≤ S.theirs) : peerS S d = (false, true, S) := by unfold peerS; rw [if_pos h]
theorem peerS_full {S : Stm} {d : Int} (h : ¬ (d < 1 ∨ 2147483647 < d ∨ ownS S.server d = true ∨ d ≤ S.theirs)) (hf : S.most ≤ (openS S false : Nat)) : peerS S d = (false, false, dropS { S with theirs := d } d) := by unfold peerS; rw [if_neg h, if_pos hf]
theorem peerS_yes {S : Stm} {d : Int} (h : ¬ (d < 1 ∨ 2147483647 < d ∨ ownS S.server d = true ∨ d ≤ S.theirs)) (hf : ¬ S.most ≤ (openS S false : Nat)) : peerS S d = (true, false, { S with theirs := d, L := putL d S.L }) := by unfold peerS; rw [if_neg h, if_neg hf]
theorem peer_new {S : Stm} (h : InvS S) {d : Int} (hd : ¬ (d < 1 ∨ 2147483647 < d ∨ ownS S.server d = true ∨ d ≤ S.theirs)) : ∀ x ∈ S.L, x.1 ≠ d := fun x hx e => by
  obtain ⟨-, -, h3⟩ := h.num x hx
  have ho : ownS S.server d = false := by cases ho : ownS S.server d with | false => rfl | true => exact absurd (.inr (.inr (.inl ho))) hd
  rw [e, ho] at h3
  simp at h3
  omega
/-- What Peer answers. -/
def peerV (S : Stm) (d : Int) : Value := .tuple #[.bool (peerS S d).1, fltV ((peerS S d).2.1, 0, if (peerS S d).2.1 then 1 else 0)]
theorem yat_full {w : World} {g mb nx : Nat} {S : Stm} {rg : List Int} {d : Int} (h4 : InvS S) (hd : ¬ (d < 1 ∨ 2147483647 < d ∨ ownS S.server d = true ∨ d ≤ S.theirs)) (hf : S.most ≤ (openS S false : Nat)) (h2 : RingY rg nx S.gone)
    (hst : StC w g { ysOf mb S rg nx with pl := d, rg := rg.set nx d, nx := (((nx + 1) % 64 : Nat) : Int) }) (hm : MapAt w mb S.L.length (mapL S.L)) : YAt w g mb (peerS S d).2.2 := by
  have hi := inv_peer h4 d
  rw [peerS_full hd hf] at hi ⊢
  exact ⟨rg.set nx d, (nx + 1) % 64, hst, ring_drop h2 d, hm, hi⟩
theorem yat_peer {w : World} {g mb nx : Nat} {S : Stm} {rg : List Int} {d : Int} (h4 : InvS S) (hd : ¬ (d < 1 ∨ 2147483647 < d ∨ ownS S.server d = true ∨ d ≤ S.theirs)) (hf : ¬ S.most ≤ (openS S false : Nat)) (h2 : RingY rg nx S.gone)
    (hst : StC w g { ysOf mb S rg nx with pl := d, po := (ysOf mb S rg nx).po + 1 }) (hm : MapAt w mb (S.L.length + 1) (putM (mapL S.L) d (.int .i64 0))) : YAt w g mb (peerS S d).2.2 := by
  have hi := inv_peer h4 d
  have ho : ownS S.server d = false := by cases ho : ownS S.server d with | false => rfl | true => exact absurd (.inr (.inr (.inl ho))) hd
  obtain ⟨-, -, -, e1, e2, -⟩ := peer_yes (S := S) d ⟨by omega, by omega, ho, by omega⟩ (by omega)
  rw [peerS_yes hd hf] at hi e1 e2 ⊢
  dsimp only at hi e1 e2 ⊢
  refine ⟨rg, nx, ?_, h2, mapL_tight (n := S.L.length + 1) ?_ hi.rise, hi⟩
  · have e3 : ysOf mb { S with theirs := d, L := putL d S.L } rg nx = { ysOf mb S rg nx with pl := d, po := (ysOf mb S rg nx).po + 1 } := by
      unfold ysOf
      rw [e1, e2]
      have e4 : olY { S with theirs := d, L := putL d S.L } = olY S := rfl
      rw [e4]
      simp
    rw [e3]
    exact hst
  · dsimp only
    rw [mapL_put (peer_new h4 hd)]
    exact hm
theorem yPeer_num (g mb : Nat) (S : Stm) (d : Int) (w : World) (H : Hid (YAt w g mb S)) (hd : numB d = false) : Calls Try.prog 20 #[.pointer (some ⟨g, 0, none⟩), .int .i64 d] w fun e w' => e = .returned (.tuple #[.bool false, fltV (true, 0, 1)]) ∧ YAt w' g mb S ∧ Fr (fun k => k = g ∨ k = mb) w w' := by
  go_enter Try.func20, Try.ntmps20
  go_upto_region 1 with (fail)
  obtain ⟨w1, hw1⟩ : ∃ w1, w1 = w.alloc (.cells #[.bool false, .int .i64 0, .int .i64 0] 48) := ⟨_, rfl⟩
  have F1 : Hid (Fr (fun _ => False) w w1) := by rw [hw1]; exact (Fr.refl _ _).alloc _
  have R1 : Hid (w1.heap[w.heap.size]? = some (.cells #[.bool false, .int .i64 0, .int .i64 0] 48 (0, 0))) := by rw [hw1]; exact heap_alloc_new _ _
  rw [← hw1]
  clear hw1
  have H1 : Hid (YAt w1 g mb S) := H.out.fr F1.out id id
  obtain ⟨rg, nx, h1, h2, h3, h4⟩ := id H1.out
  have K := ymade_in g _ w1 h1
  have KN := ynumbered_in d w1
  obtain ⟨c0, c1, c2, c3, c4, c5, c6, c7⟩ := h1.cells
  dsimp only [ysOf] at c0 c1 c2 c3 c4 c5 c6 c7
  rw [hd] at KN
  clear h1 h2 h3 h4
  go_wp2_with (first | (go_at_call 37; refine K.mono ?_; clear K; rintro e w' ⟨rfl, rfl⟩) | (go_at_call 39; refine KN.mono ?_; clear KN; rintro e w' ⟨rfl, rfl⟩) | (refine wpList_storeB rfl 48 (.tmp 5) (.tmp 27) rfl w.heap.size #[.bool false, .int .i64 0, .int .i64 0] #[.bool true, .int .i64 0, .int .i64 1] 48 rfl rfl R1.out rfl (by kernel_rfl) (by simp [Value.oneCell']) ?_; intro y H9 G9))
  have d0 : y.cell? ⟨w.heap.size, 0, none⟩ = some (.bool true) := cell_of_heap H9.out rfl
  have d1 : y.cell? ⟨w.heap.size, 1, none⟩ = some (.int .i64 0) := cell_of_heap H9.out rfl
  have d2 : y.cell? ⟨w.heap.size, 2, none⟩ = some (.int .i64 1) := cell_of_heap H9.out rfl
  refine bodyPost_ret (v := .tuple #[.bool false, .agg #[.bool true, .int .i64 0, .int .i64 1]]) (by simp [results, Try.results20, go_sem, d0, d1, d2]) rfl ?_
  have hg := H.out.lt
  exact ⟨rfl, H1.out.fr G9.out (by omega) (by omega), (((F1.out.mono (T := fun k => (k = g ∨ k = mb) ∨ k = w.heap.size) (fun _ _ e => e.elim)).trans (G9.out.mono (fun k _ e => .inr e)))).mono (fun k hk e => by omega)⟩
theorem yPeer_own (g mb : Nat) (S : Stm) (d : Int) (w : World) (H : Hid (YAt w g mb S)) (hd : numB d = true) (ho : ownS S.server d = true) : Calls Try.prog 20 #[.pointer (some ⟨g, 0, none⟩), .int .i64 d] w fun e w' => e = .returned (.tuple #[.bool false, fltV (true, 0, 1)]) ∧ YAt w' g mb S ∧ Fr (fun k => k = g ∨ k = mb) w w' := by
  go_enter Try.func20, Try.ntmps20
  go_upto_region 1 with (fail)
  obtain ⟨w1, hw1⟩ : ∃ w1, w1 = w.alloc (.cells #[.bool false, .int .i64 0, .int .i64 0] 48) := ⟨_, rfl⟩
  have F1 : Hid (Fr (fun _ => False) w w1) := by rw [hw1]; exact (Fr.refl _ _).alloc _
  have R1 : Hid (w1.heap[w.heap.size]? = some (.cells #[.bool false, .int .i64 0, .int .i64 0] 48 (0, 0))) := by rw [hw1]; exact heap_alloc_new _ _
  rw [← hw1]
  clear hw1
  have H1 : Hid (YAt w1 g mb S) := H.out.fr F1.out id id
  obtain ⟨rg, nx, h1, h2, h3, h4⟩ := id H1.out
  have K := ymade_in g _ w1 h1
  have KN := ynumbered_in d w1
  obtain ⟨c0, c1, c2, c3, c4, c5, c6, c7⟩ := h1.cells
  dsimp only [ysOf] at c0 c1 c2 c3 c4 c5 c6 c7
  rw [hd] at KN
  have KI := yisOwn_in g _ d w1 h1 (numB_true hd).1
  have e0 : (ysOf mb S rg nx).sv = S.server := rfl
  rw [e0, ho] at KI
  clear h1 h2 h3 h4
  go_wp2_with (first | (go_at_call 37; refine K.mono ?_; clear K; rintro e w' ⟨rfl, rfl⟩) | (go_at_call 39; refine KN.mono ?_; clear KN; rintro e w' ⟨rfl, rfl⟩) | (go_at_call 41; refine KI.mono ?_; clear KI; rintro e w' ⟨rfl, rfl⟩) | (refine wpList_storeB rfl 48 (.tmp 5) (.tmp 27) rfl w.heap.size #[.bool false, .int .i64 0, .int .i64 0] #[.bool true, .int .i64 0, .int .i64 1] 48 rfl rfl R1.out rfl (by kernel_rfl) (by simp [Value.oneCell']) ?_; intro y H9 G9))
  have d0 : y.cell? ⟨w.heap.size, 0, none⟩ = some (.bool true) := cell_of_heap H9.out rfl
  have d1 : y.cell? ⟨w.heap.size, 1, none⟩ = some (.int .i64 0) := cell_of_heap H9.out rfl
  have d2 : y.cell? ⟨w.heap.size, 2, none⟩ = some (.int .i64 1) := cell_of_heap H9.out rfl
  refine bodyPost_ret (v := .tuple #[.bool false, .agg #[.bool true, .int .i64 0, .int .i64 1]]) (by simp [results, Try.results20, go_sem, d0, d1, d2]) rfl ?_
  have hg := H.out.lt
  exact ⟨rfl, H1.out.fr G9.out (by omega) (by omega), (((F1.out.mono (T := fun k => (k = g ∨ k = mb) ∨ k = w.heap.size) (fun _ _ e => e.elim)).trans (G9.out.mono (fun k _ e => .inr e)))).mono (fun k hk e => by omega)⟩
theorem yPeer_old (g mb : Nat) (S : Stm) (d : Int) (w : World) (H : Hid (YAt w g mb S)) (hd : numB d = true) (ho : ownS S.server d = false) (hl : d ≤ S.theirs) : Calls Try.prog 20 #[.pointer (some ⟨g, 0, none⟩), .int .i64 d] w fun e w' => e = .returned (.tuple #[.bool false, fltV (true, 0, 1)]) ∧ YAt w' g mb S ∧ Fr (fun k => k = g ∨ k = mb) w w' := by
  go_enter Try.func20, Try.ntmps20
  go_upto_region 1 with (fail)
  obtain ⟨w1, hw1⟩ : ∃ w1, w1 = w.alloc (.cells #[.bool false, .int .i64 0, .int .i64 0] 48) := ⟨_, rfl⟩
  have F1 : Hid (Fr (fun _ => False) w w1) := by rw [hw1]; exact (Fr.refl _ _).alloc _
  have R1 : Hid (w1.heap[w.heap.size]? = some (.cells #[.bool false, .int .i64 0, .int .i64 0] 48 (0, 0))) := by rw [hw1]; exact heap_alloc_new _ _
  rw [← hw1]
  clear hw1
  have H1 : Hid (YAt w1 g mb S) := H.out.fr F1.out id id
  obtain ⟨rg, nx, h1, h2, h3, h4⟩ := id H1.out
  have K := ymade_in g _ w1 h1
  have KN := ynumbered_in d w1
  obtain ⟨c0, c1, c2, c3, c4, c5, c6, c7⟩ := h1.cells
  dsimp only [ysOf] at c0 c1 c2 c3 c4 c5 c6 c7
  rw [hd] at KN
  have KI := yisOwn_in g _ d w1 h1 (numB_true hd).1
  have e0 : (ysOf mb S rg nx).sv = S.server := rfl
  rw [e0, ho] at KI
  clear h1 h2 h3 h4
  go_wp2_with (first | (go_at_call 37; refine K.mono ?_; clear K; rintro e w' ⟨rfl, rfl⟩) | (go_at_call 39; refine KN.mono ?_; clear KN; rintro e w' ⟨rfl, rfl⟩) | (go_at_call 41; refine KI.mono ?_; clear KI; rintro e w' ⟨rfl, rfl⟩) | (refine wpList_storeB rfl 48 (.tmp 5) (.tmp 27) rfl w.heap.size #[.bool false, .int .i64 0, .int .i64 0] #[.bool true, .int .i64 0, .int .i64 1] 48 rfl rfl R1.out rfl (by kernel_rfl) (by simp [Value.oneCell']) ?_; intro y H9 G9))
  have d0 : y.cell? ⟨w.heap.size, 0, none⟩ = some (.bool true) := cell_of_heap H9.out rfl
  have d1 : y.cell? ⟨w.heap.size, 1, none⟩ = some (.int .i64 0) := cell_of_heap H9.out rfl
  have d2 : y.cell? ⟨w.heap.size, 2, none⟩ = some (.int .i64 1) := cell_of_heap H9.out rfl
  refine bodyPost_ret (v := .tuple #[.bool false, .agg #[.bool true, .int .i64 0, .int .i64 1]]) (by simp [results, Try.results20, go_sem, d0, d1, d2]) rfl ?_
  have hg := H.out.lt
  exact ⟨rfl, H1.out.fr G9.out (by omega) (by omega), (((F1.out.mono (T := fun k => (k = g ∨ k = mb) ∨ k = w.heap.size) (fun _ _ e => e.elim)).trans (G9.out.mono (fun k _ e => .inr e)))).mono (fun k hk e => by omega)⟩
theorem yPeer_full (g mb : Nat) (S : Stm) (d : Int) (w : World) (H : Hid (YAt w g mb S)) (hd : numB d = true) (ho : ownS S.server d = false) (hl : ¬ d ≤ S.theirs) (hf : S.most ≤ (openS S false : Nat)) : Calls Try.prog 20 #[.pointer (some ⟨g, 0, none⟩), .int .i64 d] w fun e w' => e = .returned (.tuple #[.bool false, fltV (false, 0, 0)]) ∧ YAt w' g mb (peerS S d).2.2 ∧ Fr (fun k => k = g ∨ k = mb) w w' := by
  go_enter Try.func20, Try.ntmps20
  go_upto_region 1 with (fail)
  obtain ⟨w1, hw1⟩ : ∃ w1, w1 = w.alloc (.cells #[.bool false, .int .i64 0, .int .i64 0] 48) := ⟨_, rfl⟩
  have F1 : Hid (Fr (fun _ => False) w w1) := by rw [hw1]; exact (Fr.refl _ _).alloc _
  have R1 : Hid (w1.heap[w.heap.size]? = some (.cells #[.bool false, .int .i64 0, .int .i64 0] 48 (0, 0))) := by rw [hw1]; exact heap_alloc_new _ _
  rw [← hw1]
  clear hw1
  have H1 : Hid (YAt w1 g mb S) := H.out.fr F1.out id id
  obtain ⟨rg, nx, h1, h2, h3, h4⟩ := id H1.out
  have K := ymade_in g _ w1 h1
  have KN := ynumbered_in d w1
  obtain ⟨c0, c1, c2, c3, c4, c5, c6, c7⟩ := h1.cells
  dsimp only [ysOf] at c0 c1 c2 c3 c4 c5 c6 c7
  rw [hd] at KN
  have KI := yisOwn_in g _ d w1 h1 (numB_true hd).1
  have e0 : (ysOf mb S rg nx).sv = S.server := rfl
  rw [e0, ho] at KI
  have hr := numB_true hd
  have hbad : ¬ (d < 1 ∨ 2147483647 < d ∨ ownS S.server d = true ∨ d ≤ S.theirs) := by rw [ho]; simp; omega
  have hfew := few_known h4
  have hmo := h4.mo
  have hpe := h4.peers
  have hne : mb ≠ g := h3.ne h1.1
  have HB : Hid (RingY rg nx S.gone ∧ InvS S ∧ ¬ (d < 1 ∨ 2147483647 < d ∨ ownS S.server d = true ∨ d ≤ S.theirs) ∧ S.most ≤ (openS S false : Nat)) := ⟨h2, h4, hbad, hf⟩
  have HS : Hid (StC w1 g (ysOf mb S rg nx)) := h1
  have HM : Hid (MapAt w1 mb S.L.length (mapL S.L)) := h3
  obtain ⟨on, hon⟩ : ∃ on, openS S false = on := ⟨_, rfl⟩
  rw [hon] at c6 hf
  have hl2 : ¬ d ≤ S.theirs := hl
  clear h1 h2 h3 h4 hbad hpe hon hfew
  go_wp2_with (first | (go_at_call 37; refine K.mono ?_; clear K; rintro e w' ⟨rfl, rfl⟩) | (go_at_call 39; refine KN.mono ?_; clear KN; rintro e w' ⟨rfl, rfl⟩) | (go_at_call 41; refine KI.mono ?_; clear KI; rintro e w' ⟨rfl, rfl⟩))
  go_quiet (fail)
  have z : ∀ j, (w1.drewN nq).frozen? ⟨g, j, none⟩ = false := fun j => frozen_of_heap (HS.out.fr ((Fr.refl (fun _ => False) w1).drewN nq) id).1
  go_upto_region 7 with (fail)
  obtain ⟨w2, hw2⟩ : ∃ w2, w2 = (w1.drewN nq).setCell ⟨g, 5, none⟩ (.int .i64 d) := ⟨_, rfl⟩
  have F2 : Hid (Fr (fun k => k = g) w1 w2) := by rw [hw2]; exact ((Fr.refl _ _).drewN _).setB _ _
  have h5 : Hid (StC w2 g { ysOf mb S rg nx with pl := d }) := by rw [hw2]; exact (HS.out.fr ((Fr.refl (fun _ => False) w1).drewN nq) id).set (set_pl _ _) HS.out.2
  rw [← hw2]
  clear hw2 c0 c1 c2 c3 c4 c5 c6 c7 z
  have KD := ydrop_in g _ nx d w2 h5.out rfl HB.out.1.2.1
  have hgw : w.heap.size ≠ g ∧ w.heap.size ≠ mb := by have := H.out.lt; omega
  go_upto_region 8 with (go_at_call 42; refine KD.mono ?_; clear KD; rintro e w3 ⟨rfl, a1, a2⟩)
  have F3 : Hid (Fr (fun k => k = g) w1 w3) := F2.out.trans a2
  have R3 : Hid (w3.heap[w.heap.size]? = some (.cells #[.bool false, .int .i64 0, .int .i64 0] 48 (0, 0))) := (F3.out.block _ (lt_of_heap R1.out) hgw.1).trans R1.out
  have h6 : Hid (YAt w3 g mb (peerS S d).2.2) := yat_full HB.out.2.1 HB.out.2.2.1 HB.out.2.2.2 HB.out.1 a1 (HM.out.fr F3.out hne)
  clear a1 a2
  go_wp2_with ((refine wpList_storeB rfl 48 (.tmp 5) (.tmp 47) rfl w.heap.size #[.bool false, .int .i64 0, .int .i64 0] #[.bool false, .int .i64 0, .int .i64 0] 48 rfl rfl R3.out rfl (by kernel_rfl) (by simp [Value.oneCell']) ?_; intro y H9 G9))
  have d0 : y.cell? ⟨w.heap.size, 0, none⟩ = some (.bool false) := cell_of_heap H9.out rfl
  have d1 : y.cell? ⟨w.heap.size, 1, none⟩ = some (.int .i64 0) := cell_of_heap H9.out rfl
  have d2 : y.cell? ⟨w.heap.size, 2, none⟩ = some (.int .i64 0) := cell_of_heap H9.out rfl
  refine bodyPost_ret (v := .tuple #[.bool false, .agg #[.bool false, .int .i64 0, .int .i64 0]]) (by simp [results, Try.results20, go_sem, d0, d1, d2]) rfl ?_
  exact ⟨rfl, h6.out.fr G9.out (by omega) (by omega), ((F1.out.mono (T := fun k => (k = g ∨ k = mb) ∨ k = w.heap.size) (fun _ _ e => e.elim)).trans ((F3.out.mono (fun k _ e => .inl (.inl e))).trans (G9.out.mono (fun k _ e => .inr e)))).mono (fun k hk e => by omega)⟩
theorem yPeer_yes (g mb : Nat) (S : Stm) (d : Int) (w : World) (H : Hid (YAt w g mb S)) (hd : numB d = true) (ho : ownS S.server d = false) (hl : ¬ d ≤ S.theirs) (hf : ¬ S.most ≤ (openS S false : Nat)) : Calls Try.prog 20 #[.pointer (some ⟨g, 0, none⟩), .int .i64 d] w fun e w' => e = .returned (.tuple #[.bool true, fltV (false, 0, 0)]) ∧ YAt w' g mb (peerS S d).2.2 ∧ Fr (fun k => k = g ∨ k = mb) w w' := by
  go_enter Try.func20, Try.ntmps20
  go_upto_region 1 with (fail)
  obtain ⟨w1, hw1⟩ : ∃ w1, w1 = w.alloc (.cells #[.bool false, .int .i64 0, .int .i64 0] 48) := ⟨_, rfl⟩
  have F1 : Hid (Fr (fun _ => False) w w1) := by rw [hw1]; exact (Fr.refl _ _).alloc _
  have R1 : Hid (w1.heap[w.heap.size]? = some (.cells #[.bool false, .int .i64 0, .int .i64 0] 48 (0, 0))) := by rw [hw1]; exact heap_alloc_new _ _
  rw [← hw1]
  clear hw1
  have H1 : Hid (YAt w1 g mb S) := H.out.fr F1.out id id
  obtain ⟨rg, nx, h1, h2, h3, h4⟩ := id H1.out
  have K := ymade_in g _ w1 h1
  have KN := ynumbered_in d w1
  obtain ⟨c0, c1, c2, c3, c4, c5, c6, c7⟩ := h1.cells
  dsimp only [ysOf] at c0 c1 c2 c3 c4 c5 c6 c7
  rw [hd] at KN
  have KI := yisOwn_in g _ d w1 h1 (numB_true hd).1
  have e0 : (ysOf mb S rg nx).sv = S.server := rfl
  rw [e0, ho] at KI
  have hr := numB_true hd
  have hbad : ¬ (d < 1 ∨ 2147483647 < d ∨ ownS S.server d = true ∨ d ≤ S.theirs) := by rw [ho]; simp; omega
  have hfew := few_known h4
  have hmo := h4.mo
  have hpe := h4.peers
  have hne : mb ≠ g := h3.ne h1.1
  have KO : Hid (∀ k, Calls Try.prog 38 #[.pointer (some ⟨g, 0, none⟩), .int .i64 d] (w1.drewN k) fun e w' => e = .returned (.tuple #[]) ∧ YAt w' g mb (peerS S d).2.2 ∧ Fr (fun k => k = g ∨ k = mb) w1 w') := fun k => by
    have F : Fr (fun _ => False) w1 (w1.drewN k) := (Fr.refl _ _).drewN k
    refine (yopen_false g (ysOf mb S rg nx) S.L.length (mapL S.L) d _ (h1.fr F id) (h3.fr F id) (by unfold maxLen; omega) hr ho ⟨by show (0 : Int) ≤ ((openS S false : Nat) : Int); omega, by show ((openS S false : Nat) : Int) ≤ 1024; omega⟩).mono ?_
    rintro e w' ⟨rfl, a1, a2, a3⟩
    exact ⟨rfl, yat_peer h4 hbad hf h2 a1 a2, (F.mono (fun _ _ e => e.elim)).trans a3⟩
  obtain ⟨on, hon⟩ : ∃ on, openS S false = on := ⟨_, rfl⟩
  rw [hon] at c6 hf
  clear h1 h2 h3 h4 hbad hpe hon hfew
  go_wp2_with (first | (go_at_call 37; refine K.mono ?_; clear K; rintro e w' ⟨rfl, rfl⟩) | (go_at_call 39; refine KN.mono ?_; clear KN; rintro e w' ⟨rfl, rfl⟩) | (go_at_call 41; refine KI.mono ?_; clear KI; rintro e w' ⟨rfl, rfl⟩))
  go_quiet (fail)
  have hgw : w.heap.size ≠ g ∧ w.heap.size ≠ mb := by have := H.out.lt; omega
  go_upto_region 10 with (go_at_call 38; refine (KO.out _).mono ?_; rintro e w3 ⟨rfl, a1, a2⟩)
  have F3 : Hid (Fr (fun k => k = g ∨ k = mb) w1 w3) := a2
  have R3 : Hid (w3.heap[w.heap.size]? = some (.cells #[.bool false, .int .i64 0, .int .i64 0] 48 (0, 0))) := (F3.out.block _ (lt_of_heap R1.out) (by omega)).trans R1.out
  have h6 : Hid (YAt w3 g mb (peerS S d).2.2) := a1
  clear a1 a2 c0 c1 c2 c3 c4 c5 c6 c7
  go_wp2_with ((refine wpList_storeB rfl 48 (.tmp 5) (.tmp 51) rfl w.heap.size #[.bool false, .int .i64 0, .int .i64 0] #[.bool false, .int .i64 0, .int .i64 0] 48 rfl rfl R3.out rfl (by kernel_rfl) (by simp [Value.oneCell']) ?_; intro y H9 G9))
  have d0 : y.cell? ⟨w.heap.size, 0, none⟩ = some (.bool false) := cell_of_heap H9.out rfl
  have d1 : y.cell? ⟨w.heap.size, 1, none⟩ = some (.int .i64 0) := cell_of_heap H9.out rfl
  have d2 : y.cell? ⟨w.heap.size, 2, none⟩ = some (.int .i64 0) := cell_of_heap H9.out rfl
  refine bodyPost_ret (v := .tuple #[.bool true, .agg #[.bool false, .int .i64 0, .int .i64 0]]) (by simp [results, Try.results20, go_sem, d0, d1, d2]) rfl ?_
  exact ⟨rfl, h6.out.fr G9.out (by omega) (by omega), ((F1.out.mono (T := fun k => (k = g ∨ k = mb) ∨ k = w.heap.size) (fun _ _ e => e.elim)).trans ((F3.out.mono (fun k _ e => .inl e)).trans (G9.out.mono (fun k _ e => .inr e)))).mono (fun k hk e => by omega)⟩
theorem yPeer_in (g mb : Nat) (S : Stm) (d : Int) (w : World) (h : YAt w g mb S) : Calls Try.prog 20 #[.pointer (some ⟨g, 0, none⟩), .int .i64 d] w fun e w' => e = .returned (peerV S d) ∧ YAt w' g mb (peerS S d).2.2 ∧ Fr (fun k => k = g ∨ k = mb) w w' := by
  unfold peerV
  cases hd : numB d
  · have e1 := peerS_bad (S := S) (d := d) (by have := numB_false hd; omega)
    rw [e1]
    exact yPeer_num g mb S d w h hd
  · have hr := numB_true hd
    cases ho : ownS S.server d
    · by_cases hl : d ≤ S.theirs
      · rw [peerS_bad (S := S) (d := d) (.inr (.inr (.inr hl)))]
        exact yPeer_old g mb S d w h hd ho hl
      · have hbad : ¬ (d < 1 ∨ 2147483647 < d ∨ ownS S.server d = true ∨ d ≤ S.theirs) := by rw [ho]; simp; omega
        by_cases hf : S.most ≤ (openS S false : Nat)
        · have := yPeer_full g mb S d w h hd ho hl hf
          rw [peerS_full hbad hf] at this ⊢
          exact this
        · have := yPeer_yes g mb S d w h hd ho hl hf
          rw [peerS_yes hbad hf] at this ⊢
          exact this
    · rw [peerS_bad (S := S) (d := d) (.inr (.inr (.inl ho)))]
      exact yPeer_own g mb S d w h hd ho
end Go.Proofs.Ytahlhkpabkplfaa
