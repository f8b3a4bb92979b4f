/- The document's streams: Peer, Own. -/
import Derived.Test.YtahlhkpabkplfaaVd
namespace Go.Proofs.Ytahlhkpabkplfaa
open Go.RowKit
set_option linter.unusedVariables false
set_option maxRecDepth 100000
set_option maxHeartbeats 4000000

theorem inv_theirs {S : Stm} (h : InvS S) {d : Int} (h1 : S.theirs ≤ d) (h2 : d ≤ 2147483647) : InvS { S with theirs := d } :=
  ⟨h.rise, h.st, fun x hx => openedS_mono (S := S) (T := { S with theirs := d }) rfl (Int.le_refl _) h1 (h.num x hx), ⟨by have := h.th.1; show 0 ≤ d; omega, h2⟩, h.ou, h.mo, h.mi, h.peers, h.owns, h.few, h.par⟩
theorem inv_ours {S : Stm} (h : InvS S) {d : Int} (h1 : S.ours ≤ d) (h2 : d ≤ 2147483647) (h3 : ownS S.server d = true) : InvS { S with ours := d } :=
  ⟨h.rise, h.st, fun x hx => openedS_mono (S := S) (T := { S with ours := d }) rfl h1 (Int.le_refl _) (h.num x hx), h.th, ⟨by have := h.ou.1; show 0 ≤ d; omega, h2⟩, h.mo, h.mi, h.peers, h.owns, h.few, .inr h3⟩
/-- The document's streams behind a call. -/
def RPost (base : Nat) (w : World) (g : Nat) (vL vG : Value) (T : Stm) (v : Value) (e : Ending) (w' : World) : Prop := e = .returned v ∧ ∃ uL uG, RAt base w' g T uL uG ∧ Fr (RX g vL vG) w w'
theorem RAt.ne_new {base : Nat} {w : World} {g : Nat} {S : Stm} {vL vG : Value} (h : RAt base w g S vL vG) {b : Nat} (hb : w.heap.size ≤ b) : ¬ RX g vL vG b := by
  rintro (e | e | e)
  · have := lt_of_heap h.blk; omega
  · have := (h.row.lt b e).1; omega
  · have := h.gone.lt b e; omega
theorem RAt.at_new {base : Nat} {w w' : World} {g b : Nat} {S : Stm} {vL vG : Value} (h : RAt base w g S vL vG) (hf : Fr (fun k => k = b) w w') (h1 : b ≠ g) (h2 : ∀ k, vL.ownBlock = some k → k ≠ b) (h3 : ∀ k, vG.ownBlock = some k → k ≠ b) : RAt base w' g S vL vG := h.fr hf (fun e => h1 e.symm) (fun k hk e => h2 k hk e) (fun k hk e => h3 k hk e)
/-- A block of a fault's is none of the document's streams. -/
theorem RAt.fault {base : Nat} {w : World} {g b : Nat} {S : Stm} {vL vG : Value} {cs : Array Value} (h : RAt base w g S vL vG) (hb : w.heap[b]? = some (.cells cs 48 (0, 0))) : b ≠ g ∧ (∀ k, vL.ownBlock = some k → k ≠ b) ∧ (∀ k, vG.ownBlock = some k → k ≠ b) := by
  refine ⟨tag_ne hb h.blk (by decide), fun k hk => ?_, fun k hk => ?_⟩
  · obtain ⟨-, cur, hc⟩ := h.row.lt k hk
    exact tag_ne hc hb (by decide)
  · obtain ⟨cur, hc⟩ := own_tag h.gone k hk
    exact tag_ne hc hb (by decide)
theorem RAt.done {base : Nat} {w : World} {g b : Nat} {S : Stm} {vL vG : Value} {w0 w' : World} {uL uG : Value} {cs : Array Value} (h : RAt base w g S uL uG) (hb : w.heap[b]? = some (.cells cs 48 (0, 0))) (hf : Fr (fun k => k = b) w w') (hb0 : w0.heap.size ≤ b) (F : Fr (RX g vL vG) w0 w) : RAt base w' g S uL uG ∧ Fr (RX g vL vG) w0 w' := by
  obtain ⟨h1, h2, h3⟩ := h.fault hb
  refine ⟨h.at_new hf h1 h2 h3, ((F.mono (T := fun k => RX g vL vG k ∨ k = b) (fun _ _ e => .inl e)).trans (hf.mono (fun _ _ e => .inr e))).mono (fun k hk e => ?_)⟩
  rcases e with e | e
  · exact e
  · omega
theorem ryPeer_low (base g : Nat) (S : Stm) (vL vG : Value) (d : Int) (w : World) (H : Hid (RAt base w g S vL vG)) (hb : base ≤ w.heap.size) (hd : d < 1) : Calls Try.prog 28 #[.pointer (some ⟨g, 0, none⟩), .int .i64 d] w (RPost base w g vL vG S (.tuple #[.bool false, fltV (true, 0, 1)])) := by
  go_enter Try.func28, Try.ntmps28
  go_upto_region 1 with (fail)
  obtain ⟨w1, hw1⟩ : ∃ w1, w1 = w.alloc (.cells #[.bool false, .int .i64 0, .int .i64 0] 48) := ⟨_, rfl⟩
  have F1 : Hid (Fr (fun _ => False) w w1) := by rw [hw1]; exact (Fr.refl _ _).alloc _
  have R1 : Hid (w1.heap[w.heap.size]? = some (.cells #[.bool false, .int .i64 0, .int .i64 0] 48 (0, 0))) := by rw [hw1]; exact heap_alloc_new _ _
  rw [← hw1]
  clear hw1
  have H1 : Hid (RAt base w1 g S vL vG) := H.out.later F1.out
  have hb1 : Hid (base ≤ w1.heap.size) := Nat.le_trans hb F1.out.size
  have G1 : Hid (Fr (RX g vL vG) w w1) := F1.out.mono (fun _ _ e => e.elim)
  obtain ⟨c0, c1, c2, c3, c4, c5, c6⟩ := H1.out.cells
  go_wp2_with (first | (refine wpList_storeB rfl 48 (.tmp 5) (.tmp 25) rfl w.heap.size #[.bool false, .int .i64 0, .int .i64 0] #[.bool true, .int .i64 0, .int .i64 1] 48 rfl rfl R1.out rfl (by kernel_rfl) (by simp [Value.oneCell']) ?_; intro y H9 G9))
  have d0 : y.cell? ⟨w.heap.size, 0, none⟩ = some (.bool true) := cell_of_heap H9.out rfl
  have d1 : y.cell? ⟨w.heap.size, 1, none⟩ = some (.int .i64 0) := cell_of_heap H9.out rfl
  have d2 : y.cell? ⟨w.heap.size, 2, none⟩ = some (.int .i64 1) := cell_of_heap H9.out rfl
  refine bodyPost_ret (v := .tuple #[.bool false, .agg #[.bool true, .int .i64 0, .int .i64 1]]) (by simp [results, Try.results28, go_sem, d0, d1, d2]) rfl ?_
  exact ⟨rfl, _, _, H1.out.done R1.out G9.out (Nat.le_refl _) G1.out⟩
theorem ryPeer_high (base g : Nat) (S : Stm) (vL vG : Value) (d : Int) (w : World) (H : Hid (RAt base w g S vL vG)) (hb : base ≤ w.heap.size) (hd : ¬ d < 1) (hd2 : 2147483647 < d) : Calls Try.prog 28 #[.pointer (some ⟨g, 0, none⟩), .int .i64 d] w (RPost base w g vL vG S (.tuple #[.bool false, fltV (true, 0, 1)])) := by
  go_enter Try.func28, Try.ntmps28
  go_upto_region 1 with (fail)
  obtain ⟨w1, hw1⟩ : ∃ w1, w1 = w.alloc (.cells #[.bool false, .int .i64 0, .int .i64 0] 48) := ⟨_, rfl⟩
  have F1 : Hid (Fr (fun _ => False) w w1) := by rw [hw1]; exact (Fr.refl _ _).alloc _
  have R1 : Hid (w1.heap[w.heap.size]? = some (.cells #[.bool false, .int .i64 0, .int .i64 0] 48 (0, 0))) := by rw [hw1]; exact heap_alloc_new _ _
  rw [← hw1]
  clear hw1
  have H1 : Hid (RAt base w1 g S vL vG) := H.out.later F1.out
  have hb1 : Hid (base ≤ w1.heap.size) := Nat.le_trans hb F1.out.size
  have G1 : Hid (Fr (RX g vL vG) w w1) := F1.out.mono (fun _ _ e => e.elim)
  obtain ⟨c0, c1, c2, c3, c4, c5, c6⟩ := H1.out.cells
  go_wp2_with (first | (refine wpList_storeB rfl 48 (.tmp 5) (.tmp 25) rfl w.heap.size #[.bool false, .int .i64 0, .int .i64 0] #[.bool true, .int .i64 0, .int .i64 1] 48 rfl rfl R1.out rfl (by kernel_rfl) (by simp [Value.oneCell']) ?_; intro y H9 G9))
  have d0 : y.cell? ⟨w.heap.size, 0, none⟩ = some (.bool true) := cell_of_heap H9.out rfl
  have d1 : y.cell? ⟨w.heap.size, 1, none⟩ = some (.int .i64 0) := cell_of_heap H9.out rfl
  have d2 : y.cell? ⟨w.heap.size, 2, none⟩ = some (.int .i64 1) := cell_of_heap H9.out rfl
  refine bodyPost_ret (v := .tuple #[.bool false, .agg #[.bool true, .int .i64 0, .int .i64 1]]) (by simp [results, Try.results28, go_sem, d0, d1, d2]) rfl ?_
  exact ⟨rfl, _, _, H1.out.done R1.out G9.out (Nat.le_refl _) G1.out⟩
theorem ryPeer_own (base g : Nat) (S : Stm) (vL vG : Value) (d : Int) (w : World) (H : Hid (RAt base w g S vL vG)) (hb : base ≤ w.heap.size) (hd : ¬ d < 1) (hd2 : ¬ 2147483647 < d) (ho : ownS S.server d = true) : Calls Try.prog 28 #[.pointer (some ⟨g, 0, none⟩), .int .i64 d] w (RPost base w g vL vG S (.tuple #[.bool false, fltV (true, 0, 1)])) := by
  go_enter Try.func28, Try.ntmps28
  go_upto_region 1 with (fail)
  obtain ⟨w1, hw1⟩ : ∃ w1, w1 = w.alloc (.cells #[.bool false, .int .i64 0, .int .i64 0] 48) := ⟨_, rfl⟩
  have F1 : Hid (Fr (fun _ => False) w w1) := by rw [hw1]; exact (Fr.refl _ _).alloc _
  have R1 : Hid (w1.heap[w.heap.size]? = some (.cells #[.bool false, .int .i64 0, .int .i64 0] 48 (0, 0))) := by rw [hw1]; exact heap_alloc_new _ _
  rw [← hw1]
  clear hw1
  have H1 : Hid (RAt base w1 g S vL vG) := H.out.later F1.out
  have hb1 : Hid (base ≤ w1.heap.size) := Nat.le_trans hb F1.out.size
  have G1 : Hid (Fr (RX g vL vG) w w1) := F1.out.mono (fun _ _ e => e.elim)
  obtain ⟨c0, c1, c2, c3, c4, c5, c6⟩ := H1.out.cells
  have KI := ryown_in base g S vL vG d w1 H1.out (by omega)
  rw [ho] at KI
  go_wp2_with (first | (refine wpList_storeB rfl 48 (.tmp 5) (.tmp 25) rfl w.heap.size #[.bool false, .int .i64 0, .int .i64 0] #[.bool true, .int .i64 0, .int .i64 1] 48 rfl rfl R1.out rfl (by kernel_rfl) (by simp [Value.oneCell']) ?_; intro y H9 G9) | (go_at_call 49; refine KI.mono ?_; clear KI; rintro e w' ⟨rfl, rfl⟩))
  have d0 : y.cell? ⟨w.heap.size, 0, none⟩ = some (.bool true) := cell_of_heap H9.out rfl
  have d1 : y.cell? ⟨w.heap.size, 1, none⟩ = some (.int .i64 0) := cell_of_heap H9.out rfl
  have d2 : y.cell? ⟨w.heap.size, 2, none⟩ = some (.int .i64 1) := cell_of_heap H9.out rfl
  refine bodyPost_ret (v := .tuple #[.bool false, .agg #[.bool true, .int .i64 0, .int .i64 1]]) (by simp [results, Try.results28, go_sem, d0, d1, d2]) rfl ?_
  exact ⟨rfl, _, _, H1.out.done R1.out G9.out (Nat.le_refl _) G1.out⟩
theorem ryPeer_old (base g : Nat) (S : Stm) (vL vG : Value) (d : Int) (w : World) (H : Hid (RAt base w g S vL vG)) (hb : base ≤ w.heap.size) (hd : ¬ d < 1) (hd2 : ¬ 2147483647 < d) (ho : ownS S.server d = false) (hl : d ≤ S.theirs) : Calls Try.prog 28 #[.pointer (some ⟨g, 0, none⟩), .int .i64 d] w (RPost base w g vL vG S (.tuple #[.bool false, fltV (true, 0, 1)])) := by
  go_enter Try.func28, Try.ntmps28
  go_upto_region 1 with (fail)
  obtain ⟨w1, hw1⟩ : ∃ w1, w1 = w.alloc (.cells #[.bool false, .int .i64 0, .int .i64 0] 48) := ⟨_, rfl⟩
  have F1 : Hid (Fr (fun _ => False) w w1) := by rw [hw1]; exact (Fr.refl _ _).alloc _
  have R1 : Hid (w1.heap[w.heap.size]? = some (.cells #[.bool false, .int .i64 0, .int .i64 0] 48 (0, 0))) := by rw [hw1]; exact heap_alloc_new _ _
  rw [← hw1]
  clear hw1
  have H1 : Hid (RAt base w1 g S vL vG) := H.out.later F1.out
  have hb1 : Hid (base ≤ w1.heap.size) := Nat.le_trans hb F1.out.size
  have G1 : Hid (Fr (RX g vL vG) w w1) := F1.out.mono (fun _ _ e => e.elim)
  obtain ⟨c0, c1, c2, c3, c4, c5, c6⟩ := H1.out.cells
  have KI := ryown_in base g S vL vG d w1 H1.out (by omega)
  rw [ho] at KI
  go_wp2_with (first | (refine wpList_storeB rfl 48 (.tmp 5) (.tmp 25) rfl w.heap.size #[.bool false, .int .i64 0, .int .i64 0] #[.bool true, .int .i64 0, .int .i64 1] 48 rfl rfl R1.out rfl (by kernel_rfl) (by simp [Value.oneCell']) ?_; intro y H9 G9) | (go_at_call 49; refine KI.mono ?_; clear KI; rintro e w' ⟨rfl, rfl⟩))
  have d0 : y.cell? ⟨w.heap.size, 0, none⟩ = some (.bool true) := cell_of_heap H9.out rfl
  have d1 : y.cell? ⟨w.heap.size, 1, none⟩ = some (.int .i64 0) := cell_of_heap H9.out rfl
  have d2 : y.cell? ⟨w.heap.size, 2, none⟩ = some (.int .i64 1) := cell_of_heap H9.out rfl
  refine bodyPost_ret (v := .tuple #[.bool false, .agg #[.bool true, .int .i64 0, .int .i64 1]]) (by simp [results, Try.results28, go_sem, d0, d1, d2]) rfl ?_
  exact ⟨rfl, _, _, H1.out.done R1.out G9.out (Nat.le_refl _) G1.out⟩
theorem ryPeer_full (base g : Nat) (S : Stm) (vL vG : Value) (d : Int) (w : World) (H : Hid (RAt base w g S vL vG)) (hb : base ≤ w.heap.size) (hd : ¬ d < 1) (hd2 : ¬ 2147483647 < d) (ho : ownS S.server d = false) (hl : ¬ d ≤ S.theirs) (hf : S.most ≤ (openS S false : Nat)) : Calls Try.prog 28 #[.pointer (some ⟨g, 0, none⟩), .int .i64 d] w (RPost base w g vL vG (peerS S d).2.2 (.tuple #[.bool false, fltV (false, 0, 0)])) := by
  have HF : Hid (S.most ≤ (openS S false : Nat)) := hf
  go_enter Try.func28, Try.ntmps28
  go_upto_region 1 with (fail)
  obtain ⟨w1, hw1⟩ : ∃ w1, w1 = w.alloc (.cells #[.bool false, .int .i64 0, .int .i64 0] 48) := ⟨_, rfl⟩
  have F1 : Hid (Fr (fun _ => False) w w1) := by rw [hw1]; exact (Fr.refl _ _).alloc _
  have R1 : Hid (w1.heap[w.heap.size]? = some (.cells #[.bool false, .int .i64 0, .int .i64 0] 48 (0, 0))) := by rw [hw1]; exact heap_alloc_new _ _
  rw [← hw1]
  clear hw1
  have H1 : Hid (RAt base w1 g S vL vG) := H.out.later F1.out
  have hb1 : Hid (base ≤ w1.heap.size) := Nat.le_trans hb F1.out.size
  have G1 : Hid (Fr (RX g vL vG) w w1) := F1.out.mono (fun _ _ e => e.elim)
  obtain ⟨c0, c1, c2, c3, c4, c5, c6⟩ := H1.out.cells
  have KI := ryown_in base g S vL vG d w1 H1.out (by omega)
  rw [ho] at KI
  have hbad : ¬ (d < 1 ∨ 2147483647 < d ∨ ownS S.server d = true ∨ d ≤ S.theirs) := by rw [ho]; simp; omega
  have z5 : w1.frozen? ⟨g, 5, none⟩ = false := frozen_of_heap H1.out.blk
  go_upto_region 4 with (first | (go_at_call 49; refine KI.mono ?_; clear KI; rintro e w' ⟨rfl, rfl⟩))
  obtain ⟨w2, hw2⟩ : ∃ w2, w2 = w1.setCell ⟨g, 5, none⟩ (.int .i64 d) := ⟨_, rfl⟩
  have F2 : Hid (Fr (fun k => k = g) w1 w2) := by rw [hw2]; exact setB_fr _ _ rfl
  have H2 : Hid (RAt base w2 g { S with theirs := d } vL vG) := by rw [hw2]; exact H1.out.put 5 _ rfl (inv_theirs H1.out.inv (by omega) (by omega)) H1.out.row H1.out.gone H1.out.bs.1 H1.out.bs.2
  have hgf := (H1.out.fault R1.out).1
  have R2 : Hid (w2.heap[w.heap.size]? = some (.cells #[.bool false, .int .i64 0, .int .i64 0] 48 (0, 0))) := (F2.out.block _ (lt_of_heap R1.out) hgf).trans R1.out
  have G2 : Hid (Fr (RX g vL vG) w w2) := G1.out.trans (F2.out.mono (fun _ _ e => .inl e))
  rw [← hw2]
  clear hw2 c0 c1 c2 c3 c4 c5 c6 z5
  obtain ⟨c0, c1, c2, c3, c4, c5, c6⟩ := H2.out.cells
  dsimp only at c0 c1 c2 c5 c6
  have HBAD : Hid (¬ (d < 1 ∨ 2147483647 < d ∨ ownS S.server d = true ∨ d ≤ S.theirs)) := hbad
  obtain ⟨on, hon⟩ : ∃ on, openS S false = on := ⟨_, rfl⟩
  have KQ : Hid (∀ k, Calls Try.prog 36 #[.pointer (some ⟨g, 0, none⟩), .bool false] (w2.drewN k) fun e w' => e = .returned (.int .i64 (on : Int)) ∧ w' = w2.drewN k) := fun k => by
    refine (ryOpen_in base g { S with theirs := d } vL vG false (w2.drewN k) (H2.out.later ((Fr.refl _ _).drewN k))).mono ?_
    rintro e w' ⟨rfl, rfl⟩
    refine ⟨?_, rfl⟩
    rw [← hon]
    rfl
  rw [hon] at hf
  clear hbad hon hgf
  go_quiet ((go_at_call 36; exact Calls.quiet_of_same (KQ.out _)))
  have KD : Hid (∀ k, Calls Try.prog 50 #[.pointer (some ⟨g, 0, none⟩), .int .i64 d] (w2.drewN k) fun e w' => e = .returned (.tuple #[]) ∧ ∃ uG, RAt base w' g (peerS S d).2.2 vL uG ∧ Fr (RX g vL vG) w2 w') := fun k => by
    have F : Fr (fun _ => False) w2 (w2.drewN k) := (Fr.refl _ _).drewN k
    refine (rydrop_in base g { S with theirs := d } vL vG d (w2.drewN k) (H2.out.later F) (Nat.le_trans hb1.out F2.out.size)).mono ?_
    rintro e w' ⟨rfl, uG, a1, a2, -⟩
    refine ⟨rfl, uG, ?_, (F.mono (fun _ _ e => e.elim)).trans (a2.mono (fun k _ e => e.elim .inl (fun e => .inr (.inr e))))⟩
    rw [peerS_full HBAD.out HF.out]
    exact a1
  go_upto_region 6 with (go_at_call 50; refine (KD.out _).mono ?_; rintro e w3 ⟨rfl, uG, a1, a2⟩)
  have H3 : Hid (RAt base w3 g (peerS S d).2.2 vL uG) := a1
  have R3 : Hid (w3.heap[w.heap.size]? = some (.cells #[.bool false, .int .i64 0, .int .i64 0] 48 (0, 0))) := (a2.block _ (lt_of_heap R2.out) (H.out.ne_new (Nat.le_refl _))).trans R2.out
  have G3 : Hid (Fr (RX g vL vG) w w3) := G2.out.trans a2
  clear a1 a2 c0 c1 c2 c3 c4 c5 c6
  go_wp2_with ((refine wpList_storeB rfl 48 (.tmp 5) (.tmp 40) rfl w.heap.size #[.bool false, .int .i64 0, .int .i64 0] #[.bool false, .int .i64 0, .int .i64 0] 48 rfl rfl R3.out rfl (by kernel_rfl) (by simp [Value.oneCell']) ?_; intro y H9 G9))
  have d0 : y.cell? ⟨w.heap.size, 0, none⟩ = some (.bool false) := cell_of_heap H9.out rfl
  have d1 : y.cell? ⟨w.heap.size, 1, none⟩ = some (.int .i64 0) := cell_of_heap H9.out rfl
  have d2 : y.cell? ⟨w.heap.size, 2, none⟩ = some (.int .i64 0) := cell_of_heap H9.out rfl
  refine bodyPost_ret (v := .tuple #[.bool false, .agg #[.bool false, .int .i64 0, .int .i64 0]]) (by simp [results, Try.results28, go_sem, d0, d1, d2]) rfl ?_
  exact ⟨rfl, _, _, H3.out.done R3.out G9.out (Nat.le_refl _) G3.out⟩
theorem ryPeer_yes (base g : Nat) (S : Stm) (vL vG : Value) (d : Int) (w : World) (H : Hid (RAt base w g S vL vG)) (hb : base ≤ w.heap.size) (hd : ¬ d < 1) (hd2 : ¬ 2147483647 < d) (ho : ownS S.server d = false) (hl : ¬ d ≤ S.theirs) (hf : ¬ S.most ≤ (openS S false : Nat)) : Calls Try.prog 28 #[.pointer (some ⟨g, 0, none⟩), .int .i64 d] w (RPost base w g vL vG (peerS S d).2.2 (.tuple #[.bool true, fltV (false, 0, 0)])) := by
  have HF : Hid (¬ S.most ≤ (openS S false : Nat)) := hf
  go_enter Try.func28, Try.ntmps28
  go_upto_region 1 with (fail)
  obtain ⟨w1, hw1⟩ : ∃ w1, w1 = w.alloc (.cells #[.bool false, .int .i64 0, .int .i64 0] 48) := ⟨_, rfl⟩
  have F1 : Hid (Fr (fun _ => False) w w1) := by rw [hw1]; exact (Fr.refl _ _).alloc _
  have R1 : Hid (w1.heap[w.heap.size]? = some (.cells #[.bool false, .int .i64 0, .int .i64 0] 48 (0, 0))) := by rw [hw1]; exact heap_alloc_new _ _
  rw [← hw1]
  clear hw1
  have H1 : Hid (RAt base w1 g S vL vG) := H.out.later F1.out
  have hb1 : Hid (base ≤ w1.heap.size) := Nat.le_trans hb F1.out.size
  have G1 : Hid (Fr (RX g vL vG) w w1) := F1.out.mono (fun _ _ e => e.elim)
  obtain ⟨c0, c1, c2, c3, c4, c5, c6⟩ := H1.out.cells
  have KI := ryown_in base g S vL vG d w1 H1.out (by omega)
  rw [ho] at KI
  have hbad : ¬ (d < 1 ∨ 2147483647 < d ∨ ownS S.server d = true ∨ d ≤ S.theirs) := by rw [ho]; simp; omega
  have z5 : w1.frozen? ⟨g, 5, none⟩ = false := frozen_of_heap H1.out.blk
  go_upto_region 4 with (first | (go_at_call 49; refine KI.mono ?_; clear KI; rintro e w' ⟨rfl, rfl⟩))
  obtain ⟨w2, hw2⟩ : ∃ w2, w2 = w1.setCell ⟨g, 5, none⟩ (.int .i64 d) := ⟨_, rfl⟩
  have F2 : Hid (Fr (fun k => k = g) w1 w2) := by rw [hw2]; exact setB_fr _ _ rfl
  have H2 : Hid (RAt base w2 g { S with theirs := d } vL vG) := by rw [hw2]; exact H1.out.put 5 _ rfl (inv_theirs H1.out.inv (by omega) (by omega)) H1.out.row H1.out.gone H1.out.bs.1 H1.out.bs.2
  have hgf := (H1.out.fault R1.out).1
  have R2 : Hid (w2.heap[w.heap.size]? = some (.cells #[.bool false, .int .i64 0, .int .i64 0] 48 (0, 0))) := (F2.out.block _ (lt_of_heap R1.out) hgf).trans R1.out
  have G2 : Hid (Fr (RX g vL vG) w w2) := G1.out.trans (F2.out.mono (fun _ _ e => .inl e))
  rw [← hw2]
  clear hw2 c0 c1 c2 c3 c4 c5 c6 z5
  obtain ⟨c0, c1, c2, c3, c4, c5, c6⟩ := H2.out.cells
  dsimp only at c0 c1 c2 c5 c6
  have HBAD : Hid (¬ (d < 1 ∨ 2147483647 < d ∨ ownS S.server d = true ∨ d ≤ S.theirs)) := hbad
  obtain ⟨on, hon⟩ : ∃ on, openS S false = on := ⟨_, rfl⟩
  have KQ : Hid (∀ k, Calls Try.prog 36 #[.pointer (some ⟨g, 0, none⟩), .bool false] (w2.drewN k) fun e w' => e = .returned (.int .i64 (on : Int)) ∧ w' = w2.drewN k) := fun k => by
    refine (ryOpen_in base g { S with theirs := d } vL vG false (w2.drewN k) (H2.out.later ((Fr.refl _ _).drewN k))).mono ?_
    rintro e w' ⟨rfl, rfl⟩
    refine ⟨?_, rfl⟩
    rw [← hon]
    rfl
  rw [hon] at hf
  clear hbad hon hgf
  go_quiet ((go_at_call 36; exact Calls.quiet_of_same (KQ.out _)))
  have KD : Hid (∀ k, Calls Try.prog 51 #[.pointer (some ⟨g, 0, none⟩), .int .i64 d] (w2.drewN k) fun e w' => e = .returned (.tuple #[]) ∧ ∃ uL, RAt base w' g (peerS S d).2.2 uL vG ∧ Fr (RX g vL vG) w2 w') := fun k => by
    have F : Fr (fun _ => False) w2 (w2.drewN k) := (Fr.refl _ _).drewN k
    have hi := inv_peer H1.out.inv d
    have e1 := peerS_yes HBAD.out (by have := HF.out; omega)
    rw [e1] at hi ⊢
    refine (ryput_in base g { S with theirs := d } { S with theirs := d, L := putL d S.L } vL vG d (w2.drewN k) (H2.out.later F) (Nat.le_trans hb1.out F2.out.size) rfl hi).mono ?_
    rintro e w' ⟨rfl, uL, a1, a2, -⟩
    exact ⟨rfl, uL, a1, (F.mono (fun _ _ e => e.elim)).trans (a2.mono (fun k _ e => .inl e))⟩
  go_upto_region 8 with (go_at_call 51; refine (KD.out _).mono ?_; rintro e w3 ⟨rfl, uL, a1, a2⟩)
  have H3 : Hid (RAt base w3 g (peerS S d).2.2 uL vG) := a1
  have R3 : Hid (w3.heap[w.heap.size]? = some (.cells #[.bool false, .int .i64 0, .int .i64 0] 48 (0, 0))) := (a2.block _ (lt_of_heap R2.out) (H.out.ne_new (Nat.le_refl _))).trans R2.out
  have G3 : Hid (Fr (RX g vL vG) w w3) := G2.out.trans a2
  clear a1 a2 c0 c1 c2 c3 c4 c5 c6
  go_wp2_with ((refine wpList_storeB rfl 48 (.tmp 5) (.tmp 44) rfl w.heap.size #[.bool false, .int .i64 0, .int .i64 0] #[.bool false, .int .i64 0, .int .i64 0] 48 rfl rfl R3.out rfl (by kernel_rfl) (by simp [Value.oneCell']) ?_; intro y H9 G9))
  have d0 : y.cell? ⟨w.heap.size, 0, none⟩ = some (.bool false) := cell_of_heap H9.out rfl
  have d1 : y.cell? ⟨w.heap.size, 1, none⟩ = some (.int .i64 0) := cell_of_heap H9.out rfl
  have d2 : y.cell? ⟨w.heap.size, 2, none⟩ = some (.int .i64 0) := cell_of_heap H9.out rfl
  refine bodyPost_ret (v := .tuple #[.bool true, .agg #[.bool false, .int .i64 0, .int .i64 0]]) (by simp [results, Try.results28, go_sem, d0, d1, d2]) rfl ?_
  exact ⟨rfl, _, _, H3.out.done R3.out G9.out (Nat.le_refl _) G3.out⟩
theorem ryPeer_in (base g : Nat) (S : Stm) (vL vG : Value) (d : Int) (w : World) (h : RAt base w g S vL vG) (hb : base ≤ w.heap.size) : Calls Try.prog 28 #[.pointer (some ⟨g, 0, none⟩), .int .i64 d] w (RPost base w g vL vG (peerS S d).2.2 (peerV S d)) := by
  unfold peerV
  by_cases hd : d < 1
  · rw [peerS_bad (S := S) (d := d) (.inl hd)]
    exact ryPeer_low base g S vL vG d w h hb hd
  by_cases hd2 : 2147483647 < d
  · rw [peerS_bad (S := S) (d := d) (.inr (.inl hd2))]
    exact ryPeer_high base g S vL vG d w h hb hd hd2
  cases ho : ownS S.server d
  · by_cases hl : d ≤ S.theirs
    · rw [peerS_bad (S := S) (d := d) (.inr (.inr (.inr hl)))]
      exact ryPeer_old base g S vL vG d w h hb hd hd2 ho hl
    · have hbad : ¬ (d < 1 ∨ 2147483647 < d ∨ ownS S.server d = true ∨ d ≤ S.theirs) := by rw [ho]; simp; omega
      by_cases hf : S.most ≤ (openS S false : Nat)
      · have := ryPeer_full base g S vL vG d w h hb hd hd2 ho hl hf
        rw [peerS_full hbad hf] at this ⊢
        exact this
      · have := ryPeer_yes base g S vL vG d w h hb hd hd2 ho hl hf
        rw [peerS_yes hbad hf] at this ⊢
        exact this
  · rw [peerS_bad (S := S) (d := d) (.inr (.inr (.inl ho)))]
    exact ryPeer_own base g S vL vG d w h hb hd hd2 ho
end Go.Proofs.Ytahlhkpabkplfaa
