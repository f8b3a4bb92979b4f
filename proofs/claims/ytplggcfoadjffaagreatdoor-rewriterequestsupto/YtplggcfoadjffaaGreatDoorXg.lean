/- A header turned by the rule of its name. -/
import Derived.Test.YtplggcfoadjffaaGreatDoorXf
import Derived.Laws.EntriesVeiled
namespace Go.Proofs.YtplggcfoadjffaaGreatDoor
open Go.RowKit
set_option linter.unusedVariables false
set_option maxRecDepth 100000
set_option maxHeartbeats 4000000

theorem eq_listR (s : ByteArray) (n : List UInt8) : (n == s.toList) = decide (tx s = n) := by
  rw [tx_toList]
  by_cases h : tx s = n
  · simp [h]
  · rw [decide_eq_false h, beq_eq_false_iff_ne]
    exact fun e => h e.symm
theorem below_alloc {n : Nat} {w w' : World} (h : Below n w w') (hn : n ≤ w'.heap.size) (o : Obj) : Below n w (w'.alloc o) := h.alloc hn o
/-- The result's block behind a call. -/
theorem kept_new {w w2 : World} {A B R : Obj} {W : World} (hW : Fr (fun _ => False) ((w.alloc A).alloc B) W) (hf : Fr (fun _ => False) W w2) : w2.heap[w.heap.size + 1]? = some B := by
  have h1 : ((w.alloc A).alloc B).heap[w.heap.size + 1]? = some B := by have := heap_alloc_new (w.alloc A) B; rwa [World.size_alloc] at this
  exact ((hW.trans hf).block _ (lt_of_heap h1) id).trans h1

/-- The rules in memory. -/
structure RulesQ (w : World) (rb : Nat) (gA gC gF : Nat) (au : Bool) (ck : ByteArray) (f : Int) : Prop where
  row : w.heap[rb]? = some (.cells #[.string ⟨#[104, 111, 115, 116]⟩, .func (.func 47) #[] #[.pointer (some ⟨gA, 0, none⟩)], .string ⟨#[97, 117, 116, 104, 111, 114, 105, 122, 97, 116, 105, 111, 110]⟩, .func (.func 48) #[] #[], .string ⟨#[99, 111, 111, 107, 105, 101]⟩, .func (.func 49) #[] #[.pointer (some ⟨gC, 0, none⟩), .pointer (some ⟨gF, 0, none⟩)], .string ⟨#[118, 105, 97]⟩, .func (.func 50) #[] #[]] 86 (0, 0))
  ca : w.cell? ⟨gA, 0, none⟩ = some (.bool au)
  cc : w.cell? ⟨gC, 0, none⟩ = some (.string ck)
  cf : w.cell? ⟨gF, 0, none⟩ = some (.int .i64 f)
theorem RulesQ.fr {S : Nat → Prop} {w w' : World} {rb : Nat} {gA gC gF : Nat} {au : Bool} {ck : ByteArray} {f : Int} (h : RulesQ w rb gA gC gF au ck f ) (hf : Fr S w w') (hs : ∀ k, k < w.heap.size → ¬ S k) : RulesQ w' rb gA gC gF au ck f :=
  ⟨(hf.block _ (lt_of_heap h.row) (hs _ (lt_of_heap h.row))).trans h.row, (hf.cell (p := ⟨gA, 0, none⟩) (World.block_lt_of_cell? _ _ h.ca) (hs _ (World.block_lt_of_cell? _ _ h.ca))).trans h.ca, (hf.cell (p := ⟨gC, 0, none⟩) (World.block_lt_of_cell? _ _ h.cc) (hs _ (World.block_lt_of_cell? _ _ h.cc))).trans h.cc, (hf.cell (p := ⟨gF, 0, none⟩) (World.block_lt_of_cell? _ _ h.cf) (hs _ (World.block_lt_of_cell? _ _ h.cf))).trans h.cf⟩
theorem applyQ0 (z : Int) (xn xv : ByteArray) (xs : Bool) (rb : Nat) (gA gC gF : Nat) (au : Bool) (ck : ByteArray) (f : Int) (w : World) (h : RulesQ w rb gA gC gF au ck f )  (h0 : tx xn = sHost) :
    Calls Tryz.prog 73 #[.slice (some ⟨rb, 0, none⟩) 4 4, .int .i64 z, .agg #[.string xn, .string xv, .bool xs]] w fun e w' => TurnAs w (xn, xv, xs) (!au) e w' := by
  have H : Hid (RulesQ w rb gA gC gF au ck f ) := h
  have n0 : ∀ o0 o1, ((w.alloc o0).alloc o1).cell? ⟨rb, 0, none⟩ = some (.string ⟨#[104, 111, 115, 116]⟩) := fun o0 o1 => ((((Fr.refl (fun _ => False) w).alloc o0).alloc o1).cell (p := ⟨rb, 0, none⟩) (lt_of_heap h.row) id).trans (cell_of_heap h.row rfl)
  have f0 : ∀ o0 o1, ((w.alloc o0).alloc o1).cell? ⟨rb, 1, none⟩ = some (.func (.func 47) #[] #[.pointer (some ⟨gA, 0, none⟩)]) := fun o0 o1 => ((((Fr.refl (fun _ => False) w).alloc o0).alloc o1).cell (p := ⟨rb, 1, none⟩) (lt_of_heap h.row) id).trans (cell_of_heap h.row rfl)
  have e0 := eq_listR xn sHost
  rw [decide_eq_true h0] at e0
  unfold sHost at e0
  have g0 : xn.toList = [104, 111, 115, 116] := by rw [beq_iff_eq] at e0; exact e0.symm
  have K : Hid (∀ W, Fr (fun _ => False) w W → Calls Tryz.prog 47 #[.int .i64 z, .agg #[.string xn, .string xv, .bool xs], .pointer (some ⟨gA, 0, none⟩)] W fun e w' => TurnAs W (xn, xv, xs) (!au) e w') := fun W hb => host_in z xn xv xs au gA W (H.out.fr hb (fun _ _ => id)).ca
  clear h h0
  go_enter Tryz.func73, Tryz.ntmps73
  go_wp2_with (fail)
  refine wp_loop_rounds 5 ?_
  rw [rounds_succ]
  go_wp2_with (fail)
  refine (K.out _ ((((Fr.refl _ _).alloc _).alloc _).alloc _)).mono ?_
  rintro e w2 ⟨rfl, f2⟩
  have B2 := kept_new (R := .cells #[] 0) ((Fr.refl _ _).alloc _) f2
  have F2 : Hid (Fr (fun _ => False) w w2) := ((((Fr.refl _ _).alloc _).alloc _).alloc _).trans f2
  have q0 : w2.cell? ⟨w.heap.size + 1, 0, none⟩ = some (.string ⟨#[]⟩) := cell_of_heap B2 rfl
  have q1 : w2.cell? ⟨w.heap.size + 1, 1, none⟩ = some (.string ⟨#[]⟩) := cell_of_heap B2 rfl
  have q2 : w2.cell? ⟨w.heap.size + 1, 2, none⟩ = some (.bool false) := cell_of_heap B2 rfl
  have z0 : w2.frozen? ⟨w.heap.size + 1, 0, none⟩ = false := frozen_of_heap B2
  have z1 : w2.frozen? ⟨w.heap.size + 1, 1, none⟩ = false := frozen_of_heap B2
  have z2 : w2.frozen? ⟨w.heap.size + 1, 2, none⟩ = false := frozen_of_heap B2
  clear f2
  unfold hdrV
  go_wp2_with (fail)
  refine bodyPost_ret (v := .tuple #[hdrV (xn, xv, xs), .bool (!au)]) (by simp [results, Tryz.results73, go_sem, hdrV, q0, q1, q2]) rfl ⟨rfl, ((F2.out.setCell _ (fun h => absurd h (by simp)) _).setCell _ (fun h => absurd h (by simp)) _).setCell _ (fun h => absurd h (by simp)) _⟩
theorem applyQ1 (z : Int) (xn xv : ByteArray) (xs : Bool) (rb : Nat) (gA gC gF : Nat) (au : Bool) (ck : ByteArray) (f : Int) (w : World) (h : RulesQ w rb gA gC gF au ck f ) (h0 : tx xn ≠ sHost) (h1 : tx xn = sAuthz) :
    Calls Tryz.prog 73 #[.slice (some ⟨rb, 0, none⟩) 4 4, .int .i64 z, .agg #[.string xn, .string xv, .bool xs]] w fun e w' => TurnAs w (xn, xv, true) true e w' := by
  have H : Hid (RulesQ w rb gA gC gF au ck f ) := h
  have n0 : ∀ o0 o1, ((w.alloc o0).alloc o1).cell? ⟨rb, 0, none⟩ = some (.string ⟨#[104, 111, 115, 116]⟩) := fun o0 o1 => ((((Fr.refl (fun _ => False) w).alloc o0).alloc o1).cell (p := ⟨rb, 0, none⟩) (lt_of_heap h.row) id).trans (cell_of_heap h.row rfl)
  have f0 : ∀ o0 o1, ((w.alloc o0).alloc o1).cell? ⟨rb, 1, none⟩ = some (.func (.func 47) #[] #[.pointer (some ⟨gA, 0, none⟩)]) := fun o0 o1 => ((((Fr.refl (fun _ => False) w).alloc o0).alloc o1).cell (p := ⟨rb, 1, none⟩) (lt_of_heap h.row) id).trans (cell_of_heap h.row rfl)
  have e0 := eq_listR xn sHost
  rw [decide_eq_false h0] at e0
  unfold sHost at e0
  have g0 : ¬ [104, 111, 115, 116] = xn.toList := by rw [beq_eq_false_iff_ne] at e0; exact e0
  have n1 : ∀ o0 o1 o2, (((w.alloc o0).alloc o1).alloc o2).cell? ⟨rb, 2, none⟩ = some (.string ⟨#[97, 117, 116, 104, 111, 114, 105, 122, 97, 116, 105, 111, 110]⟩) := fun o0 o1 o2 => (((((Fr.refl (fun _ => False) w).alloc o0).alloc o1).alloc o2).cell (p := ⟨rb, 2, none⟩) (lt_of_heap h.row) id).trans (cell_of_heap h.row rfl)
  have f1 : ∀ o0 o1 o2, (((w.alloc o0).alloc o1).alloc o2).cell? ⟨rb, 3, none⟩ = some (.func (.func 48) #[] #[]) := fun o0 o1 o2 => (((((Fr.refl (fun _ => False) w).alloc o0).alloc o1).alloc o2).cell (p := ⟨rb, 3, none⟩) (lt_of_heap h.row) id).trans (cell_of_heap h.row rfl)
  have e1 := eq_listR xn sAuthz
  rw [decide_eq_true h1] at e1
  unfold sAuthz at e1
  have g1 : xn.toList = [97, 117, 116, 104, 111, 114, 105, 122, 97, 116, 105, 111, 110] := by rw [beq_iff_eq] at e1; exact e1.symm
  have K : Hid (∀ W, Fr (fun _ => False) w W → Calls Tryz.prog 48 #[.int .i64 z, .agg #[.string xn, .string xv, .bool xs]] W fun e w' => TurnAs W (xn, xv, true) true e w') := fun W hb => hide_in z xn xv xs W
  clear h h0 h1
  go_enter Tryz.func73, Tryz.ntmps73
  go_wp2_with (fail)
  refine wp_loop_rounds 5 ?_
  rw [rounds_succ]
  go_wp2_with (fail)
  rw [rounds_succ]
  go_wp2_with (fail)
  refine (K.out _ (((((Fr.refl _ _).alloc _).alloc _).alloc _).alloc _)).mono ?_
  rintro e w2 ⟨rfl, f2⟩
  have B2 := kept_new (R := .cells #[] 0) (((Fr.refl _ _).alloc _).alloc _) f2
  have F2 : Hid (Fr (fun _ => False) w w2) := (((((Fr.refl _ _).alloc _).alloc _).alloc _).alloc _).trans f2
  have q0 : w2.cell? ⟨w.heap.size + 1, 0, none⟩ = some (.string ⟨#[]⟩) := cell_of_heap B2 rfl
  have q1 : w2.cell? ⟨w.heap.size + 1, 1, none⟩ = some (.string ⟨#[]⟩) := cell_of_heap B2 rfl
  have q2 : w2.cell? ⟨w.heap.size + 1, 2, none⟩ = some (.bool false) := cell_of_heap B2 rfl
  have z0 : w2.frozen? ⟨w.heap.size + 1, 0, none⟩ = false := frozen_of_heap B2
  have z1 : w2.frozen? ⟨w.heap.size + 1, 1, none⟩ = false := frozen_of_heap B2
  have z2 : w2.frozen? ⟨w.heap.size + 1, 2, none⟩ = false := frozen_of_heap B2
  clear f2
  unfold hdrV
  go_wp2_with (fail)
  refine bodyPost_ret (v := .tuple #[hdrV (xn, xv, true), .bool true]) (by simp [results, Tryz.results73, go_sem, hdrV, q0, q1, q2]) rfl ⟨rfl, ((F2.out.setCell _ (fun h => absurd h (by simp)) _).setCell _ (fun h => absurd h (by simp)) _).setCell _ (fun h => absurd h (by simp)) _⟩
theorem applyQ2 (z : Int) (xn xv : ByteArray) (xs : Bool) (rb : Nat) (gA gC gF : Nat) (au : Bool) (ck : ByteArray) (f : Int) (w : World) (h : RulesQ w rb gA gC gF au ck f ) (h0 : tx xn ≠ sHost) (h1 : tx xn ≠ sAuthz) (h2 : tx xn = sCookie) :
    Calls Tryz.prog 73 #[.slice (some ⟨rb, 0, none⟩) 4 4, .int .i64 z, .agg #[.string xn, .string xv, .bool xs]] w fun e w' => TurnAs w (mkS sCookie, ck, true) (z == f) e w' := by
  have H : Hid (RulesQ w rb gA gC gF au ck f ) := h
  have n0 : ∀ o0 o1, ((w.alloc o0).alloc o1).cell? ⟨rb, 0, none⟩ = some (.string ⟨#[104, 111, 115, 116]⟩) := fun o0 o1 => ((((Fr.refl (fun _ => False) w).alloc o0).alloc o1).cell (p := ⟨rb, 0, none⟩) (lt_of_heap h.row) id).trans (cell_of_heap h.row rfl)
  have f0 : ∀ o0 o1, ((w.alloc o0).alloc o1).cell? ⟨rb, 1, none⟩ = some (.func (.func 47) #[] #[.pointer (some ⟨gA, 0, none⟩)]) := fun o0 o1 => ((((Fr.refl (fun _ => False) w).alloc o0).alloc o1).cell (p := ⟨rb, 1, none⟩) (lt_of_heap h.row) id).trans (cell_of_heap h.row rfl)
  have e0 := eq_listR xn sHost
  rw [decide_eq_false h0] at e0
  unfold sHost at e0
  have g0 : ¬ [104, 111, 115, 116] = xn.toList := by rw [beq_eq_false_iff_ne] at e0; exact e0
  have n1 : ∀ o0 o1 o2, (((w.alloc o0).alloc o1).alloc o2).cell? ⟨rb, 2, none⟩ = some (.string ⟨#[97, 117, 116, 104, 111, 114, 105, 122, 97, 116, 105, 111, 110]⟩) := fun o0 o1 o2 => (((((Fr.refl (fun _ => False) w).alloc o0).alloc o1).alloc o2).cell (p := ⟨rb, 2, none⟩) (lt_of_heap h.row) id).trans (cell_of_heap h.row rfl)
  have f1 : ∀ o0 o1 o2, (((w.alloc o0).alloc o1).alloc o2).cell? ⟨rb, 3, none⟩ = some (.func (.func 48) #[] #[]) := fun o0 o1 o2 => (((((Fr.refl (fun _ => False) w).alloc o0).alloc o1).alloc o2).cell (p := ⟨rb, 3, none⟩) (lt_of_heap h.row) id).trans (cell_of_heap h.row rfl)
  have e1 := eq_listR xn sAuthz
  rw [decide_eq_false h1] at e1
  unfold sAuthz at e1
  have g1 : ¬ [97, 117, 116, 104, 111, 114, 105, 122, 97, 116, 105, 111, 110] = xn.toList := by rw [beq_eq_false_iff_ne] at e1; exact e1
  have n2 : ∀ o0 o1 o2 o3, ((((w.alloc o0).alloc o1).alloc o2).alloc o3).cell? ⟨rb, 4, none⟩ = some (.string ⟨#[99, 111, 111, 107, 105, 101]⟩) := fun o0 o1 o2 o3 => ((((((Fr.refl (fun _ => False) w).alloc o0).alloc o1).alloc o2).alloc o3).cell (p := ⟨rb, 4, none⟩) (lt_of_heap h.row) id).trans (cell_of_heap h.row rfl)
  have f2 : ∀ o0 o1 o2 o3, ((((w.alloc o0).alloc o1).alloc o2).alloc o3).cell? ⟨rb, 5, none⟩ = some (.func (.func 49) #[] #[.pointer (some ⟨gC, 0, none⟩), .pointer (some ⟨gF, 0, none⟩)]) := fun o0 o1 o2 o3 => ((((((Fr.refl (fun _ => False) w).alloc o0).alloc o1).alloc o2).alloc o3).cell (p := ⟨rb, 5, none⟩) (lt_of_heap h.row) id).trans (cell_of_heap h.row rfl)
  have e2 := eq_listR xn sCookie
  rw [decide_eq_true h2] at e2
  unfold sCookie at e2
  have g2 : xn.toList = [99, 111, 111, 107, 105, 101] := by rw [beq_iff_eq] at e2; exact e2.symm
  have K : Hid (∀ W, Fr (fun _ => False) w W → Calls Tryz.prog 49 #[.int .i64 z, .agg #[.string xn, .string xv, .bool xs], .pointer (some ⟨gC, 0, none⟩), .pointer (some ⟨gF, 0, none⟩)] W fun e w' => TurnAs W (mkS sCookie, ck, true) (z == f) e w') := fun W hb => cook_in z f xn xv ck xs gC gF W (H.out.fr hb (fun _ _ => id)).cc (H.out.fr hb (fun _ _ => id)).cf
  clear h h0 h1 h2
  go_enter Tryz.func73, Tryz.ntmps73
  go_wp2_with (fail)
  refine wp_loop_rounds 5 ?_
  rw [rounds_succ]
  go_wp2_with (fail)
  rw [rounds_succ]
  go_wp2_with (fail)
  rw [rounds_succ]
  go_wp2_with (fail)
  refine (K.out _ ((((((Fr.refl _ _).alloc _).alloc _).alloc _).alloc _).alloc _)).mono ?_
  rintro e w2 ⟨rfl, f2⟩
  have B2 := kept_new (R := .cells #[] 0) ((((Fr.refl _ _).alloc _).alloc _).alloc _) f2
  have F2 : Hid (Fr (fun _ => False) w w2) := ((((((Fr.refl _ _).alloc _).alloc _).alloc _).alloc _).alloc _).trans f2
  have q0 : w2.cell? ⟨w.heap.size + 1, 0, none⟩ = some (.string ⟨#[]⟩) := cell_of_heap B2 rfl
  have q1 : w2.cell? ⟨w.heap.size + 1, 1, none⟩ = some (.string ⟨#[]⟩) := cell_of_heap B2 rfl
  have q2 : w2.cell? ⟨w.heap.size + 1, 2, none⟩ = some (.bool false) := cell_of_heap B2 rfl
  have z0 : w2.frozen? ⟨w.heap.size + 1, 0, none⟩ = false := frozen_of_heap B2
  have z1 : w2.frozen? ⟨w.heap.size + 1, 1, none⟩ = false := frozen_of_heap B2
  have z2 : w2.frozen? ⟨w.heap.size + 1, 2, none⟩ = false := frozen_of_heap B2
  clear f2
  unfold hdrV
  go_wp2_with (fail)
  refine bodyPost_ret (v := .tuple #[hdrV (mkS sCookie, ck, true), .bool (z == f)]) (by simp [results, Tryz.results73, go_sem, hdrV, mkS, sCookie, q0, q1, q2]) rfl ⟨rfl, ((F2.out.setCell _ (fun h => absurd h (by simp)) _).setCell _ (fun h => absurd h (by simp)) _).setCell _ (fun h => absurd h (by simp)) _⟩
theorem applyQ3 (z : Int) (xn xv : ByteArray) (xs : Bool) (rb : Nat) (gA gC gF : Nat) (au : Bool) (ck : ByteArray) (f : Int) (w : World) (h : RulesQ w rb gA gC gF au ck f ) (h0 : tx xn ≠ sHost) (h1 : tx xn ≠ sAuthz) (h2 : tx xn ≠ sCookie) (h3 : tx xn = sVia) :
    Calls Tryz.prog 73 #[.slice (some ⟨rb, 0, none⟩) 4 4, .int .i64 z, .agg #[.string xn, .string xv, .bool xs]] w fun e w' => TurnAs w zeroHd false e w' := by
  have H : Hid (RulesQ w rb gA gC gF au ck f ) := h
  have n0 : ∀ o0 o1, ((w.alloc o0).alloc o1).cell? ⟨rb, 0, none⟩ = some (.string ⟨#[104, 111, 115, 116]⟩) := fun o0 o1 => ((((Fr.refl (fun _ => False) w).alloc o0).alloc o1).cell (p := ⟨rb, 0, none⟩) (lt_of_heap h.row) id).trans (cell_of_heap h.row rfl)
  have f0 : ∀ o0 o1, ((w.alloc o0).alloc o1).cell? ⟨rb, 1, none⟩ = some (.func (.func 47) #[] #[.pointer (some ⟨gA, 0, none⟩)]) := fun o0 o1 => ((((Fr.refl (fun _ => False) w).alloc o0).alloc o1).cell (p := ⟨rb, 1, none⟩) (lt_of_heap h.row) id).trans (cell_of_heap h.row rfl)
  have e0 := eq_listR xn sHost
  rw [decide_eq_false h0] at e0
  unfold sHost at e0
  have g0 : ¬ [104, 111, 115, 116] = xn.toList := by rw [beq_eq_false_iff_ne] at e0; exact e0
  have n1 : ∀ o0 o1 o2, (((w.alloc o0).alloc o1).alloc o2).cell? ⟨rb, 2, none⟩ = some (.string ⟨#[97, 117, 116, 104, 111, 114, 105, 122, 97, 116, 105, 111, 110]⟩) := fun o0 o1 o2 => (((((Fr.refl (fun _ => False) w).alloc o0).alloc o1).alloc o2).cell (p := ⟨rb, 2, none⟩) (lt_of_heap h.row) id).trans (cell_of_heap h.row rfl)
  have f1 : ∀ o0 o1 o2, (((w.alloc o0).alloc o1).alloc o2).cell? ⟨rb, 3, none⟩ = some (.func (.func 48) #[] #[]) := fun o0 o1 o2 => (((((Fr.refl (fun _ => False) w).alloc o0).alloc o1).alloc o2).cell (p := ⟨rb, 3, none⟩) (lt_of_heap h.row) id).trans (cell_of_heap h.row rfl)
  have e1 := eq_listR xn sAuthz
  rw [decide_eq_false h1] at e1
  unfold sAuthz at e1
  have g1 : ¬ [97, 117, 116, 104, 111, 114, 105, 122, 97, 116, 105, 111, 110] = xn.toList := by rw [beq_eq_false_iff_ne] at e1; exact e1
  have n2 : ∀ o0 o1 o2 o3, ((((w.alloc o0).alloc o1).alloc o2).alloc o3).cell? ⟨rb, 4, none⟩ = some (.string ⟨#[99, 111, 111, 107, 105, 101]⟩) := fun o0 o1 o2 o3 => ((((((Fr.refl (fun _ => False) w).alloc o0).alloc o1).alloc o2).alloc o3).cell (p := ⟨rb, 4, none⟩) (lt_of_heap h.row) id).trans (cell_of_heap h.row rfl)
  have f2 : ∀ o0 o1 o2 o3, ((((w.alloc o0).alloc o1).alloc o2).alloc o3).cell? ⟨rb, 5, none⟩ = some (.func (.func 49) #[] #[.pointer (some ⟨gC, 0, none⟩), .pointer (some ⟨gF, 0, none⟩)]) := fun o0 o1 o2 o3 => ((((((Fr.refl (fun _ => False) w).alloc o0).alloc o1).alloc o2).alloc o3).cell (p := ⟨rb, 5, none⟩) (lt_of_heap h.row) id).trans (cell_of_heap h.row rfl)
  have e2 := eq_listR xn sCookie
  rw [decide_eq_false h2] at e2
  unfold sCookie at e2
  have g2 : ¬ [99, 111, 111, 107, 105, 101] = xn.toList := by rw [beq_eq_false_iff_ne] at e2; exact e2
  have n3 : ∀ o0 o1 o2 o3 o4, (((((w.alloc o0).alloc o1).alloc o2).alloc o3).alloc o4).cell? ⟨rb, 6, none⟩ = some (.string ⟨#[118, 105, 97]⟩) := fun o0 o1 o2 o3 o4 => (((((((Fr.refl (fun _ => False) w).alloc o0).alloc o1).alloc o2).alloc o3).alloc o4).cell (p := ⟨rb, 6, none⟩) (lt_of_heap h.row) id).trans (cell_of_heap h.row rfl)
  have f3 : ∀ o0 o1 o2 o3 o4, (((((w.alloc o0).alloc o1).alloc o2).alloc o3).alloc o4).cell? ⟨rb, 7, none⟩ = some (.func (.func 50) #[] #[]) := fun o0 o1 o2 o3 o4 => (((((((Fr.refl (fun _ => False) w).alloc o0).alloc o1).alloc o2).alloc o3).alloc o4).cell (p := ⟨rb, 7, none⟩) (lt_of_heap h.row) id).trans (cell_of_heap h.row rfl)
  have e3 := eq_listR xn sVia
  rw [decide_eq_true h3] at e3
  unfold sVia at e3
  have g3 : xn.toList = [118, 105, 97] := by rw [beq_iff_eq] at e3; exact e3.symm
  have K : Hid (∀ W, Fr (fun _ => False) w W → Calls Tryz.prog 50 #[.int .i64 z, .agg #[.string xn, .string xv, .bool xs]] W fun e w' => TurnAs W zeroHd false e w') := fun W hb => leave_in z xn xv xs W
  clear h h0 h1 h2 h3
  go_enter Tryz.func73, Tryz.ntmps73
  go_wp2_with (fail)
  refine wp_loop_rounds 5 ?_
  rw [rounds_succ]
  go_wp2_with (fail)
  rw [rounds_succ]
  go_wp2_with (fail)
  rw [rounds_succ]
  go_wp2_with (fail)
  rw [rounds_succ]
  go_wp2_with (fail)
  refine (K.out _ (((((((Fr.refl _ _).alloc _).alloc _).alloc _).alloc _).alloc _).alloc _)).mono ?_
  rintro e w2 ⟨rfl, f2⟩
  have B2 := kept_new (R := .cells #[] 0) (((((Fr.refl _ _).alloc _).alloc _).alloc _).alloc _) f2
  have F2 : Hid (Fr (fun _ => False) w w2) := (((((((Fr.refl _ _).alloc _).alloc _).alloc _).alloc _).alloc _).alloc _).trans f2
  have q0 : w2.cell? ⟨w.heap.size + 1, 0, none⟩ = some (.string ⟨#[]⟩) := cell_of_heap B2 rfl
  have q1 : w2.cell? ⟨w.heap.size + 1, 1, none⟩ = some (.string ⟨#[]⟩) := cell_of_heap B2 rfl
  have q2 : w2.cell? ⟨w.heap.size + 1, 2, none⟩ = some (.bool false) := cell_of_heap B2 rfl
  have z0 : w2.frozen? ⟨w.heap.size + 1, 0, none⟩ = false := frozen_of_heap B2
  have z1 : w2.frozen? ⟨w.heap.size + 1, 1, none⟩ = false := frozen_of_heap B2
  have z2 : w2.frozen? ⟨w.heap.size + 1, 2, none⟩ = false := frozen_of_heap B2
  clear f2
  unfold hdrV
  go_wp2_with (fail)
  refine bodyPost_ret (v := .tuple #[hdrV zeroHd, .bool false]) (by simp [results, Tryz.results73, go_sem, hdrV, zeroHd, q0, q1, q2]) rfl ⟨rfl, ((F2.out.setCell _ (fun h => absurd h (by simp)) _).setCell _ (fun h => absurd h (by simp)) _).setCell _ (fun h => absurd h (by simp)) _⟩
theorem applyQ4 (z : Int) (xn xv : ByteArray) (xs : Bool) (rb : Nat) (gA gC gF : Nat) (au : Bool) (ck : ByteArray) (f : Int) (w : World) (h : RulesQ w rb gA gC gF au ck f ) (h0 : tx xn ≠ sHost) (h1 : tx xn ≠ sAuthz) (h2 : tx xn ≠ sCookie) (h3 : tx xn ≠ sVia) :
    Calls Tryz.prog 73 #[.slice (some ⟨rb, 0, none⟩) 4 4, .int .i64 z, .agg #[.string xn, .string xv, .bool xs]] w fun e w' => TurnAs w (xn, xv, xs) true e w' := by
  have H : Hid (RulesQ w rb gA gC gF au ck f ) := h
  have n0 : ∀ o0 o1, ((w.alloc o0).alloc o1).cell? ⟨rb, 0, none⟩ = some (.string ⟨#[104, 111, 115, 116]⟩) := fun o0 o1 => ((((Fr.refl (fun _ => False) w).alloc o0).alloc o1).cell (p := ⟨rb, 0, none⟩) (lt_of_heap h.row) id).trans (cell_of_heap h.row rfl)
  have f0 : ∀ o0 o1, ((w.alloc o0).alloc o1).cell? ⟨rb, 1, none⟩ = some (.func (.func 47) #[] #[.pointer (some ⟨gA, 0, none⟩)]) := fun o0 o1 => ((((Fr.refl (fun _ => False) w).alloc o0).alloc o1).cell (p := ⟨rb, 1, none⟩) (lt_of_heap h.row) id).trans (cell_of_heap h.row rfl)
  have e0 := eq_listR xn sHost
  rw [decide_eq_false h0] at e0
  unfold sHost at e0
  have g0 : ¬ [104, 111, 115, 116] = xn.toList := by rw [beq_eq_false_iff_ne] at e0; exact e0
  have n1 : ∀ o0 o1 o2, (((w.alloc o0).alloc o1).alloc o2).cell? ⟨rb, 2, none⟩ = some (.string ⟨#[97, 117, 116, 104, 111, 114, 105, 122, 97, 116, 105, 111, 110]⟩) := fun o0 o1 o2 => (((((Fr.refl (fun _ => False) w).alloc o0).alloc o1).alloc o2).cell (p := ⟨rb, 2, none⟩) (lt_of_heap h.row) id).trans (cell_of_heap h.row rfl)
  have f1 : ∀ o0 o1 o2, (((w.alloc o0).alloc o1).alloc o2).cell? ⟨rb, 3, none⟩ = some (.func (.func 48) #[] #[]) := fun o0 o1 o2 => (((((Fr.refl (fun _ => False) w).alloc o0).alloc o1).alloc o2).cell (p := ⟨rb, 3, none⟩) (lt_of_heap h.row) id).trans (cell_of_heap h.row rfl)
  have e1 := eq_listR xn sAuthz
  rw [decide_eq_false h1] at e1
  unfold sAuthz at e1
  have g1 : ¬ [97, 117, 116, 104, 111, 114, 105, 122, 97, 116, 105, 111, 110] = xn.toList := by rw [beq_eq_false_iff_ne] at e1; exact e1
  have n2 : ∀ o0 o1 o2 o3, ((((w.alloc o0).alloc o1).alloc o2).alloc o3).cell? ⟨rb, 4, none⟩ = some (.string ⟨#[99, 111, 111, 107, 105, 101]⟩) := fun o0 o1 o2 o3 => ((((((Fr.refl (fun _ => False) w).alloc o0).alloc o1).alloc o2).alloc o3).cell (p := ⟨rb, 4, none⟩) (lt_of_heap h.row) id).trans (cell_of_heap h.row rfl)
  have f2 : ∀ o0 o1 o2 o3, ((((w.alloc o0).alloc o1).alloc o2).alloc o3).cell? ⟨rb, 5, none⟩ = some (.func (.func 49) #[] #[.pointer (some ⟨gC, 0, none⟩), .pointer (some ⟨gF, 0, none⟩)]) := fun o0 o1 o2 o3 => ((((((Fr.refl (fun _ => False) w).alloc o0).alloc o1).alloc o2).alloc o3).cell (p := ⟨rb, 5, none⟩) (lt_of_heap h.row) id).trans (cell_of_heap h.row rfl)
  have e2 := eq_listR xn sCookie
  rw [decide_eq_false h2] at e2
  unfold sCookie at e2
  have g2 : ¬ [99, 111, 111, 107, 105, 101] = xn.toList := by rw [beq_eq_false_iff_ne] at e2; exact e2
  have n3 : ∀ o0 o1 o2 o3 o4, (((((w.alloc o0).alloc o1).alloc o2).alloc o3).alloc o4).cell? ⟨rb, 6, none⟩ = some (.string ⟨#[118, 105, 97]⟩) := fun o0 o1 o2 o3 o4 => (((((((Fr.refl (fun _ => False) w).alloc o0).alloc o1).alloc o2).alloc o3).alloc o4).cell (p := ⟨rb, 6, none⟩) (lt_of_heap h.row) id).trans (cell_of_heap h.row rfl)
  have f3 : ∀ o0 o1 o2 o3 o4, (((((w.alloc o0).alloc o1).alloc o2).alloc o3).alloc o4).cell? ⟨rb, 7, none⟩ = some (.func (.func 50) #[] #[]) := fun o0 o1 o2 o3 o4 => (((((((Fr.refl (fun _ => False) w).alloc o0).alloc o1).alloc o2).alloc o3).alloc o4).cell (p := ⟨rb, 7, none⟩) (lt_of_heap h.row) id).trans (cell_of_heap h.row rfl)
  have e3 := eq_listR xn sVia
  rw [decide_eq_false h3] at e3
  unfold sVia at e3
  have g3 : ¬ [118, 105, 97] = xn.toList := by rw [beq_eq_false_iff_ne] at e3; exact e3
  clear h h0 h1 h2 h3
  go_enter Tryz.func73, Tryz.ntmps73
  go_wp2_with (fail)
  refine wp_loop_rounds 5 ?_
  rw [rounds_succ]
  go_wp2_with (fail)
  rw [rounds_succ]
  go_wp2_with (fail)
  rw [rounds_succ]
  go_wp2_with (fail)
  rw [rounds_succ]
  go_wp2_with (fail)
  rw [rounds_succ]
  go_wp2_with (fail)
  refine bodyPost_ret (v := .tuple #[.agg #[.string xn, .string xv, .bool xs], .bool true]) (by simp [results, Tryz.results73, go_sem]) rfl ⟨rfl, ((((((Fr.refl _ _).alloc _).alloc _).alloc _).alloc _).alloc _).alloc _⟩

/-- The rules in memory. -/
structure RulesP (w : World) (rb : Nat) : Prop where
  row : w.heap[rb]? = some (.cells #[.string ⟨#[115, 101, 116, 45, 99, 111, 111, 107, 105, 101]⟩, .func (.func 48) #[] #[], .string ⟨#[118, 105, 97]⟩, .func (.func 50) #[] #[]] 86 (0, 0))
theorem RulesP.fr {S : Nat → Prop} {w w' : World} {rb : Nat} (h : RulesP w rb ) (hf : Fr S w w') (hs : ∀ k, k < w.heap.size → ¬ S k) : RulesP w' rb :=
  ⟨(hf.block _ (lt_of_heap h.row) (hs _ (lt_of_heap h.row))).trans h.row⟩
theorem applyP0 (z : Int) (xn xv : ByteArray) (xs : Bool) (rb : Nat) (w : World) (h : RulesP w rb )  (h0 : tx xn = sSetC) :
    Calls Tryz.prog 73 #[.slice (some ⟨rb, 0, none⟩) 2 2, .int .i64 z, .agg #[.string xn, .string xv, .bool xs]] w fun e w' => TurnAs w (xn, xv, true) true e w' := by
  have H : Hid (RulesP w rb ) := h
  have n0 : ∀ o0 o1, ((w.alloc o0).alloc o1).cell? ⟨rb, 0, none⟩ = some (.string ⟨#[115, 101, 116, 45, 99, 111, 111, 107, 105, 101]⟩) := fun o0 o1 => ((((Fr.refl (fun _ => False) w).alloc o0).alloc o1).cell (p := ⟨rb, 0, none⟩) (lt_of_heap h.row) id).trans (cell_of_heap h.row rfl)
  have f0 : ∀ o0 o1, ((w.alloc o0).alloc o1).cell? ⟨rb, 1, none⟩ = some (.func (.func 48) #[] #[]) := fun o0 o1 => ((((Fr.refl (fun _ => False) w).alloc o0).alloc o1).cell (p := ⟨rb, 1, none⟩) (lt_of_heap h.row) id).trans (cell_of_heap h.row rfl)
  have e0 := eq_listR xn sSetC
  rw [decide_eq_true h0] at e0
  unfold sSetC at e0
  have g0 : xn.toList = [115, 101, 116, 45, 99, 111, 111, 107, 105, 101] := by rw [beq_iff_eq] at e0; exact e0.symm
  have K : Hid (∀ W, Fr (fun _ => False) w W → Calls Tryz.prog 48 #[.int .i64 z, .agg #[.string xn, .string xv, .bool xs]] W fun e w' => TurnAs W (xn, xv, true) true e w') := fun W hb => hide_in z xn xv xs W
  clear h h0
  go_enter Tryz.func73, Tryz.ntmps73
  go_wp2_with (fail)
  refine wp_loop_rounds 3 ?_
  rw [rounds_succ]
  go_wp2_with (fail)
  refine (K.out _ ((((Fr.refl _ _).alloc _).alloc _).alloc _)).mono ?_
  rintro e w2 ⟨rfl, f2⟩
  have B2 := kept_new (R := .cells #[] 0) ((Fr.refl _ _).alloc _) f2
  have F2 : Hid (Fr (fun _ => False) w w2) := ((((Fr.refl _ _).alloc _).alloc _).alloc _).trans f2
  have q0 : w2.cell? ⟨w.heap.size + 1, 0, none⟩ = some (.string ⟨#[]⟩) := cell_of_heap B2 rfl
  have q1 : w2.cell? ⟨w.heap.size + 1, 1, none⟩ = some (.string ⟨#[]⟩) := cell_of_heap B2 rfl
  have q2 : w2.cell? ⟨w.heap.size + 1, 2, none⟩ = some (.bool false) := cell_of_heap B2 rfl
  have z0 : w2.frozen? ⟨w.heap.size + 1, 0, none⟩ = false := frozen_of_heap B2
  have z1 : w2.frozen? ⟨w.heap.size + 1, 1, none⟩ = false := frozen_of_heap B2
  have z2 : w2.frozen? ⟨w.heap.size + 1, 2, none⟩ = false := frozen_of_heap B2
  clear f2
  unfold hdrV
  go_wp2_with (fail)
  refine bodyPost_ret (v := .tuple #[hdrV (xn, xv, true), .bool true]) (by simp [results, Tryz.results73, go_sem, hdrV, q0, q1, q2]) rfl ⟨rfl, ((F2.out.setCell _ (fun h => absurd h (by simp)) _).setCell _ (fun h => absurd h (by simp)) _).setCell _ (fun h => absurd h (by simp)) _⟩
theorem applyP1 (z : Int) (xn xv : ByteArray) (xs : Bool) (rb : Nat) (w : World) (h : RulesP w rb ) (h0 : tx xn ≠ sSetC) (h1 : tx xn = sVia) :
    Calls Tryz.prog 73 #[.slice (some ⟨rb, 0, none⟩) 2 2, .int .i64 z, .agg #[.string xn, .string xv, .bool xs]] w fun e w' => TurnAs w zeroHd false e w' := by
  have H : Hid (RulesP w rb ) := h
  have n0 : ∀ o0 o1, ((w.alloc o0).alloc o1).cell? ⟨rb, 0, none⟩ = some (.string ⟨#[115, 101, 116, 45, 99, 111, 111, 107, 105, 101]⟩) := fun o0 o1 => ((((Fr.refl (fun _ => False) w).alloc o0).alloc o1).cell (p := ⟨rb, 0, none⟩) (lt_of_heap h.row) id).trans (cell_of_heap h.row rfl)
  have f0 : ∀ o0 o1, ((w.alloc o0).alloc o1).cell? ⟨rb, 1, none⟩ = some (.func (.func 48) #[] #[]) := fun o0 o1 => ((((Fr.refl (fun _ => False) w).alloc o0).alloc o1).cell (p := ⟨rb, 1, none⟩) (lt_of_heap h.row) id).trans (cell_of_heap h.row rfl)
  have e0 := eq_listR xn sSetC
  rw [decide_eq_false h0] at e0
  unfold sSetC at e0
  have g0 : ¬ [115, 101, 116, 45, 99, 111, 111, 107, 105, 101] = xn.toList := by rw [beq_eq_false_iff_ne] at e0; exact e0
  have n1 : ∀ o0 o1 o2, (((w.alloc o0).alloc o1).alloc o2).cell? ⟨rb, 2, none⟩ = some (.string ⟨#[118, 105, 97]⟩) := fun o0 o1 o2 => (((((Fr.refl (fun _ => False) w).alloc o0).alloc o1).alloc o2).cell (p := ⟨rb, 2, none⟩) (lt_of_heap h.row) id).trans (cell_of_heap h.row rfl)
  have f1 : ∀ o0 o1 o2, (((w.alloc o0).alloc o1).alloc o2).cell? ⟨rb, 3, none⟩ = some (.func (.func 50) #[] #[]) := fun o0 o1 o2 => (((((Fr.refl (fun _ => False) w).alloc o0).alloc o1).alloc o2).cell (p := ⟨rb, 3, none⟩) (lt_of_heap h.row) id).trans (cell_of_heap h.row rfl)
  have e1 := eq_listR xn sVia
  rw [decide_eq_true h1] at e1
  unfold sVia at e1
  have g1 : xn.toList = [118, 105, 97] := by rw [beq_iff_eq] at e1; exact e1.symm
  have K : Hid (∀ W, Fr (fun _ => False) w W → Calls Tryz.prog 50 #[.int .i64 z, .agg #[.string xn, .string xv, .bool xs]] W fun e w' => TurnAs W zeroHd false e w') := fun W hb => leave_in z xn xv xs W
  clear h h0 h1
  go_enter Tryz.func73, Tryz.ntmps73
  go_wp2_with (fail)
  refine wp_loop_rounds 3 ?_
  rw [rounds_succ]
  go_wp2_with (fail)
  rw [rounds_succ]
  go_wp2_with (fail)
  refine (K.out _ (((((Fr.refl _ _).alloc _).alloc _).alloc _).alloc _)).mono ?_
  rintro e w2 ⟨rfl, f2⟩
  have B2 := kept_new (R := .cells #[] 0) (((Fr.refl _ _).alloc _).alloc _) f2
  have F2 : Hid (Fr (fun _ => False) w w2) := (((((Fr.refl _ _).alloc _).alloc _).alloc _).alloc _).trans f2
  have q0 : w2.cell? ⟨w.heap.size + 1, 0, none⟩ = some (.string ⟨#[]⟩) := cell_of_heap B2 rfl
  have q1 : w2.cell? ⟨w.heap.size + 1, 1, none⟩ = some (.string ⟨#[]⟩) := cell_of_heap B2 rfl
  have q2 : w2.cell? ⟨w.heap.size + 1, 2, none⟩ = some (.bool false) := cell_of_heap B2 rfl
  have z0 : w2.frozen? ⟨w.heap.size + 1, 0, none⟩ = false := frozen_of_heap B2
  have z1 : w2.frozen? ⟨w.heap.size + 1, 1, none⟩ = false := frozen_of_heap B2
  have z2 : w2.frozen? ⟨w.heap.size + 1, 2, none⟩ = false := frozen_of_heap B2
  clear f2
  unfold hdrV
  go_wp2_with (fail)
  refine bodyPost_ret (v := .tuple #[hdrV zeroHd, .bool false]) (by simp [results, Tryz.results73, go_sem, hdrV, zeroHd, q0, q1, q2]) rfl ⟨rfl, ((F2.out.setCell _ (fun h => absurd h (by simp)) _).setCell _ (fun h => absurd h (by simp)) _).setCell _ (fun h => absurd h (by simp)) _⟩
theorem applyP2 (z : Int) (xn xv : ByteArray) (xs : Bool) (rb : Nat) (w : World) (h : RulesP w rb ) (h0 : tx xn ≠ sSetC) (h1 : tx xn ≠ sVia) :
    Calls Tryz.prog 73 #[.slice (some ⟨rb, 0, none⟩) 2 2, .int .i64 z, .agg #[.string xn, .string xv, .bool xs]] w fun e w' => TurnAs w (xn, xv, xs) true e w' := by
  have H : Hid (RulesP w rb ) := h
  have n0 : ∀ o0 o1, ((w.alloc o0).alloc o1).cell? ⟨rb, 0, none⟩ = some (.string ⟨#[115, 101, 116, 45, 99, 111, 111, 107, 105, 101]⟩) := fun o0 o1 => ((((Fr.refl (fun _ => False) w).alloc o0).alloc o1).cell (p := ⟨rb, 0, none⟩) (lt_of_heap h.row) id).trans (cell_of_heap h.row rfl)
  have f0 : ∀ o0 o1, ((w.alloc o0).alloc o1).cell? ⟨rb, 1, none⟩ = some (.func (.func 48) #[] #[]) := fun o0 o1 => ((((Fr.refl (fun _ => False) w).alloc o0).alloc o1).cell (p := ⟨rb, 1, none⟩) (lt_of_heap h.row) id).trans (cell_of_heap h.row rfl)
  have e0 := eq_listR xn sSetC
  rw [decide_eq_false h0] at e0
  unfold sSetC at e0
  have g0 : ¬ [115, 101, 116, 45, 99, 111, 111, 107, 105, 101] = xn.toList := by rw [beq_eq_false_iff_ne] at e0; exact e0
  have n1 : ∀ o0 o1 o2, (((w.alloc o0).alloc o1).alloc o2).cell? ⟨rb, 2, none⟩ = some (.string ⟨#[118, 105, 97]⟩) := fun o0 o1 o2 => (((((Fr.refl (fun _ => False) w).alloc o0).alloc o1).alloc o2).cell (p := ⟨rb, 2, none⟩) (lt_of_heap h.row) id).trans (cell_of_heap h.row rfl)
  have f1 : ∀ o0 o1 o2, (((w.alloc o0).alloc o1).alloc o2).cell? ⟨rb, 3, none⟩ = some (.func (.func 50) #[] #[]) := fun o0 o1 o2 => (((((Fr.refl (fun _ => False) w).alloc o0).alloc o1).alloc o2).cell (p := ⟨rb, 3, none⟩) (lt_of_heap h.row) id).trans (cell_of_heap h.row rfl)
  have e1 := eq_listR xn sVia
  rw [decide_eq_false h1] at e1
  unfold sVia at e1
  have g1 : ¬ [118, 105, 97] = xn.toList := by rw [beq_eq_false_iff_ne] at e1; exact e1
  clear h h0 h1
  go_enter Tryz.func73, Tryz.ntmps73
  go_wp2_with (fail)
  refine wp_loop_rounds 3 ?_
  rw [rounds_succ]
  go_wp2_with (fail)
  rw [rounds_succ]
  go_wp2_with (fail)
  rw [rounds_succ]
  go_wp2_with (fail)
  refine bodyPost_ret (v := .tuple #[.agg #[.string xn, .string xv, .bool xs], .bool true]) (by simp [results, Tryz.results73, go_sem]) rfl ⟨rfl, ((((Fr.refl _ _).alloc _).alloc _).alloc _).alloc _⟩
end Go.Proofs.YtplggcfoadjffaaGreatDoor
