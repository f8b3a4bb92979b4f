/- Events compared; the walk of ScriptLines. -/
import Derived.Test.YtfehmlopndklcaaDoorScx
import Derived.Test.YtfehmlopndklcaaDoorScau
namespace Go.Proofs.YtfehmlopndklcaaDoor
open Go.RowKit
set_option maxRecDepth 100000
set_option maxHeartbeats 4000000
set_option linter.unusedVariables false

theorem same_in (x : Dr) (v u : Value) (W : World) (hv : BAt W v x.dat) (hu : BAt W u x.dat) : Calls Tryd.prog 8 #[inV x v, inV x u] W fun e w' => e = .returned (.bool true) ∧ Fr (fun _ => False) W w' := by
  obtain ⟨q, c, rfl, sq⟩ := hv.src
  obtain ⟨q2, c2, rfl, sq2⟩ := hu.src
  obtain ⟨W2, hW2⟩ : ∃ W2, (W.alloc (.cells #[.int .i64 x.what, .int .i64 x.a, .int .i64 x.b, .int .i64 x.d, .slice q x.dat.length c] 24)).alloc (.cells #[.int .i64 x.what, .int .i64 x.a, .int .i64 x.b, .int .i64 x.d, .slice q2 x.dat.length c2] 24) = W2 := ⟨_, rfl⟩
  have F2 : Hid (Fr (fun _ => False) W W2) := by show Fr _ _ _; rw [← hW2]; exact ((Fr.refl _ _).alloc _).alloc _
  have b1 : W2.heap[W.heap.size]? = some (.cells #[.int .i64 x.what, .int .i64 x.a, .int .i64 x.b, .int .i64 x.d, .slice q x.dat.length c] 24 (0, 0)) := by rw [← hW2]; exact heap_past _ _ (heap_last _ _ rfl)
  have b2 : W2.heap[W.heap.size + 1]? = some (.cells #[.int .i64 x.what, .int .i64 x.a, .int .i64 x.b, .int .i64 x.d, .slice q2 x.dat.length c2] 24 (0, 0)) := by rw [← hW2]; exact heap_last _ _ (by simp)
  have c0 : W2.cell? ⟨W.heap.size, 0, none⟩ = some (.int .i64 x.what) := cell_of_heap b1 rfl
  have c1 : W2.cell? ⟨W.heap.size, 1, none⟩ = some (.int .i64 x.a) := cell_of_heap b1 rfl
  have c2' : W2.cell? ⟨W.heap.size, 2, none⟩ = some (.int .i64 x.b) := cell_of_heap b1 rfl
  have c3 : W2.cell? ⟨W.heap.size, 3, none⟩ = some (.int .i64 x.d) := cell_of_heap b1 rfl
  have c4 : W2.cell? ⟨W.heap.size, 4, none⟩ = some (.slice q x.dat.length c) := cell_of_heap b1 rfl
  have d0 : W2.cell? ⟨W.heap.size + 1, 0, none⟩ = some (.int .i64 x.what) := cell_of_heap b2 rfl
  have d1 : W2.cell? ⟨W.heap.size + 1, 1, none⟩ = some (.int .i64 x.a) := cell_of_heap b2 rfl
  have d2 : W2.cell? ⟨W.heap.size + 1, 2, none⟩ = some (.int .i64 x.b) := cell_of_heap b2 rfl
  have d3 : W2.cell? ⟨W.heap.size + 1, 3, none⟩ = some (.int .i64 x.d) := cell_of_heap b2 rfl
  have d4 : W2.cell? ⟨W.heap.size + 1, 4, none⟩ = some (.slice q2 x.dat.length c2) := cell_of_heap b2 rfl
  have e1 : (convert 22 9 (.slice q x.dat.length c)).run Tryd.prog W2 = .ok (.string ⟨x.dat.toArray⟩) W2 := SrcAt.str (sq.oldF F2.out) rfl c
  have e2 : (convert 22 9 (.slice q2 x.dat.length c2)).run Tryd.prog W2 = .ok (.string ⟨x.dat.toArray⟩) W2 := SrcAt.str (sq2.oldF F2.out) rfl c2
  clear b1 b2 sq sq2 hv hu
  show Calls Tryd.prog 8 #[.agg #[.int .i64 x.what, .int .i64 x.a, .int .i64 x.b, .int .i64 x.d, .slice q x.dat.length c], .agg #[.int .i64 x.what, .int .i64 x.a, .int .i64 x.b, .int .i64 x.d, .slice q2 x.dat.length c2]] W _
  generalize x.dat.toArray = da at e1 e2
  generalize x.dat.length = dl at hW2 c4 d4 e1 e2 ⊢
  generalize x.what = x0 at hW2 c0 d0 ⊢
  generalize x.a = x1 at hW2 c1 d1 ⊢
  generalize x.b = x2 at hW2 c2' d2 ⊢
  generalize x.d = x3 at hW2 c3 d3 ⊢
  go_enter Tryd.func8, Tryd.ntmps8
  go_wp2_with (fail)
  go_ret
  exact ⟨rfl, F2.out⟩
/-- What a line's answer is: the event, the place, the number. -/
def ans (s : ByteArray) (x : Dr) (pl n : Int) : Prop := (65536 < s.size ∧ x = Dr0 ∧ pl = 0 ∧ n = 2) ∨ (s.size ≤ 65536 ∧ ((∃ p : Nat, lineO (tx s) = .inr p ∧ x = Dr0 ∧ pl = (p : Int) ∧ n = 4) ∨ (lineO (tx s) = .inl x ∧ pl = 0 ∧ n = 0)))
theorem LineAs.form {s : ByteArray} {w W : World} {e : Ending} (h : LineAs s w e W) : ∃ (x : Dr) (q : Option Addr) (c : Nat) (pl n : Int), ans s x pl n ∧ e = .returned (.tuple #[.agg #[.int .i64 x.what, .int .i64 x.a, .int .i64 x.b, .int .i64 x.d, .slice q x.dat.length c], .int .i64 pl, .int .i64 n]) ∧ BAt W (.slice q x.dat.length c) x.dat ∧ Fr (fun _ => False) w W := by
  obtain ⟨hf, ⟨ha, rfl⟩ | ⟨ha, ⟨p, hp, rfl⟩ | ⟨x, v, hx, rfl, hv⟩⟩⟩ := h
  · exact ⟨Dr0, none, 0, 0, 2, .inl ⟨ha, rfl, rfl, rfl⟩, rfl, .nil _, hf⟩
  · exact ⟨Dr0, none, 0, p, 4, .inr ⟨ha, .inl ⟨p, hp, rfl, rfl, rfl⟩⟩, rfl, .nil _, hf⟩
  · obtain ⟨q, c, rfl, -⟩ := id hv
    exact ⟨x, q, c, 0, 0, .inr ⟨ha, .inr ⟨hx, rfl, rfl⟩⟩, rfl, hv, hf⟩
theorem ans_one {s : ByteArray} {x x' : Dr} {pl pl' n n' : Int} (h : ans s x pl n) (h' : ans s x' pl' n') : x = x' ∧ pl = pl' ∧ n = n' := by
  rcases h with ⟨ha, rfl, rfl, rfl⟩ | ⟨ha, ⟨p, hp, rfl, rfl, rfl⟩ | ⟨hx, rfl, rfl⟩⟩
  · rcases h' with ⟨-, rfl, rfl, rfl⟩ | ⟨hb, -⟩
    · exact ⟨rfl, rfl, rfl⟩
    · omega
  · rcases h' with ⟨hb, -⟩ | ⟨-, ⟨p', hp', rfl, rfl, rfl⟩ | ⟨hx', -⟩⟩
    · omega
    · rw [hp] at hp'
      injection hp' with hp'
      subst hp'
      exact ⟨rfl, rfl, rfl⟩
    · rw [hp] at hx'; cases hx'
  · rcases h' with ⟨hb, -⟩ | ⟨-, ⟨p', hp', -⟩ | ⟨hx', rfl, rfl⟩⟩
    · omega
    · rw [hx] at hp'; cases hp'
    · rw [hx] at hx'
      injection hx' with hx'
      exact ⟨hx', rfl, rfl⟩
theorem lines_walk (s : ByteArray) (w : World) (hE : EtAt w) : Calls Tryd.prog 3 #[.string s] w fun e w' => e = .returned (.bool true) ∧ Below w.heap.size w w' := by
  have K1 := Line_in s w hE
  go_enter Tryd.func3, Tryd.ntmps3
  go_wp2_with (fail)
  refine K1.mono ?_
  intro e1 W1 h1
  clear K1
  obtain ⟨x, q, c, pl, n, ha, rfl, hv, hf1⟩ := h1.form
  have HA : Hid (ans s x pl n) := ha
  have HV : Hid (BAt W1 (.slice q x.dat.length c) x.dat) := hv
  have HF1 : Hid (Fr (fun _ => False) w W1) := hf1
  have K2 := rLine_in s (W1.alloc (.cells #[.int .i64 x.what, .int .i64 x.a, .int .i64 x.b, .int .i64 x.d, .slice q x.dat.length c] 24))
  clear h1 ha hv hf1 hE
  go_wp2_with (fail)
  refine K2.mono ?_
  intro e2 W2 h2
  clear K2
  obtain ⟨x', q2, c2, pl', n', ha', rfl, hv2, hf2⟩ := h2.form
  obtain ⟨rfl, rfl, rfl⟩ := ans_one HA.out ha'
  have b1 := (hf2.block _ (by simp) id).trans (heap_last W1 (.cells #[.int .i64 x.what, .int .i64 x.a, .int .i64 x.b, .int .i64 x.d, .slice q x.dat.length c] 24) rfl)
  obtain ⟨W3, hW3⟩ : ∃ W3, W2.alloc (.cells #[.int .i64 x.what, .int .i64 x.a, .int .i64 x.b, .int .i64 x.d, .slice q2 x.dat.length c2] 24) = W3 := ⟨_, rfl⟩
  have f3 : Fr (fun _ => False) W2 W3 := by rw [← hW3]; exact (Fr.refl _ _).alloc _
  have b2 : W3.heap[W2.heap.size]? = some (.cells #[.int .i64 x.what, .int .i64 x.a, .int .i64 x.b, .int .i64 x.d, .slice q2 x.dat.length c2] 24 (0, 0)) := by rw [← hW3]; exact heap_last _ _ rfl
  have b3 := (f3.block _ (lt_of_heap b1) id).trans b1
  have c10 : W3.cell? ⟨W1.heap.size, 0, none⟩ = some (.int .i64 x.what) := cell_of_heap b3 rfl
  have c11 : W3.cell? ⟨W1.heap.size, 1, none⟩ = some (.int .i64 x.a) := cell_of_heap b3 rfl
  have c12 : W3.cell? ⟨W1.heap.size, 2, none⟩ = some (.int .i64 x.b) := cell_of_heap b3 rfl
  have c13 : W3.cell? ⟨W1.heap.size, 3, none⟩ = some (.int .i64 x.d) := cell_of_heap b3 rfl
  have c14 : W3.cell? ⟨W1.heap.size, 4, none⟩ = some (.slice q x.dat.length c) := cell_of_heap b3 rfl
  have c20 : W3.cell? ⟨W2.heap.size, 0, none⟩ = some (.int .i64 x.what) := cell_of_heap b2 rfl
  have c21 : W3.cell? ⟨W2.heap.size, 1, none⟩ = some (.int .i64 x.a) := cell_of_heap b2 rfl
  have c22 : W3.cell? ⟨W2.heap.size, 2, none⟩ = some (.int .i64 x.b) := cell_of_heap b2 rfl
  have c23 : W3.cell? ⟨W2.heap.size, 3, none⟩ = some (.int .i64 x.d) := cell_of_heap b2 rfl
  have c24 : W3.cell? ⟨W2.heap.size, 4, none⟩ = some (.slice q2 x.dat.length c2) := cell_of_heap b2 rfl
  have KS := same_in x (.slice q x.dat.length c) (.slice q2 x.dat.length c2) W3 (HV.out.old ((((Fr.refl _ _).alloc _).trans hf2).trans f3)) (hv2.old f3)
  have HF3 : Hid (Fr (fun _ => False) w W3) := HF1.out.trans ((((Fr.refl _ _).alloc _).trans hf2).trans f3)
  unfold inV at KS
  clear h2 ha' hv2 hf2 b1 b2 b3 f3
  go_wp2_with (fail)
  refine KS.mono ?_
  rintro e W4 ⟨rfl, hf4⟩
  have HF4 : Hid (Fr (fun _ => False) w W4) := HF3.out.trans hf4
  clear KS hf4 hW3 c10 c11 c12 c13 c14 c20 c21 c22 c23 c24
  go_wp2_with (fail)
  refine (zawake_in W4).mono ?_
  rintro e W5 ⟨rfl, hf5⟩
  have HF5 : Hid (Fr (fun _ => False) w W5) := HF4.out.trans hf5
  clear hf5
  go_wp2_with (fail)
  go_ret
  exact ⟨rfl, HF5.out.below (fun _ _ => id)⟩
end Go.Proofs.YtfehmlopndklcaaDoor
