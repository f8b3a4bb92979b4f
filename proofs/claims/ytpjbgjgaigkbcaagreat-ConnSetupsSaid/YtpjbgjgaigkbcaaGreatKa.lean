/- What a connection is made of: the makers answer something new, and no error, where the numbers may be. -/
import Derived.Test.YtpjbgjgaigkbcaaGreatMd
import Derived.Test.YtpjbgjgaigkbcaaGreatMv
import Derived.Test.YtpjbgjgaigkbcaaGreatNa
import Derived.Deep.Cut
namespace Go.Proofs.YtpjbgjgaigkbcaaGreat
open Go.RowKit Go.Maps
set_option linter.unusedVariables false
set_option maxRecDepth 100000
set_option maxHeartbeats 4000000

/-- What a maker answers. -/
def MadeNew (w : World) (e : Ending) (w' : World) : Prop := ∃ p : Option Addr, e = .returned (.tuple #[.pointer p, .int .i64 0]) ∧ Fr (fun _ => False) w w'

theorem rdr_made (most : Int) (w : World) (h0 : 16384 ≤ most) (h1 : most ≤ 16777215) : Calls Tryz.prog 12 #[.int .i64 most] w (MadeNew w) := by
  have g1 : ¬ most < 16384 := by omega
  have g2 : ¬ 16777215 < most := by omega
  go_enter Tryz.func12, Tryz.ntmps12
  go_wp2_with (fail)
  go_ret2
  exact ⟨_, rfl, (Fr.refl _ _).alloc _⟩
theorem blk_made (w : World) : Calls Tryz.prog 13 #[.int .i64 65536] w (MadeNew w) := by
  go_enter Tryz.func13, Tryz.ntmps13
  go_wp2_with (fail)
  go_ret2
  exact ⟨_, rfl, (Fr.refl _ _).alloc _⟩
theorem mayBe_yes (n : Int) (w : World) (h0 : 0 ≤ n) (h1 : n ≤ 65536) : Calls Tryz.prog 42 #[.int .i64 n] w fun e w' => e = .returned (.bool true) ∧ w = w' := by
  go_enter Tryz.func42, Tryz.ntmps42
  go_wp2_with (fail)
  go_ret
  exact ⟨rfl, rfl⟩
theorem tab_made (n : Int) (w : World) (h0 : 0 ≤ n) (h1 : n ≤ 65536) : Calls Tryz.prog 32 #[.int .i64 n] w (MadeNew w) := by
  have K := mayBe_yes n w h0 h1
  clear h0 h1
  go_enter Tryz.func32, Tryz.ntmps32
  go_wp2_with (go_at_call 42; refine K.mono ?_; clear K; rintro e w' ⟨rfl, rfl⟩)
  go_ret2
  exact ⟨_, rfl, (Fr.refl _ _).alloc _⟩
theorem dec_made (n l : Int) (w : World) (h0 : 0 ≤ n) (h1 : n ≤ 65536) (h2 : 0 ≤ l) : Calls Tryz.prog 14 #[.int .i64 n, .int .i64 l] w (MadeNew w) := by
  have K := tab_made n w h0 h1
  clear h0 h1
  go_enter Tryz.func14, Tryz.ntmps14
  go_wp2_with (go_at_call 32; refine K.mono ?_; clear K; rintro e w1 ⟨p, rfl, f1⟩)
  go_ret2
  exact ⟨_, rfl, (f1.alloc _).alloc _⟩
theorem enc_made (w : World) : Calls Tryz.prog 15 #[.int .i64 4096] w (MadeNew w) := by
  have K := tab_made 4096 w (by omega) (by omega)
  go_enter Tryz.func15, Tryz.ntmps15
  go_wp2_with (go_at_call 32; refine K.mono ?_; clear K; rintro e w1 ⟨p, rfl, f1⟩)
  go_ret2
  exact ⟨_, rfl, (f1.alloc _).alloc _⟩
theorem win_made (w : World) : Calls Tryz.prog 17 #[.int .i64 65535] w (MadeNew w) := by
  have K := sized_yes 65535 w rfl
  go_enter Tryz.func17, Tryz.ntmps17
  go_upto_region 2 with (go_at_call 33; refine K.mono ?_; clear K; rintro e w1 ⟨rfl, f1⟩)
  obtain ⟨wa, hwa⟩ : ∃ wa, wa = w1.alloc (Obj.cells #[.int .i64 65535, .bool true] 106) := ⟨_, rfl⟩
  have Fa : Fr (fun _ => False) w wa := by rw [hwa]; exact f1.alloc _
  have c0 : wa.cell? ⟨w1.heap.size, 0, none⟩ = some (.int .i64 65535) := by rw [hwa]; exact cell_of_heap (heap_alloc_new _ _) rfl
  have c1 : wa.cell? ⟨w1.heap.size, 1, none⟩ = some (.bool true) := by rw [hwa]; exact cell_of_heap (heap_alloc_new _ _) rfl
  rw [← hwa]
  clear hwa
  go_wp2_with (fail)
  go_ret2
  exact ⟨_, rfl, Fa.alloc _⟩
theorem cred_made (w : World) : Calls Tryz.prog 18 #[.int .i64 65535] w (MadeNew w) := by
  have K := sized_yes 65535 w rfl
  go_enter Tryz.func18, Tryz.ntmps18
  go_upto_region 2 with (go_at_call 33; refine K.mono ?_; clear K; rintro e w1 ⟨rfl, f1⟩)
  obtain ⟨wa, hwa⟩ : ∃ wa, wa = w1.alloc (Obj.cells #[.int .i64 65535, .bool true] 106) := ⟨_, rfl⟩
  have Fa : Fr (fun _ => False) w wa := by rw [hwa]; exact f1.alloc _
  have c0 : wa.cell? ⟨w1.heap.size, 0, none⟩ = some (.int .i64 65535) := by rw [hwa]; exact cell_of_heap (heap_alloc_new _ _) rfl
  have c1 : wa.cell? ⟨w1.heap.size, 1, none⟩ = some (.bool true) := by rw [hwa]; exact cell_of_heap (heap_alloc_new _ _) rfl
  rw [← hwa]
  clear hwa
  go_wp2_with (fail)
  go_ret2
  exact ⟨_, rfl, Fa.alloc _⟩

/-- Streams of which none is known: their block, and their map. -/
structure StrAt (w : World) (g mb : Nat) : Prop where
  cell : w.cell? ⟨g, 0, none⟩ = some (.map (some mb))
  lt : g < w.heap.size
  map : MapAt w mb 0 (fun _ => none)
theorem StrAt.fr {S : Nat → Prop} {w w' : World} {g mb : Nat} (h : StrAt w g mb) (hf : Fr S w w') (hg : ¬ S g) (hm : ¬ S mb) : StrAt w' g mb :=
  ⟨(hf.cell h.lt hg).trans h.cell, Nat.lt_of_lt_of_le h.lt hf.size, h.map.fr hf hm⟩
theorem set_other {cs : Array Value} {j : Nat} {v u : Value} (h : cs[0]? = some u) (hj : j ≠ 0) : (cs.setIfInBounds j v)[0]? = some u := by
  rw [Array.getElem?_setIfInBounds_ne hj]; exact h
/-- What the maker of streams answers. -/
def StrMade (w : World) (e : Ending) (w' : World) : Prop := ∃ g mb, e = .returned (.tuple #[.pointer (some ⟨g, 0, none⟩), .int .i64 0]) ∧ StrAt w' g mb ∧ w.heap.size ≤ g ∧ w.heap.size ≤ mb ∧ Fr (fun _ => False) w w'
theorem str_made (sv : Bool) (most : Int) (w : World) (h0 : 0 ≤ most) (h1 : most ≤ 1024) :
    Calls Tryz.prog 16 #[.bool sv, .int .i64 most] w (StrMade w) := by
  have hmm := @run_makeMap Tryz.prog
  go_enter Tryz.func16, Tryz.ntmps16
  go_upto_region 4 with (fail)
  obtain ⟨w2, hw2⟩ : ∃ w2, w2 = (w.alloc (Obj.map #[] 0)).alloc (Obj.cells ((Tryz.zeroCells104.setIfInBounds 0 (Value.map (some w.heap.size))).setIfInBounds 1 (Value.bool sv)) 104) := ⟨_, rfl⟩
  have h2 : w2.heap[w.heap.size + 1]? = some (.cells ((Tryz.zeroCells104.setIfInBounds 0 (Value.map (some w.heap.size))).setIfInBounds 1 (Value.bool sv)) 104 (0, 0)) := by
    rw [hw2]
    have := heap_alloc_new (w.alloc (Obj.map #[] 0)) (Obj.cells ((Tryz.zeroCells104.setIfInBounds 0 (Value.map (some w.heap.size))).setIfInBounds 1 (Value.bool sv)) 104)
    simpa using this
  have m2 : MapAt w2 w.heap.size 0 (fun _ => none) := by
    rw [hw2]
    exact (map_made w).fr ((Fr.refl (fun _ => False) _).alloc _) id
  have F2 : Fr (fun _ => False) w w2 := by rw [hw2]; exact ((Fr.refl _ _).alloc _).alloc _
  have s2 : w2.heap.size = w.heap.size + 2 := by rw [hw2]; simp
  rw [← hw2]
  clear hw2 hmm
  have c2 : w2.cell? ⟨w.heap.size + 1, 2, none⟩ = some (.int .i64 0) := cell_of_heap h2 (by kernel_rfl)
  have c3 : w2.cell? ⟨w.heap.size + 1, 3, none⟩ = some (.int .i64 0) := cell_of_heap h2 (by kernel_rfl)
  have c4 : w2.cell? ⟨w.heap.size + 1, 4, none⟩ = some (.int .i64 0) := cell_of_heap h2 (by kernel_rfl)
  have c5 : w2.cell? ⟨w.heap.size + 1, 5, none⟩ = some (.int .i64 0) := cell_of_heap h2 (by kernel_rfl)
  have c6 : w2.cell? ⟨w.heap.size + 1, 6, none⟩ = some (.int .i64 0) := cell_of_heap h2 (by kernel_rfl)
  have c7 : w2.cell? ⟨w.heap.size + 1, 7, none⟩ = some (.int .i64 0) := cell_of_heap h2 (by kernel_rfl)
  have H0 : Hid (((Tryz.zeroCells104.setIfInBounds 0 (Value.map (some w.heap.size))).setIfInBounds 1 (Value.bool sv))[0]? = some (.map (some w.heap.size))) := by show _ = _; kernel_rfl
  have z : ∀ j, w2.frozen? ⟨w.heap.size + 1, j, none⟩ = false := fun j => frozen_of_heap h2
  generalize (Tryz.zeroCells104.setIfInBounds 0 (Value.map (some w.heap.size))).setIfInBounds 1 (Value.bool sv) = ag at h2 H0 ⊢
  have H2 : Hid (w2.heap[w.heap.size + 1]? = some (.cells ag 104 (0, 0))) := h2
  have HX : Hid (∀ {a b : World}, Fr (fun k => k = w.heap.size + 1) a b → MapAt a w.heap.size 0 (fun _ => none) → MapAt b w.heap.size 0 (fun _ => none)) := fun hf hm => hm.fr hf (by omega)
  clear h2
  cases sv
  · go_wp2_with (fail)
    go_ret2
    refine ⟨w.heap.size + 1, w.heap.size, rfl, ⟨cell_of_heap (sset (sset (sset (sset H2.out)))) (set_other (set_other (set_other (set_other H0.out (by decide)) (by decide)) (by decide)) (by decide)), lt_of_heap (sset (sset (sset (sset H2.out)))), ?_⟩, by omega, Nat.le_refl _, ?_⟩
    · exact HX.out ((((Fr.refl _ _).setB _ _).setB _ _).setB _ _ |>.setB _ _) m2
    · exact ⟨F2.os, F2.tape, F2.output, by simp [World.setCell]; omega, fun k hk hs => by rw [Below.heap_setCell _ _ _ _ (show k ≠ _ by simp; omega), Below.heap_setCell _ _ _ _ (show k ≠ _ by simp; omega), Below.heap_setCell _ _ _ _ (show k ≠ _ by simp; omega), Below.heap_setCell _ _ _ _ (show k ≠ _ by simp; omega)]; exact F2.block k hk id⟩
  · go_wp2_with (fail)
    go_ret2
    refine ⟨w.heap.size + 1, w.heap.size, rfl, ⟨cell_of_heap (sset (sset (sset (sset (sset H2.out))))) (set_other (set_other (set_other (set_other (set_other H0.out (by decide)) (by decide)) (by decide)) (by decide)) (by decide)), lt_of_heap (sset (sset (sset (sset (sset H2.out))))), ?_⟩, by omega, Nat.le_refl _, ?_⟩
    · exact HX.out ((((Fr.refl _ _).setB _ _).setB _ _).setB _ _ |>.setB _ _ |>.setB _ _) m2
    · exact ⟨F2.os, F2.tape, F2.output, by simp [World.setCell]; omega, fun k hk hs => by rw [Below.heap_setCell _ _ _ _ (show k ≠ _ by simp; omega), Below.heap_setCell _ _ _ _ (show k ≠ _ by simp; omega), Below.heap_setCell _ _ _ _ (show k ≠ _ by simp; omega), Below.heap_setCell _ _ _ _ (show k ≠ _ by simp; omega), Below.heap_setCell _ _ _ _ (show k ≠ _ by simp; omega)]; exact F2.block k hk id⟩
end Go.Proofs.YtpjbgjgaigkbcaaGreat
