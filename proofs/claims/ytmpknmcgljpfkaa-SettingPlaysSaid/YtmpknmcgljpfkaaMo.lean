/- The document's settings: New, Get, Apply. -/
import Derived.Test.YtmpknmcgljpfkaaMm
import Derived.Test.YtmpknmcgljpfkaaMf
namespace Go.Proofs.Ytmpknmcgljpfkaa
open Go.RowKit Go.Maps
set_option linter.unusedVariables false
set_option maxRecDepth 100000
set_option maxHeartbeats 4000000

/-- The document's values, as cells. -/
def rowV (V : Int → Nat) : Array Value := #[.int .u32 0, .int .u32 (V 1 : Nat), .int .u32 (V 2 : Nat), .int .u32 (V 3 : Nat), .int .u32 (V 4 : Nat), .int .u32 (V 5 : Nat), .int .u32 (V 6 : Nat), .int .u32 0, .int .u32 (V 8 : Nat)]
theorem rowV_at (V : Int → Nat) (j : Nat) (h : kn (j : Int) = true) : (rowV V)[j]? = some (.int .u32 (V (j : Int) : Nat)) := by
  rcases kn_cases h with e | e | e | e | e | e | e
  · obtain rfl : j = 1 := by omega
    rfl
  · obtain rfl : j = 2 := by omega
    rfl
  · obtain rfl : j = 3 := by omega
    rfl
  · obtain rfl : j = 4 := by omega
    rfl
  · obtain rfl : j = 5 := by omega
    rfl
  · obtain rfl : j = 6 := by omega
    rfl
  · obtain rfl : j = 8 := by omega
    rfl
theorem rowV_set (V : Int → Nat) (j n : Nat) (h : kn (j : Int) = true) : (rowV V).setIfInBounds j (.int .u32 (n : Nat)) = rowV (setV V (j : Int) n) := by
  rcases kn_cases h with e | e | e | e | e | e | e
  · obtain rfl : j = 1 := by omega
    rfl
  · obtain rfl : j = 2 := by omega
    rfl
  · obtain rfl : j = 3 := by omega
    rfl
  · obtain rfl : j = 4 := by omega
    rfl
  · obtain rfl : j = 5 := by omega
    rfl
  · obtain rfl : j = 6 := by omega
    rfl
  · obtain rfl : j = 8 := by omega
    rfl
theorem cells_ne9 {w : World} {g g' : Nat} {cs cs' : Array Value} {t t' : TypeId} {fr fr' : Nat × Nat} (h : w.heap[g]? = some (.cells cs t fr)) (h' : w.heap[g']? = some (.cells cs' t' fr')) (ht : t ≠ t') : g ≠ g' := by
  rintro rfl
  rw [h] at h'
  cases h'
  exact ht rfl
/-- The document's settings in memory. -/
structure RefQ (w0 w : World) (g b : Nat) (V : Int → Nat) (a : Option Addr) (n c : Nat) (L : List (Option Addr × Nat × List (Int × Nat))) : Prop where
  set : w.heap[g]? = some (.cells #[.slice (some ⟨b, 0, none⟩) 9 9, .slice a n c] 53 (0, 0))
  vals : w.heap[b]? = some (.cells (rowV V) 22 (0, 0))
  own : OwnAt w 33 (.slice a n c) (L.map offV)
  copies : ∀ x ∈ L, Copy w x.1 x.2.1 x.2.2
  ok : OkV V
  fr : Fr (fun _ => False) w0 w
  new : w0.heap.size ≤ b ∧ w0.heap.size ≤ g
  newQ : ∀ k, (Value.slice a n c).ownBlock = some k → w0.heap.size ≤ k
theorem RefQ.fr' {S : Nat → Prop} {w0 w w' : World} {g b : Nat} {V : Int → Nat} {a : Option Addr} {n c : Nat} {L : List (Option Addr × Nat × List (Int × Nat))} (h : RefQ w0 w g b V a n c L) (hf : Fr S w w') (h0 : ∀ k, S k → w0.heap.size ≤ k) (hg : ¬ S g) (hb : ¬ S b) (ho : ∀ k, (Value.slice a n c).ownBlock = some k → ¬ S k) (hc : ∀ k cur, w.heap[k]? = some (.cells cur 24 (0, 0)) → ¬ S k) : RefQ w0 w' g b V a n c L :=
  ⟨(hf.block _ (lt_of_heap h.set) hg).trans h.set, (hf.block _ (lt_of_heap h.vals) hb).trans h.vals, h.own.fr hf ho, fun x hx => (h.copies x hx).fr hf hc, h.ok, fr_new h.fr hf h0, h.new, h.newQ⟩
theorem RefQ.later {w0 w w' : World} {g b : Nat} {V : Int → Nat} {a : Option Addr} {n c : Nat} {L : List (Option Addr × Nat × List (Int × Nat))} (h : RefQ w0 w g b V a n c L) (hf : Fr (fun _ => False) w w') : RefQ w0 w' g b V a n c L :=
  h.fr' hf (fun _ e => e.elim) id id (fun _ _ => id) (fun _ _ _ => id)
theorem RefQ.len {w0 w : World} {g b : Nat} {V : Int → Nat} {a : Option Addr} {n c : Nat} {L : List (Option Addr × Nat × List (Int × Nat))} (h : RefQ w0 w g b V a n c L) : n = L.length := by
  have := own_len9 h.own
  simpa using this
theorem RefQ.ne {w0 w : World} {g b : Nat} {V : Int → Nat} {a : Option Addr} {n c : Nat} {L : List (Option Addr × Nat × List (Int × Nat))} (h : RefQ w0 w g b V a n c L) : g ≠ b := cells_ne9 h.set h.vals (by decide)

theorem rsknown_in (d : Int) (w : World) : Calls Try.prog 30 #[.int .i64 d] w fun e w' => e = .returned (.bool (kn d)) ∧ w = w' := by
  by_cases h1 : 1 ≤ d
  · by_cases h8 : d ≤ 8
    · by_cases h7 : d = 7
      · subst h7
        go_enter Try.func30, Try.ntmps30
        go_wp2_with (fail)
        go_ret
        exact ⟨rfl, rfl⟩
      · have hk : Hid (kn d = true) := by show _ = _; simp [kn]; omega
        have h7b : (d != 7) = true := by simp [h7]
        go_enter Try.func30, Try.ntmps30
        go_wp2_with (fail)
        go_ret
        exact ⟨by rw [hk.out]; rfl, rfl⟩
    · have hk : Hid (kn d = false) := by show _ = _; simp [kn]; omega
      go_enter Try.func30, Try.ntmps30
      go_wp2_with (fail)
      go_ret
      exact ⟨by rw [hk.out]; rfl, rfl⟩
  · have hk : Hid (kn d = false) := by show _ = _; simp [kn]; omega
    go_enter Try.func30, Try.ntmps30
    go_wp2_with (fail)
    go_ret
    exact ⟨by rw [hk.out]; rfl, rfl⟩
theorem kn_nat {d : Int} (h : kn d = true) : ∃ j : Nat, d = (j : Int) ∧ 1 ≤ j ∧ j < 9 := by
  have := kn_cases h
  exact ⟨d.toNat, by omega, by omega, by omega⟩
theorem rsGet_in {w0 w : World} {g b : Nat} {V : Int → Nat} {a : Option Addr} {n c : Nat} {L : List (Option Addr × Nat × List (Int × Nat))} (h : RefQ w0 w g b V a n c L) (d : Int) :
    Calls Try.prog 22 #[.pointer (some ⟨g, 0, none⟩), .int .i64 d] w fun e w' => e = .returned (.int .u32 (getV V d : Nat)) ∧ w = w' := by
  have K1 := rsknown_in d w
  have c0 : w.cell? ⟨g, 0, none⟩ = some (.slice (some ⟨b, 0, none⟩) 9 9) := cell_of_heap h.set rfl
  cases hk : kn d
  · rw [hk] at K1
    have hg : Hid (getV V d = 0) := by show _ = _; simp [getV, hk]
    clear h hk
    go_enter Try.func22, Try.ntmps22
    go_wp2_with (go_at_call 30; refine K1.mono ?_; clear K1; rintro e w1 ⟨rfl, rfl⟩)
    go_ret
    exact ⟨by rw [hg.out]; rfl, rfl⟩
  · rw [hk] at K1
    obtain ⟨j, rfl, hj1, hj9⟩ := kn_nat hk
    have c1 : w.cell? ⟨b, j, none⟩ = some (.int .u32 (V (j : Int) : Nat)) := cell_of_heap h.vals (rowV_at V j hk)
    have hg : Hid (getV V (j : Int) = V (j : Int)) := by show _ = _; simp [getV, hk]
    obtain ⟨x, hx⟩ : ∃ x, V (j : Int) = x := ⟨_, rfl⟩
    rw [hx] at c1 hg
    clear hk h hx
    have hj2 : (j : Int) < 9 := by omega
    go_enter Try.func22, Try.ntmps22
    go_wp2_with (go_at_call 30; refine K1.mono ?_; clear K1; rintro e w1 ⟨rfl, rfl⟩)
    go_ret
    exact ⟨by rw [hg.out]; rfl, rfl⟩
theorem rsNew_in (w0 w : World) (h0 : Fr (fun _ => False) w0 w) : Calls Try.prog 13 #[] w fun e w' => ∃ g b, e = .returned (.pointer (some ⟨g, 0, none⟩)) ∧ RefQ w0 w' g b firstV none 0 0 [] ∧ Fr (fun _ => False) w w' := by
  have HH : Hid (Fr (fun _ => False) w0 w) := h0
  clear h0
  go_enter Try.func13, Try.ntmps13
  go_wp2_with (fail)
  go_ret
  have hsz := HH.out.size
  refine ⟨_, w.heap.size, rfl, ⟨?_, ?_, OwnAt.nil _ _, fun x hx => (by simp at hx), okV_first, (HH.out.alloc _).alloc _, ⟨hsz, by omega⟩, fun k e => by simp [Value.ownBlock] at e⟩, ((Fr.refl _ _).alloc _).alloc _⟩
  · have h1 := heap_alloc_new (w.alloc (.cells #[.int .u32 0, .int .u32 4096, .int .u32 1, .int .u32 4294967295, .int .u32 65535, .int .u32 16384, .int .u32 4294967295, .int .u32 0, .int .u32 0] 22)) (.cells #[.slice (some ⟨w.heap.size, 0, none⟩) 9 9, .slice none 0 0] 53)
    simpa using h1
  · rw [Below.heap_alloc _ _ _ (by simp)]
    exact heap_alloc_new w _
end Go.Proofs.Ytmpknmcgljpfkaa
