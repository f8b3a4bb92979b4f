/- Contracts of the document's Queue (aqueductref01): Len; and plain facts for its Take. -/
import Derived.Test.YtaflgioelblcgaaF2
import Derived.Deep.LoopGhost
namespace Go.Proofs.Ytaflgioelblcgaa
open Go.RowKit
set_option linter.unusedVariables false

set_option maxRecDepth 100000 in
theorem rlen_any (b : Nat) (v : Value) (L : List (List UInt8)) (w : World) (hq : RefQ w b v L) (htot : total L ≤ 1073741824) :
    Calls Try.prog 24 #[.pointer (some ⟨b, 0, none⟩)] w fun e w' => e = .returned (.int .i64 (total L : Nat)) ∧ w' = w := by
  obtain ⟨⟨a, cap, hv, c0⟩, hL⟩ := hq.cells
  have HQ : Hid (RefQ w b v L) := hq
  have HV : Hid (v = .slice a L.length cap) := hv
  have hLi : (L.length : Int) ≤ 4096 := by omega
  clear hq hv
  go_enter Try.func24, Try.ntmps24
  go_wp2_with fail
  go_loop [3, 4] (fun vn vi => ∃ k : Nat, k ≤ L.length ∧ vi = .int .i64 k ∧ vn = .int .i64 (total (L.take k) : Nat)) (fun _ i => L.length - (intOf i).toNat)
  case atStart => exact ⟨0, Nat.zero_le _, rfl, by simp [total]⟩
  case round =>
    obtain ⟨k, hk, rfl, rfl⟩ := hrel
    by_cases hlt : k < L.length
    · have hlti : (k : Int) < (L.length : Int) := by omega
      obtain ⟨c, hc⟩ : ∃ c, L[k]? = some c := ⟨L[k], by simp [hlt]⟩
      obtain ⟨xs, hbk, hown, hvb, hxl, -, hch⟩ := HQ.out
      obtain ⟨u, hu, h0, g', o, cap', rfl, -⟩ := hch k c hc
      obtain ⟨g, off, cap2, hveq, hcell, hfz⟩ := hown.cells k _ hu
      obtain rfl := HV.out
      rw [hxl] at hveq
      cases hveq
      have hcl := chunk_le L k c hc
      have h9 := (flat_succ L k c hc).2
      obtain ⟨T, hT⟩ : ∃ T, T = total (L.take k) := ⟨_, rfl⟩
      rw [← hT] at hcl h9 ⊢
      have HT : Hid (total (L.take (k + 1)) = T + c.length) := h9
      have hTi : (T : Int) + (c.length : Int) ≤ 1073741824 := by omega
      clear hbk hown hvb hxl hch hu hc hT h9
      go_wp2
      go_round
      case rel => exact ⟨k + 1, by omega, by go_num, by rw [HT.out]; go_num⟩
      case measure => simp [intOf]; omega
    · obtain rfl : k = L.length := by omega
      have hlti : ¬ ((L.length : Int) < (L.length : Int)) := by omega
      rw [List.take_length]
      go_wp2
      go_ret
      exact ⟨rfl, rfl⟩

/-- The document's queue in block b under way: its list is v', its chunks L'; what they hold is as it lay in w. -/
def RQ (w wr : World) (b : Nat) (own : Option Nat) (v' : Value) (L' : List (List UInt8)) : Prop :=
  ∃ xs, wr.heap[b]? = some (.cells #[v'] 48 (0, 0)) ∧ OwnAt wr 31 v' xs ∧ v'.ownBlock = own ∧ xs.length = L'.length ∧ L'.length ≤ 4096 ∧ ∀ (j : Nat) c, L'[j]? = some c → ∃ u, xs[j]? = some u ∧ RChunk w b own u c

theorem RQ.toRef {w wr : World} {b : Nat} {own : Option Nat} {v' : Value} {L' : List (List UInt8)} (h : RQ w wr b own v' L') (hb : own ≠ some b) (hf : Fr (fun k => k = b ∨ own = some k) w wr) : RefQ wr b v' L' := by
  obtain ⟨xs, h1, h2, h3, h4, h5, h6⟩ := h
  refine ⟨xs, h1, h2, by rw [h3]; exact hb, h4, h5, fun j c hj => ?_⟩
  obtain ⟨u, hu, hc⟩ := h6 j c hj
  exact ⟨u, hu, by rw [h3]; exact hc.fr hf⟩

theorem RefQ.toRQ {w : World} {b : Nat} {v : Value} {L : List (List UInt8)} (h : RefQ w b v L) : RQ w w b v.ownBlock v L := by
  obtain ⟨xs, h1, h2, h3, h4, h5, h6⟩ := h
  exact ⟨xs, h1, h2, rfl, h4, h5, h6⟩

theorem RQ.fr {w wr w' : World} {S : Nat → Prop} {b : Nat} {own : Option Nat} {v' : Value} {L' : List (List UInt8)} (h : RQ w wr b own v' L') (hf : Fr S wr w') (hb : ¬ S b) (ho : ∀ k, own = some k → ¬ S k) : RQ w w' b own v' L' := by
  obtain ⟨xs, h1, h2, h3, h4, h5, h6⟩ := h
  exact ⟨xs, by rw [hf.block b (lt_of_heap h1) hb]; exact h1, h2.fr hf (fun k hk => ho k (by rw [← h3]; exact hk)), h3, h4, h5, h6⟩

/-- The first chunk of a queue that has one. -/
theorem RQ.first {w wr : World} {b : Nat} {own : Option Nat} {v' : Value} {c : List UInt8} {r : List (List UInt8)} (h : RQ w wr b own v' (c :: r)) (hb : own ≠ some b) (hf : Fr (fun k => k = b ∨ own = some k) w wr) :
    ∃ g off cap g' o cap', v' = .slice (some ⟨g, off, none⟩) (r.length + 1) cap ∧ r.length + 1 ≤ cap ∧ own = some g ∧ g ≠ b ∧ 0 < c.length ∧ c.length ≤ cap' ∧ SrcAt wr (some ⟨g', o, none⟩) c ∧ g' < w.heap.size ∧ g' ≠ b ∧ g' ≠ g ∧ SrcAt w (some ⟨g', o, none⟩) c ∧
      wr.cell? ⟨b, 0, none⟩ = some (.slice (some ⟨g, off, none⟩) (r.length + 1) cap) ∧ wr.frozen? ⟨b, 0, none⟩ = false ∧ wr.cell? ⟨g, off, none⟩ = some (.slice (some ⟨g', o, none⟩) c.length cap') ∧ wr.frozen? ⟨g, off, none⟩ = false := by
  obtain ⟨xs, h1, h2, h3, h4, h5, h6⟩ := h
  obtain ⟨u, hu, hc⟩ := h6 0 c rfl
  obtain ⟨g, off, cap, hv, hcell, hfz⟩ := h2.cells 0 _ hu
  obtain ⟨a2, cap2, hv2, hcap2⟩ := h2.form
  rw [h4] at hv
  have hc' := hc
  obtain ⟨h0, g', o, cap', rfl, e2, e3, e6, e4, e5⟩ := hc
  subst hv
  rw [h4] at hv2
  cases hv2
  have hog : own = some g := h3.symm
  subst hog
  refine ⟨g, off, cap, g', o, cap', rfl, by rw [h4] at hcap2; exact hcap2, rfl, fun e => hb (by rw [e]), h0, e2, ?_, lt_of_heap e6.choose_spec, e4, fun e => e5 (by rw [e]), e3, cell1 h1, frozen_of_heap h1, by simpa using hcell, by simpa using hfz⟩
  exact e3.fr hf (fun a e _ => by cases e; rintro (e | e); exact e4 e; exact e5 e)

end Go.Proofs.Ytaflgioelblcgaa
