/- Contracts of the law's own function play: the two rings side by side; Drop. -/
import Derived.Test.YtaflgioelblcgaaF1
import Derived.Deep.RegionHeldLaw
namespace Go.Proofs.Ytaflgioelblcgaa
open Go.RowKit
set_option linter.unusedVariables false

/-- The ring in block b and the reference's in block c hold the same bytes L; all that is theirs lies from B on, and apart. -/
structure Both (w : World) (B b c : Nat) (sv v : Value) (L : List UInt8) (lim : Nat) : Prop where
  ring : RingIs w b sv L lim
  ref : RefIs w c v L lim
  bc : b ≠ c
  sc : sv.ownBlock ≠ some c
  vb : v.ownBlock ≠ some b
  ap : Ap sv.ownBlock v.ownBlock
  hb : B ≤ b
  hc : B ≤ c
  hs : ∀ g, sv.ownBlock = some g → B ≤ g
  hv : ∀ g, v.ownBlock = some g → B ≤ g

theorem Both.fr {S : Nat → Prop} {w w' : World} {B b c : Nat} {sv v : Value} {L : List UInt8} {lim : Nat} (h : Both w B b c sv v L lim) (hf : Fr S w w') (h1 : ¬ S b) (h2 : ¬ S c) (h3 : ∀ g, sv.ownBlock = some g → ¬ S g) (h4 : ∀ g, v.ownBlock = some g → ¬ S g) : Both w' B b c sv v L lim :=
  ⟨h.ring.fr hf h1 h3, h.ref.fr hf h2 h4, h.bc, h.sc, h.vb, h.ap, h.hb, h.hc, h.hs, h.hv⟩

/-- Behind a call on the ring and one on the reference's. -/
theorem both_step {w w1 w2 : World} {B b c : Nat} {sv v sv' v' : Value} {L L' : List UInt8} {lim : Nat} (h : Both w B b c sv v L lim)
    (hr : RingIs w1 b sv' L' lim) (hf1 : Fr (fun k => k = b ∨ sv.ownBlock = some k) w w1) (hk1 : sv'.ownBlock = sv.ownBlock ∨ ∃ k, sv'.ownBlock = some k ∧ w.heap.size ≤ k)
    (hR : RefIs w2 c v' L' lim) (hf2 : Fr (fun k => k = c ∨ v.ownBlock = some k) w1 w2) (hk2 : v'.ownBlock = v.ownBlock ∨ ∃ k, v'.ownBlock = some k ∧ w1.heap.size ≤ k) (hB : B ≤ w.heap.size) :
    Both w2 B b c sv' v' L' lim ∧ Fr (fun k => B ≤ k) w w2 := by
  have lb := h.ring.lt
  have lc := lt_of_heap h.ref.1
  have lv : ∀ g, v.ownBlock = some g → g < w.heap.size := fun g hg => h.ref.2.1.lt g hg
  have s1 := hf1.size
  have n1 : sv'.ownBlock ≠ some c := by
    rcases hk1 with e | ⟨k, e, hk⟩
    · rw [e]; exact h.sc
    · rw [e]; intro e'; cases e'; omega
  have a1 : Ap sv'.ownBlock v.ownBlock := h.ap.new hk1 lv
  have ls : ∀ g, sv'.ownBlock = some g → g < w1.heap.size := fun g hg => (hr.own_lt g hg).1
  refine ⟨⟨hr.fr hf2 (fun e => ?_) (fun g hg e => ?_), hR, h.bc, n1, ?_, ((a1.symm).new hk2 ls).symm, h.hb, h.hc, ?_, ?_⟩, ?_⟩
  · rcases e with e | e
    · exact h.bc e
    · exact h.vb e
  · rcases e with e | e
    · exact n1 (by rw [hg, e])
    · exact a1 g hg e
  · rcases hk2 with e | ⟨k, e, hk⟩
    · rw [e]; exact h.vb
    · rw [e]; intro e'; cases e'; omega
  · intro g hg
    rcases hk1 with e | ⟨k, e, hk⟩
    · exact h.hs g (by rw [← e]; exact hg)
    · rw [e] at hg; cases hg; omega
  · intro g hg
    rcases hk2 with e | ⟨k, e, hk⟩
    · exact h.hv g (by rw [← e]; exact hg)
    · rw [e] at hg; cases hg; omega
  · refine Fr.trans (hf1.mono (fun k hk e => ?_)) (hf2.mono (fun k hk e => ?_))
    · rcases e with e | e
      · rw [e]; exact h.hb
      · exact h.hs k e
    · rcases e with e | e
      · rw [e]; exact h.hc
      · exact h.hv k e

set_option maxRecDepth 100000 in
set_option maxHeartbeats 1000000 in
theorem play_drop (B b c : Nat) (sv v : Value) (L : List UInt8) (lim : Nat) (what nn : Int) (sp : Option Addr) (slen scap : Nat) (w : World) (h : Both w B b c sv v L lim) (hB : B ≤ w.heap.size) (h0 : (what == 0) = false) (h1 : (what == 1) = false) (h2 : (what == 2) = false) :
    Calls Try.prog 10 #[.pointer (some ⟨b, 0, none⟩), .pointer (some ⟨c, 0, none⟩), .agg #[.int .i64 what, .int .i64 nn, .slice sp slen scap]] w fun e w' => e = .returned (.bool true) ∧ ∃ sv' v' L', Both w' B b c sv' v' L' lim ∧ Fr (fun k => B ≤ k) w w' := by
  obtain ⟨m, hm⟩ : ∃ m : Nat, (m : Int) = max 0 (min nn L.length) := ⟨(max 0 (min nn L.length)).toNat, by omega⟩
  obtain ⟨w0, hw0⟩ : ∃ w0, w0 = w.alloc (.cells #[.int .i64 what, .int .i64 nn, .slice sp slen scap] 33) := ⟨_, rfl⟩
  have hf0 : Fr (fun _ => False) w w0 := by rw [hw0]; exact (Fr.refl _ _).alloc _
  have hbx : w0.heap[w.heap.size]? = some (.cells #[.int .i64 what, .int .i64 nn, .slice sp slen scap] 33 (0, 0)) := by rw [hw0]; exact heap_alloc_new w _
  have B0 := h.fr hf0 id id (fun _ _ => id) (fun _ _ => id)
  have hlb := h.ring.lt
  have hlc := lt_of_heap h.ref.1
  have HD : Hid (Calls Try.prog 27 #[.pointer (some ⟨b, 0, none⟩), .int .i64 nn] w0.drew fun e w' => e = .returned (.int .i64 m) ∧ RingIs w' b sv (L.drop m) lim ∧ Fr (fun k => k = b) w0 w') := by
    refine (drop_any b sv L lim nn m w0.drew (B0.ring.fr (S := fun _ => False) (Fr.refl _ _).drew id (fun _ _ => id)) hm).mono ?_
    rintro e w' ⟨rfl, hr, hf⟩
    exact ⟨rfl, hr, Fr.trans (b := w0.drew) (Fr.refl _ _).drew hf⟩
  have HRD : Hid (∀ w1, Fr (fun k => k = b) w0 w1 → Calls Try.prog 31 #[.pointer (some ⟨c, 0, none⟩), .int .i64 nn] w1 fun e w' => e = .returned (.int .i64 m) ∧ ∃ v', RefIs w' c v' (L.drop m) lim ∧ (∃ k, v'.ownBlock = some k ∧ w1.heap.size ≤ k) ∧ Fr (fun k => k = c) w1 w') := by
    intro w1 hf
    exact rdrop c v L lim nn m w1 (B0.ref.fr hf (fun e => h.bc e.symm) (fun g hg e => h.vb (by rw [hg, e]))) hm
  have HC : Hid (∀ w1, Fr (fun k => k = b) w0 w1 → w1.cell? ⟨w.heap.size, 1, none⟩ = some (.int .i64 nn) ∧ ∀ w2, Fr (fun k => k = c) w1 w2 → w2.cell? ⟨w.heap.size, 1, none⟩ = some (.int .i64 nn)) := by
    intro w1 hf
    have e1 := (hf.block _ (lt_of_heap hbx) (by omega)).trans hbx
    refine ⟨(cell3 e1).2.1, fun w2 hf2 => ?_⟩
    exact (cell3 ((hf2.block _ (lt_of_heap e1) (by omega)).trans e1)).2.1
  obtain ⟨x0, x1, x2⟩ := cell3 hbx
  have HB0 : Hid (Both w0 B b c sv v L lim) := B0
  have HF0 : Hid (Fr (fun _ => False) w w0) := hf0
  clear hm B0 hf0 hbx h
  go_enter Try.func10, Try.ntmps10
  go_wp2_with fail
  rw [← hw0]
  clear hw0
  go_region_held_law (fun w' => w'.cell? ⟨w.heap.size, 1, none⟩ = some (.int .i64 nn)) (first | assumption | go_keep) (first | (go_at_call 27; refine HD.out.mono ?_; rintro e w1 ⟨rfl, hr1, hf1⟩; have s1 := (HC.out w1 hf1).1) | (go_at_call 31; refine (HRD.out w1 hf1).mono ?_; rintro e w2 ⟨rfl, v', hR2, ⟨k2, hk2, hk2'⟩, hf2⟩; have s2 := (HC.out w1 hf1).2 w2 hf2))
  go_wp2
  go_ret
  refine ⟨rfl, sv, v', L.drop m, ?_⟩
  have hb := both_step HB0.out hr1 (hf1.mono (fun _ _ e => .inl e)) (.inl rfl) hR2 (hf2.mono (fun _ _ e => .inl e)) (.inr ⟨k2, hk2, hk2'⟩) (by have := HF0.out.size; omega)
  exact ⟨hb.1, Fr.trans (HF0.out.mono (fun _ _ e => e.elim)) hb.2⟩

end Go.Proofs.Ytaflgioelblcgaa
