/- Contracts of the law's own function play: Take. -/
import Derived.Test.YtaflgioelblcgaaP1
namespace Go.Proofs.Ytaflgioelblcgaa
open Go.RowKit
set_option linter.unusedVariables false

set_option maxRecDepth 100000 in
set_option maxHeartbeats 1000000 in
theorem play_take (B b c : Nat) (sv v : Value) (L : List UInt8) (lim : Nat) (what nn : Int) (sp : Option Addr) (slen scap : Nat) (w : World) (h : Both w B b c sv v L lim) (hB : B ≤ w.heap.size) (hw : what = 1) :
    Calls Try.prog 10 #[.pointer (some ⟨b, 0, none⟩), .pointer (some ⟨c, 0, none⟩), .agg #[.int .i64 what, .int .i64 nn, .slice sp slen scap]] w fun e w' => e = .returned (.bool true) ∧ ∃ sv' v' L', Both w' B b c sv' v' L' lim ∧ Fr (fun k => B ≤ k) w w' := by
  subst hw
  have what0 : True := trivial
  obtain ⟨m, hm⟩ : ∃ m : Nat, (m : Int) = max 0 (min nn L.length) := ⟨(max 0 (min nn L.length)).toNat, by omega⟩
  obtain ⟨w0, hw0⟩ : ∃ w0, w0 = w.alloc (.cells #[.int .i64 1, .int .i64 nn, .slice sp slen scap] 33) := ⟨_, rfl⟩
  have hf0 : Fr (fun _ => False) w w0 := by rw [hw0]; exact (Fr.refl _ _).alloc _
  have hbx : w0.heap[w.heap.size]? = some (.cells #[.int .i64 1, .int .i64 nn, .slice sp slen scap] 33 (0, 0)) := by rw [hw0]; exact heap_alloc_new w _
  have B0 := h.fr hf0 id id (fun _ _ => id) (fun _ _ => id)
  have hlb := h.ring.lt
  have hlc := lt_of_heap h.ref.1
  obtain ⟨str, hstr⟩ : ∃ str : ByteArray, str = ⟨(L.take m).toArray⟩ := ⟨_, rfl⟩
  have hml : (L.take m).length = m := by rw [List.length_take]; omega
  have HD : Hid (Calls Try.prog 17 #[.pointer (some ⟨b, 0, none⟩), .int .i64 nn] w0.drew fun e w' => ∃ d, e = .returned (.slice (some ⟨d, 0, none⟩) m m) ∧ RingIs w' b sv (L.drop m) lim ∧ Fr (fun k => k = b) w0 w' ∧ (convert 31 9 (.slice (some ⟨d, 0, none⟩) m m)).run Try.prog w' = .ok (.string str) w' ∧ (∀ w2, Fr (fun k => k = c) w' w2 → (convert 31 9 (.slice (some ⟨d, 0, none⟩) m m)).run Try.prog w2 = .ok (.string str) w2)) := by
    refine (take_any b sv L lim nn m w0.drew (B0.ring.fr (S := fun _ => False) (Fr.refl _ _).drew id (fun _ _ => id)) hm).mono ?_
    rintro e w' ⟨d, rfl, hd, hd4, hr, hf⟩
    have hd' : w0.heap.size ≤ d := hd
    have hcw : c < w0.heap.size := lt_of_heap B0.ref.1
    refine ⟨d, rfl, hr, Fr.trans (b := w0.drew) (Fr.refl _ _).drew hf, ?_, fun w2 hf2 => ?_⟩
    · rw [string_of 31 9 5 Try.underlying31 Try.underlying9 Try.underlying5 (SrcAt.row hd4 0) m m (by simpa using hml), sv8, hstr, List.drop_zero]
    · have hd5 := (hf2.block d (lt_of_heap hd4) (by omega)).trans hd4
      rw [string_of 31 9 5 Try.underlying31 Try.underlying9 Try.underlying5 (SrcAt.row hd5 0) m m (by simpa using hml), sv8, hstr, List.drop_zero]
  have HRD : Hid (∀ w1, Fr (fun k => k = b) w0 w1 → Calls Try.prog 29 #[.pointer (some ⟨c, 0, none⟩), .int .i64 nn] w1 fun e w' => ∃ a' n' c', e = .returned (.slice a' n' c') ∧ (convert 31 9 (.slice a' n' c')).run Try.prog w' = .ok (.string str) w' ∧ ∃ v', RefIs w' c v' (L.drop m) lim ∧ (∃ k, v'.ownBlock = some k ∧ w1.heap.size ≤ k) ∧ Fr (fun k => k = c) w1 w') := by
    intro w1 hf
    refine (rtake c v L lim nn m w1 (B0.ref.fr hf (fun e => h.bc e.symm) (fun g hg e => h.vb (by rw [hg, e]))) hm).mono ?_
    rintro e w' ⟨a', n', c', rfl, rfl, hO, hrest⟩
    refine ⟨a', n', c', rfl, ?_, hrest⟩
    rw [string_of 31 9 5 Try.underlying31 Try.underlying9 Try.underlying5 (own_src hO) n' c' hml, sv8, hstr]
  have HC : Hid (∀ w1, Fr (fun k => k = b) w0 w1 → w1.cell? ⟨w.heap.size, 1, none⟩ = some (.int .i64 nn) ∧ ∀ w2, Fr (fun k => k = c) w1 w2 → w2.cell? ⟨w.heap.size, 1, none⟩ = some (.int .i64 nn)) := by
    intro w1 hf
    have e1 := (hf.block _ (lt_of_heap hbx) (by omega)).trans hbx
    refine ⟨(cell3 e1).2.1, fun w2 hf2 => ?_⟩
    exact (cell3 ((hf2.block _ (lt_of_heap e1) (by omega)).trans e1)).2.1
  obtain ⟨x0, x1, x2⟩ := cell3 hbx
  have HB0 : Hid (Both w0 B b c sv v L lim) := B0
  have HF0 : Hid (Fr (fun _ => False) w w0) := hf0
  clear hm B0 hf0 hbx h hstr hml
  go_enter Try.func10, Try.ntmps10
  go_wp2_with fail
  rw [← hw0]
  clear hw0
  go_region_held_law (fun w' => w'.cell? ⟨w.heap.size, 1, none⟩ = some (.int .i64 nn)) (first | assumption | go_keep) (first | (go_at_call 17; refine HD.out.mono ?_; rintro e w1 ⟨d, rfl, hr1, hf1, u1, u2⟩; have s1 := (HC.out w1 hf1).1; have U2 : Hid (∀ w2, Fr (fun k => k = c) w1 w2 → (convert 31 9 (.slice (some ⟨d, 0, none⟩) m m)).run Try.prog w2 = .ok (.string str) w2) := u2; clear u2) | (go_at_call 29; refine (HRD.out w1 hf1).mono ?_; rintro e w2 ⟨a', n', c', rfl, u3, v', hR2, ⟨k2, hk2, hk2'⟩, hf2⟩; have s2 := (HC.out w1 hf1).2 w2 hf2; have u4 := U2.out w2 hf2))
  all_goals
    go_wp2
    go_ret
    refine ⟨rfl, sv, v', L.drop m, ?_⟩
    have hb := both_step HB0.out hr1 (hf1.mono (fun _ _ e => .inl e)) (.inl rfl) hR2 (hf2.mono (fun _ _ e => .inl e)) (.inr ⟨k2, hk2, hk2'⟩) (by have := HF0.out.size; omega)
    exact ⟨hb.1, Fr.trans (HF0.out.mono (fun _ _ e => e.elim)) hb.2⟩

end Go.Proofs.Ytaflgioelblcgaa
