/- Contracts of the law's own function play: Peek. -/
import Derived.Test.YtaflgioelblcgaaP1
namespace Go.Proofs.Ytaflgioelblcgaa
open Go.RowKit
set_option linter.unusedVariables false

set_option maxRecDepth 100000 in
set_option maxHeartbeats 1000000 in
theorem play_peek (B b c : Nat) (sv v : Value) (L : List UInt8) (lim : Nat) (what nn : Int) (sp : Option Addr) (slen scap : Nat) (w : World) (h : Both w B b c sv v L lim) (hB : B ≤ w.heap.size) (hw : what = 2) :
    Calls Try.prog 10 #[.pointer (some ⟨b, 0, none⟩), .pointer (some ⟨c, 0, none⟩), .agg #[.int .i64 what, .int .i64 nn, .slice sp slen scap]] w fun e w' => e = .returned (.bool true) ∧ ∃ sv' v' L', Both w' B b c sv' v' L' lim ∧ Fr (fun k => B ≤ k) w w' := by
  subst hw
  have what0 : True := trivial
  obtain ⟨m, hm⟩ : ∃ m : Nat, (m : Int) = max 0 (min nn L.length) := ⟨(max 0 (min nn L.length)).toNat, by omega⟩
  obtain ⟨w0, hw0⟩ : ∃ w0, w0 = w.alloc (.cells #[.int .i64 2, .int .i64 nn, .slice sp slen scap] 33) := ⟨_, rfl⟩
  have hf0 : Fr (fun _ => False) w w0 := by rw [hw0]; exact (Fr.refl _ _).alloc _
  have hbx : w0.heap[w.heap.size]? = some (.cells #[.int .i64 2, .int .i64 nn, .slice sp slen scap] 33 (0, 0)) := by rw [hw0]; exact heap_alloc_new w _
  have B0 := h.fr hf0 id id (fun _ _ => id) (fun _ _ => id)
  have hlb := h.ring.lt
  have hlc := lt_of_heap h.ref.1
  obtain ⟨str, hstr⟩ : ∃ str : ByteArray, str = ⟨(L.take m).toArray⟩ := ⟨_, rfl⟩
  have hml : (L.take m).length = m := by rw [List.length_take]; omega
  have HD : Hid (Calls Try.prog 26 #[.pointer (some ⟨b, 0, none⟩), .int .i64 nn] w0 fun e w' => ∃ d, e = .returned (.slice (some ⟨d, 0, none⟩) m m) ∧ w0.heap.size ≤ d ∧ w'.heap[d]? = some (.cells (bv (L.take m)).toArray 5 (0, 0)) ∧ Fr (fun _ => False) w0 w' ∧ ∀ w2, Fr (fun _ => False) w' w2 → (convert 31 9 (.slice (some ⟨d, 0, none⟩) m m)).run Try.prog w2 = .ok (.string str) w2) := by
    refine (peek_any b sv L lim nn m w0 B0.ring hm).mono ?_
    rintro e w' ⟨d, rfl, hd, hd4, hf⟩
    refine ⟨d, rfl, hd, hd4, hf, fun w2 hf2 => ?_⟩
    have hd5 := (hf2.block d (lt_of_heap hd4) id).trans hd4
    rw [string_of 31 9 5 Try.underlying31 Try.underlying9 Try.underlying5 (SrcAt.row hd5 0) m m (by simpa using hml), sv8, hstr, List.drop_zero]
  have HRD : Hid (∀ w1, Fr (fun _ => False) w0 w1 → Calls Try.prog 30 #[.pointer (some ⟨c, 0, none⟩), .int .i64 nn] w1 fun e w' => ∃ a' n' c', e = .returned (.slice a' n' c') ∧ (convert 31 9 (.slice a' n' c')).run Try.prog w' = .ok (.string str) w' ∧ Fr (fun _ => False) w1 w') := by
    intro w1 hf
    refine (rpeek c v L lim nn m w1 (B0.ref.fr hf id (fun _ _ => id)) hm).mono ?_
    rintro e w' ⟨a', n', c', rfl, rfl, hO, -, hf'⟩
    refine ⟨a', n', c', rfl, ?_, hf'⟩
    rw [string_of 31 9 5 Try.underlying31 Try.underlying9 Try.underlying5 (own_src hO) n' c' hml, sv8, hstr]
  have HC : Hid (∀ w1, Fr (fun _ => False) w0 w1 → w1.cell? ⟨w.heap.size, 1, none⟩ = some (.int .i64 nn)) := by
    intro w1 hf
    exact (cell3 ((hf.block _ (lt_of_heap hbx) id).trans hbx)).2.1
  obtain ⟨x0, x1, x2⟩ := cell3 hbx
  have HB0 : Hid (Both w0 B b c sv v L lim) := B0
  have HF0 : Hid (Fr (fun _ => False) w w0) := hf0
  have HML : Hid ((L.take m).length = m) := hml
  have hmi : (m : Int) ≤ 1048576 := by have := h.ring.le; omega
  clear hm B0 hf0 hbx h hstr hml
  go_enter Try.func10, Try.ntmps10
  go_wp2_with fail
  rw [← hw0]
  clear hw0
  refine HD.out.mono ?_
  rintro e w1 ⟨d, rfl, hd, hd1, hf1, u1⟩
  have s1 := HC.out w1 hf1
  have U1 : Hid (∀ w2, Fr (fun _ => False) w1 w2 → (convert 31 9 (.slice (some ⟨d, 0, none⟩) m m)).run Try.prog w2 = .ok (.string str) w2) := u1
  have u0 := u1 w1.drew (Fr.refl _ _).drew
  have HF1 : Hid (Fr (fun _ => False) w0 w1) := hf1
  have HD1 : Hid (w1.heap[d]? = some (.cells (bv (L.take m)).toArray 5 (0, 0))) := hd1
  clear u1 hf1 hd1
  go_wp2_with fail
  go_region_held_law (fun w' => w'.cell? ⟨w.heap.size, 1, none⟩ = some (.int .i64 nn)) (first | assumption | go_keep) (first | (go_at_call 30; refine (HRD.out w1.drew HF1.out.drew).mono ?_; rintro e w2 ⟨a', n', c', rfl, u3, hf2⟩; have hf2' : Fr (fun _ => False) w1 w2 := Fr.trans (b := w1.drew) (Fr.refl _ _).drew hf2; have s2 := HC.out w2 (Fr.trans HF1.out hf2'); have u4 := U1.out w2 hf2'))
  all_goals
    have HF2 : Hid (Fr (fun _ => False) w1 w2) := hf2'
    clear hf2 hf2' u3 u4 u0 s1 s2
    have O2 : OwnAt w2 5 (.slice (some ⟨d, 0, none⟩) m m) (bv (L.take m)) := .inr ⟨d, 0, m, (bv (L.take m)).toArray, by rw [bv_length, HML.out], (HF2.out.block d (lt_of_heap HD1.out) id).trans HD1.out, by simp [bv_length, HML.out], by rw [bv_length, HML.out]; exact Nat.le_refl _, by unfold maxLen; omega, by simp⟩
    have HL : Hid (∃ Y : List UInt8, Y.length = m ∧ OwnAt w2 5 (.slice (some ⟨d, 0, none⟩) m m) (bv Y) ∧ Fr (fun g => g = d) w2 w2) := ⟨_, HML.out, O2, Fr.refl _ _⟩
    clear O2
    go_wp2
    go_loopw [12] (fun i wr => ∃ k : Nat, k ≤ m ∧ i = .int .i64 k ∧ ∃ Y : List UInt8, Y.length = m ∧ OwnAt wr 5 (.slice (some ⟨d, 0, none⟩) m m) (bv Y) ∧ Fr (fun g => g = d) w2 wr) (fun i _ => m - (intOf i).toNat)
    case atStart => exact ⟨0, Nat.zero_le _, rfl, HL.out⟩
    case round =>
      obtain ⟨k, hk, rfl, Y, hY, hO, hF⟩ := hrel
      have HY : Hid (Y.length = m) := hY
      have HF : Hid (Fr (fun g => g = d) w2 wr) := hF
      clear hY hF HL
      by_cases hlt : k < m
      · have hlt' : (k : Int) < (m : Int) := by omega
        obtain ⟨y, hc, hz⟩ := own_cell hO k (by rw [HY.out]; exact hlt)
        rw [Nat.zero_add] at hc hz
        have HO : Hid (OwnAt wr 5 (.slice (some ⟨d, 0, none⟩) m m) (bv Y)) := hO
        clear hO
        go_wp2
        go_roundw
        case rel =>
          rw [byte_next]
          have h9 := own_set HO.out k (by rw [HY.out]; exact hlt) (y + 1)
          rw [Nat.zero_add] at h9
          exact ⟨k + 1, by omega, by go_num, Y.set k (y + 1), by rw [List.length_set]; exact HY.out, h9, Fr.setB HF.out _ _⟩
        case measure => simp [intOf]; omega
      · have hlt' : ¬ ((k : Int) < (m : Int)) := by omega
        go_wp2
        go_ret
        have h1 : Fr (fun _ => False) w w2 := Fr.trans (Fr.trans HF0.out HF1.out) HF2.out
        have h2 : Fr (fun g => g = d) w0 wr := Fr.trans ((Fr.trans HF1.out HF2.out).mono (fun _ _ e => e.elim)) HF.out
        have hlt := HB0.out.ring.lt
        have hlt2 := lt_of_heap HB0.out.ref.1
        refine ⟨rfl, ⟨sv, v, L, HB0.out.fr h2 (by omega) (by omega) (fun g hg => by have := (HB0.out.ring.own_lt g hg).1; omega) (fun g hg => by have := HB0.out.ref.2.1.lt g hg; omega)⟩, ?_⟩
        have h3 := Fr.trans (h1.mono (T := fun g => g = d) (fun _ _ e => e.elim)) HF.out
        exact h3.mono (fun k hk e => by have := HF0.out.size; omega)

end Go.Proofs.Ytaflgioelblcgaa
