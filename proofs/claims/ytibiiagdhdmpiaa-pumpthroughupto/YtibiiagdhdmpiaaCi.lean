/- Contracts of the reference's Ring. -/
import Derived.Test.YtibiiagdhdmpiaaCh
import Derived.Test.YtibiiagdhdmpiaaA3
namespace Go.Proofs.Ytibiiagdhdmpiaa
open Go.RowKit
set_option linter.unusedVariables false

/-- The reference's ring in block c, its slice being v, holds L. -/
def RefIs (w : World) (c : Nat) (v : Value) (L : List UInt8) (lim : Nat) : Prop :=
  w.heap[c]? = some (.cells #[v, .int .i64 lim] 37 (0, 0)) ∧ OwnAt w 5 v (bv L) ∧ v.ownBlock ≠ some c ∧ L.length ≤ lim ∧ lim ≤ 1048576

theorem cell2 {w : World} {b : Nat} {v0 v1 : Value} {t : TypeId} (h : w.heap[b]? = some (.cells #[v0, v1] t (0, 0))) : w.cell? ⟨b, 0, none⟩ = some v0 ∧ w.cell? ⟨b, 1, none⟩ = some v1 :=
  ⟨cell_of_heap h rfl, cell_of_heap h rfl⟩

theorem RefIs.fr {S : Nat → Prop} {w w' : World} {c : Nat} {v : Value} {L : List UInt8} {lim : Nat} (h : RefIs w c v L lim) (hf : Fr S w w') (hc : ¬ S c) (hv : ∀ g, v.ownBlock = some g → ¬ S g) : RefIs w' c v L lim :=
  ⟨by rw [hf.block c (lt_of_heap h.1) hc]; exact h.1, h.2.1.fr hf hv, h.2.2.1, h.2.2.2⟩

theorem rroom (c : Nat) (v : Value) (L : List UInt8) (lim rm : Nat) (w : World) (h : RefIs w c v L lim) (hrm : rm = lim - L.length) :
    Calls Try.prog 12 #[.pointer (some ⟨c, 0, none⟩)] w fun e w' => e = .returned (.int .i64 rm) ∧ ∃ n, w' = w.drewN n := by
  obtain ⟨hb, hown, -, hL, hlim⟩ := h
  obtain ⟨a, cap, rfl, hcap⟩ := hown.form
  rw [bv_length] at hb hcap
  obtain ⟨c0, c1⟩ := cell2 hb
  have h1 : (L.length : Int) ≤ (lim : Int) := by omega
  have h2 : (lim : Int) ≤ 1048576 := by omega
  have HR : Hid (rm = lim - L.length) := hrm
  clear hb hown hrm
  go_enter Try.func12, Try.ntmps12
  go_wp2
  go_quiet (fail)
  go_wp2
  go_ret
  exact ⟨ret_int (by have := HR.out; omega), _, rfl⟩

theorem rnew_ok (n : Nat) (w : World) (hn : n ≤ 1048576) :
    Calls Try.prog 24 #[.int .i64 n] w fun e w' => e = .returned (.tuple #[.pointer (some ⟨w.heap.size, 0, none⟩), .int .i64 0]) ∧ RefIs w' w.heap.size (.slice none 0 0) [] n ∧ Fr (fun _ => False) w w' := by
  have h1 : ¬ ((n : Int) < 0) := by omega
  have h2 : ¬ ((1048576 : Int) < (n : Int)) := by omega
  have h3 : (n : Int) ≤ 1048576 := by omega
  go_enter Try.func24, Try.ntmps24
  go_wp2
  go_ret2
  exact ⟨rfl, ⟨heap_alloc_new w _, OwnAt.nil _ _, by simp [Value.ownBlock], Nat.zero_le _, hn⟩, (Fr.refl _ _).alloc _⟩

theorem rput (c : Nat) (v : Value) (L : List UInt8) (lim : Nat) (sp : Option Addr) (slen scap : Nat) (bs : List UInt8) (w : World) (h : RefIs w c v L lim) (hs : SrcAt w sp bs) (hlen : bs.length = slen) (hcap : slen ≤ scap) (n : Nat) (hn : n = min slen (lim - L.length)) :
    Calls Try.prog 41 #[.pointer (some ⟨c, 0, none⟩), .slice sp slen scap] w fun e w' => e = .returned (.int .i64 n) ∧ ∃ v', RefIs w' c v' (L ++ bs.take n) lim ∧ Fr (fun k => k = c ∨ v.ownBlock = some k) w w' ∧ (v'.ownBlock = v.ownBlock ∨ ∃ k, v'.ownBlock = some k ∧ w.heap.size ≤ k) := by
  obtain ⟨rm, hrm⟩ : ∃ rm, rm = lim - L.length := ⟨_, rfl⟩
  have HROOM : Hid (Calls Try.prog 12 #[.pointer (some ⟨c, 0, none⟩)] w fun e w' => e = .returned (.int .i64 rm) ∧ ∃ n, w' = w.drewN n) := rroom c v L lim rm w h hrm
  have hq : (if rm < slen then (rm : Int) else (slen : Int)) = (n : Int) := by rw [← hrm] at hn; split <;> omega
  have HR : Hid (RefIs w c v L lim) := h
  obtain ⟨hb, hown, hvc, hL, hlim⟩ := h
  have hcs := lt_of_heap hb
  obtain ⟨a, cap, hv, hcap'⟩ := hown.form
  rw [bv_length] at hv hcap'
  subst hv
  have HB : Hid (w.heap[c]? = some (.cells #[.slice a L.length cap, .int .i64 lim] 37 (0, 0))) := hb
  have HN : Hid (n ≤ slen ∧ L.length + n ≤ lim) := ⟨by omega, by omega⟩
  have HBY : Hid (L.length + n ≤ 225179981368371) := by show _ ≤ _; omega
  have hcut := cut_to Try.prog 31 5 Try.underlying31 (by kernel_rfl) sp slen scap n .i64 (by omega)
  obtain ⟨X, hX⟩ : ∃ X, X = bs.take n := ⟨_, rfl⟩
  have hXs : SrcAt w sp X := by rw [hX]; exact hs.take n
  have HXl : Hid (X.length = n) := by show _ = _; rw [hX, List.length_take]; omega
  have HVC : Hid ((Value.slice a L.length cap).ownBlock ≠ some c) := hvc
  have HCC : Hid (∀ w4, Fr (fun k => (Value.slice a L.length cap).ownBlock = some k) w w4 → w4.cell? ⟨c, 0, none⟩ = some (.slice a L.length cap) ∧ w4.frozen? ⟨c, 0, none⟩ = false ∧ w4.heap[c]? = some (.cells #[.slice a L.length cap, .int .i64 lim] 37 (0, 0))) := by
    intro w4 hf4
    have hb4 := (hf4.block c hcs hvc).trans hb
    exact ⟨(cell2 hb4).1, frozen_of_heap hb4, hb4⟩
  rw [← hX]
  obtain ⟨c0, c1⟩ := cell2 hb
  obtain ⟨i, hi1, hi2', hi3, hi4⟩ := info5
  have J1 : Hid (Try.prog.info? 5 = some i) := hi1
  have J2 : Hid (i.zero = some (.int .u8 0)) := hi2'
  have J3 : Hid (i.size = 1) := hi3
  have J4 : Hid (i.bytes = 1) := hi4
  have hown' : ∀ nq, OwnAt (w.drewN nq).drew 5 (.slice a L.length cap) (bv L) := fun nq => hown
  have HOWN : Hid (∀ nq, OwnAt (w.drewN nq).drew 5 (.slice a L.length cap) (bv L)) := hown'
  have HXS : Hid (∀ nq, SrcAt (w.drewN nq).drew sp X) := fun nq => hXs.heap rfl
  have hh3 : (n : Int) ≤ 1048576 := by omega
  clear hrm hn hb hX hs hlen hvc hi1 hi2' hi3 hi4 hown hown' hXs
  go_enter Try.func41, Try.ntmps41
  go_wp2_with fail
  refine HROOM.out.mono ?_
  rintro e w1 ⟨rfl, nq, rfl⟩
  go_wp2
  go_region_law (refine step_append_bytes rfl (.tmp 15) (.tmp 18) 31 31 rfl 5 i Try.underlying31 Try.underlying31 J1.out J2.out J3.out J4.out (.slice a L.length cap) L (by go_simp) (HOWN.out nq) sp n scap (by go_simp) X (HXS.out nq) HXl.out HBY.out ?_; intro a4 n4 c4 w4 Hn4 hown4 hf4 hk4; obtain ⟨r1, r2, r3⟩ := HCC.out w4 (Fr.trans (b := (w.drewN nq).drew) ((Fr.refl _ _).drewN _).drew hf4.out))
  have HF4 : Hid (Fr (fun k => (Value.slice a L.length cap).ownBlock = some k) w w4) := Fr.trans (b := (w.drewN nq).drew) ((Fr.refl _ _).drewN _).drew hf4.out
  have HR3 : Hid (w4.heap[c]? = some (.cells #[.slice a L.length cap, .int .i64 lim] 37 (0, 0))) := r3
  have HK4 : Hid ((Value.slice a4 n4 c4).ownBlock = (Value.slice a L.length cap).ownBlock ∨ ∃ k, (Value.slice a4 n4 c4).ownBlock = some k ∧ w.heap.size ≤ k) := hk4
  clear r3 hf4 hk4
  go_wp2
  go_ret
  refine ⟨rfl, .slice a4 n4 c4, ⟨?_, ?_, ?_, ?_, hlim⟩, ?_, HK4.out⟩
  · exact setCell_heap _ HR3.out
  · refine hown4.fr (S := fun k => k = c) (Fr.setB (Fr.refl _ _) _ _) (fun k hk e => ?_)
    subst e
    rcases HK4.out with h | ⟨k', h, hk'⟩
    · exact HVC.out (by rw [← h]; exact hk)
    · rw [h] at hk; cases hk; omega
  · intro hk
    rcases HK4.out with h | ⟨k', h, hk'⟩
    · exact HVC.out (by rw [← h]; exact hk)
    · rw [h] at hk; cases hk; omega
  · rw [List.length_append, HXl.out]; exact HN.out.2
  · exact (HF4.out.mono (fun k _ e => .inr e)).setS (c := c) (.inl rfl) _ _

theorem rpeek (c : Nat) (v : Value) (L : List UInt8) (lim : Nat) (n : Int) (m : Nat) (w : World) (h : RefIs w c v L lim) (hm : (m : Int) = max 0 (min n L.length)) :
    Calls Try.prog 42 #[.pointer (some ⟨c, 0, none⟩), .int .i64 n] w fun e w' => ∃ a' n' c', e = .returned (.slice a' n' c') ∧ n' = m ∧ OwnAt w' 5 (.slice a' n' c') (bv (L.take m)) ∧ (∃ k, (Value.slice a' n' c').ownBlock = some k ∧ w.heap.size ≤ k) ∧ Fr (fun _ => False) w w' := by
  obtain ⟨hb, hown, hvc, hL, hlim⟩ := h
  obtain ⟨a, cap, hv, hcap'⟩ := hown.form
  rw [bv_length] at hv hcap'
  subst hv
  obtain ⟨c0, c1⟩ := cell2 hb
  have hcs := lt_of_heap hb
  have hml : m ≤ L.length := by omega
  have hcut := cut_to Try.prog 31 5 Try.underlying31 (by kernel_rfl) a L.length cap m .i64 (by omega)
  have hXs : SrcAt (w.alloc (.cells #[] 5)) a (L.take m) := (((own_src hown).take m).fr (S := fun _ => False) ((Fr.refl _ _).alloc _) (fun _ _ _ => id))
  obtain ⟨X, hX⟩ : ∃ X, X = L.take m := ⟨_, rfl⟩
  rw [← hX] at hXs ⊢
  have HXl : Hid (X.length = m) := by show _ = _; rw [hX, List.length_take]; omega
  have hE := own_empty w 5
  have HM : Hid ((m : Int) = max 0 (min n L.length)) := hm
  obtain ⟨i, hi1, hi2', hi3, hi4⟩ := info5
  have J1 : Hid (Try.prog.info? 5 = some i) := hi1
  have J2 : Hid (i.zero = some (.int .u8 0)) := hi2'
  have J3 : Hid (i.size = 1) := hi3
  have J4 : Hid (i.bytes = 1) := hi4
  have HBY : Hid (([] : List UInt8).length + m ≤ 225179981368371) := by show _ ≤ _; simp; omega
  clear hX hi1 hi2' hi3 hi4 hb hown hvc hm
  obtain ⟨z, hz⟩ : ∃ z : Int, z = if (L.length : Int) < n then (L.length : Int) else n := ⟨_, rfl⟩
  have hq2 : (if 0 < z then z else 0) = (m : Int) := by have := HM.out; rw [hz]; split <;> split at * <;> omega
  have hq1 : (if (L.length : Int) < n then (L.length : Int) else n) = z := hz.symm
  clear hz HM
  go_enter Try.func42, Try.ntmps42
  go_wp2_with (at_builtin; refine wpList_append_bytes rfl (.tmp 13) (.tmp 19) 31 31 rfl 5 i Try.underlying31 Try.underlying31 J1.out J2.out J3.out J4.out (.slice (some ⟨w.heap.size, 0, none⟩) 0 0) [] (by go_simp) hE a m cap (by go_simp) X hXs HXl.out HBY.out ?_; intro a4 n4 c4 w4 Hn4 hown4 hf4 hk4)
  go_ret
  refine ⟨a4, n4, c4, rfl, ?_, hown4, ?_, ?_⟩
  · have := Hn4.out; simpa using this
  · rcases hk4.out with h | ⟨k, h, hk⟩
    · exact ⟨w.heap.size, h, Nat.le_refl _⟩
    · exact ⟨k, h, by simp at hk; omega⟩
  · have h1 : Fr (fun k => (Value.slice (some ⟨w.heap.size, 0, none⟩) 0 0).ownBlock = some k) w w4 := Fr.trans ((Fr.refl _ _).alloc _) hf4.out
    exact h1.mono (fun k hk e => by simp [Value.ownBlock] at e; omega)

theorem rdrop (c : Nat) (v : Value) (L : List UInt8) (lim : Nat) (n : Int) (m : Nat) (w : World) (h : RefIs w c v L lim) (hm : (m : Int) = max 0 (min n L.length)) :
    Calls Try.prog 43 #[.pointer (some ⟨c, 0, none⟩), .int .i64 n] w fun e w' => e = .returned (.int .i64 m) ∧ ∃ v', RefIs w' c v' (L.drop m) lim ∧ (∃ k, v'.ownBlock = some k ∧ w.heap.size ≤ k) ∧ Fr (fun k => k = c) w w' := by
  obtain ⟨hb, hown, hvc, hL, hlim⟩ := h
  have hsrc := hown
  obtain ⟨a, cap, hv, hcap'⟩ := hown.form
  rw [bv_length] at hv hcap'
  subst hv
  obtain ⟨c0, c1⟩ := cell2 hb
  have hcs := lt_of_heap hb
  have hml : m ≤ L.length := by omega
  obtain ⟨dp, hcut, hdp⟩ : ∃ dp : Option Addr, (∀ w, (Instr.slice 31 (.slice a L.length cap) (some (.int .i64 (m : Int))) none none).run Try.prog w = .ok (.slice dp (L.length - m) (cap - m)) w) ∧ SrcAt (w.alloc (.cells #[] 5)) dp (L.drop m) := by
    cases a with
    | none =>
      rcases hown with ⟨e, e'⟩ | ⟨g, off, cap', cur, e, _⟩
      · simp only [Value.slice.injEq, true_and] at e
        obtain ⟨e1, e2⟩ := e
        obtain rfl : L = [] := List.eq_nil_of_length_eq_zero e1
        subst e2
        obtain rfl : m = 0 := by simpa using hml
        exact ⟨none, cut_nil Try.prog 31 5 Try.underlying31 (by kernel_rfl) .i64, SrcAt.nil _ _⟩
      · cases e
    | some ad =>
      obtain ⟨dp, h1, h2⟩ := cut_from Try.prog 31 5 Try.underlying31 (by kernel_rfl) ad L.length cap m .i64 hml
      refine ⟨dp, h1, ?_⟩
      intro j x hj
      rw [List.getElem?_drop] at hj
      have hjl : m + j < L.length := (List.getElem?_eq_some_iff.1 hj).1
      obtain ⟨ad', e, hc⟩ := (own_src hsrc) (m + j) x hj
      cases e
      refine ⟨_, h2 (by omega), ?_⟩
      rw [add_add, (((Fr.refl (fun _ => False) w).alloc _).cell (World.block_lt_of_cell? _ _ hc) id)]
      exact hc
  obtain ⟨X, hX⟩ : ∃ X, X = L.drop m := ⟨_, rfl⟩
  rw [← hX] at hdp ⊢
  have HXl : Hid (X.length = L.length - m) := by show _ = _; rw [hX, List.length_drop]
  have hE := own_empty w 5
  have HM : Hid ((m : Int) = max 0 (min n L.length)) := hm
  obtain ⟨i, hi1, hi2', hi3, hi4⟩ := info5
  have J1 : Hid (Try.prog.info? 5 = some i) := hi1
  have J2 : Hid (i.zero = some (.int .u8 0)) := hi2'
  have J3 : Hid (i.size = 1) := hi3
  have J4 : Hid (i.bytes = 1) := hi4
  have HBY : Hid (([] : List UInt8).length + (L.length - m) ≤ 225179981368371) := by show _ ≤ _; simp; omega
  have HCC : Hid (∀ w4, Fr (fun k => (Value.slice (some ⟨w.heap.size, 0, none⟩) 0 0).ownBlock = some k) (w.alloc (.cells #[] 5)) w4 → w4.cell? ⟨c, 0, none⟩ = some (.slice a L.length cap) ∧ w4.frozen? ⟨c, 0, none⟩ = false ∧ w4.heap[c]? = some (.cells #[.slice a L.length cap, .int .i64 lim] 37 (0, 0))) := by
    intro w4 hf4
    have hb4 := ((hf4.block c (by simp; omega) (by simp [Value.ownBlock]; omega)).trans (Below.heap_alloc w _ c hcs)).trans hb
    exact ⟨(cell2 hb4).1, frozen_of_heap hb4, hb4⟩
  clear hX hi1 hi2' hi3 hi4 hb hown hvc hm hsrc
  obtain ⟨z, hz⟩ : ∃ z : Int, z = if (L.length : Int) < n then (L.length : Int) else n := ⟨_, rfl⟩
  have hq2 : (if 0 < z then z else 0) = (m : Int) := by have := HM.out; rw [hz]; split <;> split at * <;> omega
  have hq1 : (if (L.length : Int) < n then (L.length : Int) else n) = z := hz.symm
  clear hz HM
  go_enter Try.func43, Try.ntmps43
  go_wp2_with (at_builtin; refine wpList_append_bytes rfl (.tmp 14) (.tmp 20) 31 31 rfl 5 i Try.underlying31 Try.underlying31 J1.out J2.out J3.out J4.out (.slice (some ⟨w.heap.size, 0, none⟩) 0 0) [] (by go_simp) hE dp (L.length - m) (cap - m) (by go_simp) X hdp HXl.out HBY.out ?_; intro a4 n4 c4 w4 Hn4 hown4 hf4 hk4; obtain ⟨r1, r2, r3⟩ := HCC.out w4 hf4.out; have HR3 : Hid (w4.heap[c]? = some (.cells #[.slice a L.length cap, .int .i64 lim] 37 (0, 0))) := r3; clear r3)
  go_ret
  have hk : ∃ k, (Value.slice a4 n4 c4).ownBlock = some k ∧ w.heap.size ≤ k := by
    rcases hk4.out with h | ⟨k, h, hk⟩
    · exact ⟨w.heap.size, h, Nat.le_refl _⟩
    · exact ⟨k, h, by simp at hk; omega⟩
  obtain ⟨k, hk1, hk2⟩ := hk
  refine ⟨rfl, .slice a4 n4 c4, ⟨setCell_heap _ HR3.out, ?_, ?_, ?_, hlim⟩, ⟨k, hk1, hk2⟩, ?_⟩
  · exact hown4.fr (S := fun k => k = c) (Fr.setB (Fr.refl _ _) _ _) (fun k' hk' e => by rw [hk1] at hk'; cases hk'; omega)
  · rw [hk1]; intro e; cases e; omega
  · rw [HXl.out]; omega
  · have h1 : Fr (fun k => (Value.slice (some ⟨w.heap.size, 0, none⟩) 0 0).ownBlock = some k) w w4 := Fr.trans ((Fr.refl _ _).alloc _) hf4.out
    exact Fr.setB (h1.mono (fun k hk e => by simp [Value.ownBlock] at e; omega)) _ _

end Go.Proofs.Ytibiiagdhdmpiaa
