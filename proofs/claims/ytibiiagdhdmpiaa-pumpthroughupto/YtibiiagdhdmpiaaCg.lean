/- Contracts of package chunk's Ring: Peek, Drop, Take, New, and those of a nil ring. -/
import Derived.Test.YtibiiagdhdmpiaaCf
namespace Go.Proofs.Ytibiiagdhdmpiaa
open Go.RowKit
set_option linter.unusedVariables false

theorem peek_any (b : Nat) (sv : Value) (L : List UInt8) (lim : Nat) (n : Int) (m : Nat) (w : World) (hr : RingIs w b sv L lim) (hm : (m : Int) = max 0 (min n L.length)) :
    Calls Try.prog 37 #[.pointer (some ⟨b, 0, none⟩), .int .i64 n] w fun e w' => ∃ d, e = .returned (.slice (some ⟨d, 0, none⟩) m m) ∧ w.heap.size ≤ d ∧
      w'.heap[d]? = some (.cells (bv (L.take m)).toArray 5 (0, 0)) ∧ Fr (fun _ => False) w w' := by
  have hle := hr.le
  have hml : m ≤ L.length := by omega
  have HR : Hid (RingIs w b sv L lim) := hr
  have hbs := hr.lt
  have hown := hr.own_lt
  obtain ⟨hlim, cur, first, hbk, -⟩ := hr
  obtain ⟨c0, c1, c2, c3⟩ := cell4 hbk
  have hat := atMost_any b n L.length w c0
  rw [← hm] at hat
  have HAT : Hid (Calls Try.prog 46 #[.pointer (some ⟨b, 0, none⟩), .int .i64 n] w fun e w' => e = .returned (.int .i64 m) ∧ w' = w) := hat
  have hmk := make_bytes m (by omega)
  have HOWN : Hid (∀ g, sv.ownBlock = some g → g < w.heap.size ∧ g ≠ b) := hown
  clear hat hm hbk hown
  go_enter Try.func37, Try.ntmps37
  go_wp2_with fail
  refine HAT.out.mono ?_
  rintro e w1 ⟨rfl, rfl⟩
  go_wp2_with fail
  refine (lay_any b sv L lim w1.heap.size m m (List.replicate m 0) _ (by exact HR.out.fr (S := fun _ => False) ((Fr.refl _ _).alloc _) id (fun _ _ => id)) (by exact heap_alloc_new w1 _) (by omega) ?_ hml (by simp) (by omega)).mono ?_
  · intro e
    have := HOWN.out _ e
    omega
  rintro e w3 ⟨rfl, hd3, hf3⟩
  have HD3 : Hid (w3.heap[w1.heap.size]? = some (Obj.cells (bv (L.take m)).toArray 5)) := by
    rw [List.drop_of_length_le (by simp), List.append_nil] at hd3; exact hd3
  clear hd3
  go_wp2
  go_ret
  refine ⟨w1.heap.size, rfl, Nat.le_refl _, HD3.out, ?_⟩
  have h1 : Fr (fun k => k = w1.heap.size) w1 w3 := Fr.trans ((Fr.refl _ _).alloc _) hf3
  exact h1.mono (fun k hk e => by omega)

theorem drop_any (b : Nat) (sv : Value) (L : List UInt8) (lim : Nat) (n : Int) (m : Nat) (w : World) (hr : RingIs w b sv L lim) (hm : (m : Int) = max 0 (min n L.length)) :
    Calls Try.prog 38 #[.pointer (some ⟨b, 0, none⟩), .int .i64 n] w fun e w' => e = .returned (.int .i64 m) ∧ RingIs w' b sv (L.drop m) lim ∧ Fr (fun k => k = b) w w' := by
  have hle := hr.le
  have hml : m ≤ L.length := by omega
  have hbs := hr.lt
  obtain ⟨hlim, cur, first, hbk, hcl, hLc, hfst, hL, hrow⟩ := hr
  obtain ⟨c0, c1, c2, c3⟩ := cell4 hbk
  have z0 : w.frozen? ⟨b, 0, none⟩ = false := frozen_of_heap hbk
  have z2 : w.frozen? ⟨b, 2, none⟩ = false := frozen_of_heap hbk
  obtain ⟨a, hsv⟩ : ∃ a, sv = .slice a cur.length cur.length := by
    rcases hrow with ⟨e, rfl⟩ | ⟨g, e, _⟩
    · exact ⟨_, e⟩
    · exact ⟨_, e⟩
  subst hsv
  obtain ⟨q, hq⟩ : ∃ q, q = placeOf first m cur.length := ⟨_, rfl⟩
  have hfin : (q < cur.length ∨ (q = 0 ∧ cur = [])) ∧ L.drop m = (rot cur q).take (L.length - m) := by
    rcases hfst with h | ⟨rfl, rfl⟩
    · exact ⟨.inl (by have := placeOf_spec first m cur.length; omega), by rw [hq]; exact ring_drop cur L first m h hL hLc hml⟩
    · have h0 : L = [] := List.eq_nil_of_length_eq_zero (by simpa using hLc)
      subst h0
      have : m = 0 := by simpa using hml
      subst this
      exact ⟨.inr ⟨by rw [hq]; rfl, rfl⟩, rfl⟩
  have hf0 : first ≤ 1048576 := by rcases hfst with h | h <;> omega
  have hat := atMost_any b n L.length w c0
  rw [← hm] at hat
  have HAT : Hid (Calls Try.prog 46 #[.pointer (some ⟨b, 0, none⟩), .int .i64 n] w fun e w' => e = .returned (.int .i64 m) ∧ w' = w) := hat
  have hpl := place_any b m first a cur.length cur.length w c2 c1 (by omega) hf0 (by omega)
  rw [← hq] at hpl
  have HPL : Hid (Calls Try.prog 45 #[.pointer (some ⟨b, 0, none⟩), .int .i64 m] w fun e w' => e = .returned (.int .i64 q) ∧ w' = w) := hpl
  have HFIN : Hid ((q < cur.length ∨ (q = 0 ∧ cur = [])) ∧ L.drop m = (rot cur q).take (L.length - m)) := hfin
  have HROW : Hid (RowIs w b (.slice a cur.length cur.length) cur) := hrow
  have HBK : Hid (w.heap[b]? = some (.cells #[.int .i64 L.length, .slice a cur.length cur.length, .int .i64 first, .int .i64 lim] 75 (0, 0))) := hbk
  have hi1 : (m : Int) ≤ (L.length : Int) := by omega
  have hi2 : (L.length : Int) ≤ 1048576 := by omega
  clear hat hm hbk hpl hfin hrow hL hfst hq
  go_enter Try.func38, Try.ntmps38
  go_wp2_with fail
  refine HAT.out.mono ?_
  rintro e w1 ⟨rfl, rfl⟩
  go_wp2_with fail
  refine HPL.out.mono ?_
  rintro e w2 ⟨rfl, rfl⟩
  go_wp2
  go_ret
  have hb6 := setCell_heap (i := 0) (.int .i64 ((L.length : Int) - (m : Int))) (setCell_heap (i := 2) (.int .i64 (q : Int)) HBK.out)
  have hlen' : (L.drop m).length = L.length - m := by simp
  refine ⟨rfl, ⟨hlim, cur, q, ?_, hcl, by omega, HFIN.out.1, by rw [hlen']; exact HFIN.out.2, ?_⟩, Fr.setB (Fr.setB (Fr.refl _ _) _ _) _ _⟩
  · rw [hlen', Int.ofNat_sub hml]; exact hb6
  · rcases HROW.out with h | ⟨g, h, hgb, hpos, hg⟩
    · exact .inl h
    · exact .inr ⟨g, h, hgb, hpos, by rw [setCell_other _ hgb, setCell_other _ hgb]; exact hg⟩

end Go.Proofs.Ytibiiagdhdmpiaa
