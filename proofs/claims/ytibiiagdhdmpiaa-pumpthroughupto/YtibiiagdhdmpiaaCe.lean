/- Contracts of package chunk's Ring: widen where it grows. -/
import Derived.Test.YtibiiagdhdmpiaaCd
namespace Go.Proofs.Ytibiiagdhdmpiaa
open Go.RowKit
set_option linter.unusedVariables false

theorem ring_widened {w3 : World} {b d N f lim : Nat} {sv : Value} {L : List UInt8} (hb3 : w3.heap[b]? = some (.cells #[.int .i64 L.length, sv, .int .i64 f, .int .i64 lim] 75 (0, 0)))
    (hd3 : w3.heap[d]? = some (.cells (bv (L.take L.length ++ (List.replicate N 0).drop L.length)).toArray 5 (0, 0))) (hbd : d ≠ b) (hLN : L.length ≤ N) (h0 : 0 < N) (hN : N ≤ lim) (hlim : lim ≤ 1048576) :
    RingIs ((w3.setCell ⟨b, 1, none⟩ (.slice (some ⟨d, 0, none⟩) N N)).setCell ⟨b, 2, none⟩ (.int .i64 0)) b (.slice (some ⟨d, 0, none⟩) N N) L lim := by
  have hlen : (L.take L.length ++ (List.replicate N (0 : UInt8)).drop L.length).length = N := by simp; omega
  refine ⟨hlim, L.take L.length ++ (List.replicate N 0).drop L.length, 0, ?_, by omega, by omega, .inl (by omega), ?_, .inr ⟨d, by rw [hlen], hbd, by omega, ?_⟩⟩
  · exact setCell_heap _ (setCell_heap _ hb3)
  · simp [rot]
  · rw [setCell_other _ hbd, setCell_other _ hbd]; exact hd3

theorem widen_grow (b n N : Nat) (sv : Value) (a : Option Addr) (len cap : Nat) (L : List UInt8) (lim : Nat) (w : World) (hr : RingIs w b sv L lim) (hsv : sv = .slice a len cap)
    (h1 : len < n) (h2 : n ≤ lim) (hlen : len ≤ 1048576) (hN : N = min lim (max n (2 * len))) :
    Calls Try.prog 44 #[.pointer (some ⟨b, 0, none⟩), .int .i64 n] w fun e w' => e = .returned (.tuple #[]) ∧
      ∃ d, w.heap.size ≤ d ∧ RingIs w' b (.slice (some ⟨d, 0, none⟩) N N) L lim ∧ Fr (fun k => k = b) w w' := by
  subst hsv
  have hr0 := hr
  obtain ⟨hlim, cur, first, hbk, hcl, hLc, hfst, hL, hrow⟩ := hr
  obtain ⟨c0, c1, c2, c3⟩ := cell4 hbk
  have hbs := lt_of_heap hbk
  have hLN : L.length ≤ N := by
    have : cur.length = len := by
      rcases hrow with ⟨e, rfl⟩ | ⟨g, e, _⟩
      · cases e; rfl
      · cases e; rfl
    omega
  have hh1 : (len : Int) < (n : Int) := by omega
  have hh1' : ¬ ((n : Int) ≤ (len : Int)) := by omega
  have hh2 : (n : Int) ≤ (lim : Int) := by omega
  have hh3 : (lim : Int) ≤ 1048576 := by omega
  have hh4 : (len : Int) ≤ 1048576 := by omega
  have hmk := make_bytes N (by omega)
  have hw2 : IntKind.i64.wrap (2 * (len : Int)) = 2 * (len : Int) := by rw [IntKind.wrap_i64]; omega
  obtain ⟨M, hM⟩ : ∃ M : Nat, M = max n (2 * len) := ⟨_, rfl⟩
  rw [← hM] at hN
  have hq1 : (if (n : Int) < 2 * (len : Int) then 2 * (len : Int) else (n : Int)) = (M : Int) := by split <;> omega
  have hq2 : (if M < lim then (M : Int) else (lim : Int)) = (N : Int) := by split <;> omega
  have hLN' : (L.length : Int) ≤ (N : Int) := by omega
  have HN : Hid (n ≤ N ∧ N ≤ lim) := ⟨by omega, by omega⟩
  have HR : Hid (RingIs w b (.slice a len cap) L lim) := hr0
  clear hrow hfst hL hLc hcl hbk hr0 hN hM hLN
  go_enter Try.func44, Try.ntmps44
  go_wp2
  go_region_law (fail)
  all_goals
    go_wp2_with fail
    refine (lay_any b (.slice a len cap) L lim w.heap.size L.length N (List.replicate N 0) _ (by exact HR.out.fr (S := fun _ => False) ((Fr.refl _ _).alloc _).drew id (fun _ _ => id)) (by exact heap_alloc_new w _) (by omega) ?_ (Nat.le_refl _) (by simp; omega) (by omega)).mono ?_
    · intro e
      have := HR.out.own_lt _ e
      omega
    rintro e w3 ⟨rfl, hd3, hf3⟩
    have hf4 : Fr (fun k => k = w.heap.size) w w3 := Fr.trans ((Fr.refl _ _).alloc _).drew hf3
    have hb3 : ∃ f : Nat, w3.heap[b]? = some (.cells #[.int .i64 L.length, .slice a len cap, .int .i64 f, .int .i64 lim] 75 (0, 0)) := by
      obtain ⟨_, _, f, h, _⟩ := HR.out
      exact ⟨f, by rw [hf4.block b hbs (by omega)]; exact h⟩
    obtain ⟨f, hb3⟩ := hb3
    obtain ⟨d0, d1, d2, d3⟩ := cell4 hb3
    have z1 : w3.frozen? ⟨b, 1, none⟩ = false := frozen_of_heap hb3
    have z2 : w3.frozen? ⟨b, 2, none⟩ = false := frozen_of_heap hb3
    have HB3 : Hid (w3.heap[b]? = some (.cells #[.int .i64 L.length, .slice a len cap, .int .i64 f, .int .i64 lim] 75 (0, 0))) := hb3
    have HD3 : Hid (w3.heap[w.heap.size]? = some (Obj.cells (bv (List.take L.length L ++ List.drop L.length (List.replicate N 0))).toArray 5)) := hd3
    clear hb3 hd3
    go_wp2
    go_end0
    exact ⟨rfl, w.heap.size, Nat.le_refl _, ring_widened HB3.out HD3.out (by omega) (by omega) (by have := HN.out; omega) HN.out.2 hlim,
      Fr.setB (Fr.setB (Fr.mono (T := fun k => k = b) hf4 (fun k hk e => by omega)) _ _) _ _⟩

theorem widen_any (b n : Nat) (sv : Value) (L : List UInt8) (lim : Nat) (w : World) (hr : RingIs w b sv L lim) (hn : n ≤ lim) :
    Calls Try.prog 44 #[.pointer (some ⟨b, 0, none⟩), .int .i64 n] w fun e w' => e = .returned (.tuple #[]) ∧
      ∃ (a : Option Addr) (len : Nat), n ≤ len ∧ RingIs w' b (.slice a len len) L lim ∧ Fr (fun k => k = b) w w' ∧ ((Value.slice a len len).ownBlock = sv.ownBlock ∨ ∃ k, (Value.slice a len len).ownBlock = some k ∧ w.heap.size ≤ k) := by
  have hr0 := hr
  obtain ⟨hlim, cur, first, hbk, hcl, hLc, hfst, hL, hrow⟩ := hr
  obtain ⟨a, hsv⟩ : ∃ a, sv = .slice a cur.length cur.length := by
    rcases hrow with ⟨e, rfl⟩ | ⟨g, e, _⟩
    · exact ⟨_, e⟩
    · exact ⟨_, e⟩
  subst hsv
  by_cases h : n ≤ cur.length
  · refine (widen_no b n cur.length cur.length a w (cell4 hbk).2.1 h).mono ?_
    rintro e w' ⟨rfl, rfl⟩
    exact ⟨rfl, a, _, h, hr0, Fr.refl _ _, .inl rfl⟩
  · refine (widen_grow b n _ _ a _ _ L lim w hr0 rfl (by omega) hn (by omega) rfl).mono ?_
    rintro e w' ⟨rfl, d, hd, h1, h2⟩
    exact ⟨rfl, _, _, by omega, h1, h2, .inr ⟨d, rfl, hd⟩⟩

end Go.Proofs.Ytibiiagdhdmpiaa
