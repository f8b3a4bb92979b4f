/- Contracts of package chunk's Ring: what a ring holds; lay and widen. -/
import Derived.Test.YtibiiagdhdmpiaaCc
namespace Go.Proofs.Ytibiiagdhdmpiaa
open Go.RowKit
set_option linter.unusedVariables false

/-- The ring in block b, its slice being sv, holds the bytes L and has room for lim in all. -/
def RingIs (w : World) (b : Nat) (sv : Value) (L : List UInt8) (lim : Nat) : Prop :=
  lim ≤ 1048576 ∧ ∃ (cur : List UInt8) (first : Nat),
    w.heap[b]? = some (.cells #[.int .i64 L.length, sv, .int .i64 first, .int .i64 lim] 75 (0, 0)) ∧
    cur.length ≤ lim ∧ L.length ≤ cur.length ∧ (first < cur.length ∨ (first = 0 ∧ cur = [])) ∧ L = (rot cur first).take L.length ∧ RowIs w b sv cur

theorem cell4 {w : World} {b : Nat} {v0 v1 v2 v3 : Value} {t : TypeId} (h : w.heap[b]? = some (.cells #[v0, v1, v2, v3] t (0, 0))) :
    w.cell? ⟨b, 0, none⟩ = some v0 ∧ w.cell? ⟨b, 1, none⟩ = some v1 ∧ w.cell? ⟨b, 2, none⟩ = some v2 ∧ w.cell? ⟨b, 3, none⟩ = some v3 :=
  ⟨cell_of_heap h rfl, cell_of_heap h rfl, cell_of_heap h rfl, cell_of_heap h rfl⟩

theorem setCell_heap {w : World} {b i : Nat} {cur : Array Value} {t : TypeId} {fr : Nat × Nat} (v : Value) (h : w.heap[b]? = some (.cells cur t fr)) :
    (w.setCell ⟨b, i, none⟩ v).heap[b]? = some (.cells (cur.setIfInBounds i v) t fr) := by
  rw [setCell_eq_setRow w b i cur t fr v h]
  exact setRow_heap w b cur _ t fr h
theorem setCell_other {w : World} {b i k : Nat} (v : Value) (h : k ≠ b) : (w.setCell ⟨b, i, none⟩ v).heap[k]? = w.heap[k]? := Below.heap_setCell _ _ _ _ h

theorem lay_any (b : Nat) (sv : Value) (L : List UInt8) (lim : Nat) (d m c : Nat) (D : List UInt8) (w : World) (hr : RingIs w b sv L lim)
    (hd : w.heap[d]? = some (.cells (bv D).toArray 5 (0, 0))) (hb : b ≠ d) (hsd : sv.ownBlock ≠ some d) (hm : m ≤ L.length) (h4 : m ≤ D.length) (h5 : m ≤ c) :
    Calls Try.prog 47 #[.pointer (some ⟨b, 0, none⟩), .slice (some ⟨d, 0, none⟩) m c] w fun e w' => e = .returned (.tuple #[]) ∧ w'.heap[d]? = some (.cells (bv (L.take m ++ D.drop m)).toArray 5 (0, 0)) ∧ Fr (fun k => k = d) w w' := by
  obtain ⟨hlim, cur, first, hbk, hcl, hLc, hfst, hL, hrow⟩ := hr
  obtain ⟨c0, c1, c2, c3⟩ := cell4 hbk
  rcases hrow with ⟨rfl, rfl⟩ | ⟨g, rfl, hgb, hpos, hg⟩
  · have hL0 : L.length = 0 := by simpa using hLc
    obtain rfl : m = 0 := by omega
    obtain rfl : first = 0 := by rcases hfst with h | h; · simp at h
                                 · exact h.1
    refine (lay_nil b d c w c1 c2).mono ?_
    rintro e w' ⟨rfl, n, rfl⟩
    exact ⟨rfl, by simpa using hd, (Fr.refl _ _).drewN n⟩
  · have hf : first < cur.length := by rcases hfst with h | h; · exact h
                                       · rw [h.2] at hpos; simp at hpos
    have hgd : g ≠ d := by intro e; subst e; exact hsd rfl
    by_cases h3 : m ≤ cur.length - first
    · refine (lay_one b g first cur d m c D w c1 c2 hg hd hb hgd hf (by omega) h3 h4 h5).mono ?_
      rintro e w' ⟨rfl, h, h'⟩
      refine ⟨rfl, ?_, h'⟩
      rw [h, hL, List.take_take, Nat.min_eq_left hm, rot, List.take_append_of_le_length (by simp; omega)]
    · refine (lay_two b g first cur d m c D w c1 c2 hg hd hb hgd hf (by omega) (by omega) (by omega) h4 h5).mono ?_
      rintro e w' ⟨rfl, h, h'⟩
      refine ⟨rfl, ?_, h'⟩
      rw [h, hL, List.take_take, Nat.min_eq_left hm, rot, List.take_append, List.take_of_length_le (i := m) (by simp; omega), List.length_drop, List.take_take, Nat.min_eq_left (by omega)]

theorem make_bytes (n : Nat) (h : n ≤ 140737488351232) : ∀ w : World, (Instr.makeSlice 31 (.int .i64 (n : Int)) (.int .i64 (n : Int))).run Try.prog w = .ok (.slice (some ⟨w.heap.size, 0, none⟩) n n) (w.alloc (.cells (bv (List.replicate n 0)).toArray 5)) := by
  intro w
  have hi : Try.prog.info? 5 = Try.prog.info? 5 := rfl
  have hr := run_make (P := Try.prog) w 31 5 ((Try.prog.info? 5).get (by kernel_rfl)) (.int .u8 0) Try.underlying31 (by kernel_rfl) (by kernel_rfl) .i64 .i64 n n (by omega) (by omega) (by rw [show (((Try.prog.info? 5).get (by kernel_rfl)).bytes) = 1 from by kernel_rfl]; omega) (by omega)
  rw [show (((Try.prog.info? 5).get (by kernel_rfl)).size) = 1 from by kernel_rfl] at hr
  simpa [Value.cells, made_bytes] using hr

/-- 'widen' where there is place already. -/
theorem widen_no (b n len cap : Nat) (a : Option Addr) (w : World) (c1 : w.cell? ⟨b, 1, none⟩ = some (.slice a len cap)) (h : n ≤ len) :
    Calls Try.prog 44 #[.pointer (some ⟨b, 0, none⟩), .int .i64 n] w fun e w' => e = .returned (.tuple #[]) ∧ w' = w := by
  have h' : (n : Int) ≤ (len : Int) := by omega
  go_enter Try.func44, Try.ntmps44
  go_wp2
  (try simp only [Exit.inBlock, Exit.then]); refine bodyPost_ret (results_none rfl _ _ _) rfl ?_
  exact ⟨rfl, rfl⟩

theorem RingIs.fr {S : Nat → Prop} {w w' : World} {b : Nat} {sv : Value} {L : List UInt8} {lim : Nat} (hr : RingIs w b sv L lim) (hf : Fr S w w') (hb : ¬ S b) (hg : ∀ g, sv.ownBlock = some g → ¬ S g) : RingIs w' b sv L lim := by
  obtain ⟨hlim, cur, first, hbk, hcl, hLc, hfst, hL, hrow⟩ := hr
  refine ⟨hlim, cur, first, ?_, hcl, hLc, hfst, hL, ?_⟩
  · rw [hf.block b (lt_of_heap hbk) hb]; exact hbk
  · rcases hrow with h | ⟨g, rfl, hgb, hpos, hgr⟩
    · exact .inl h
    · refine .inr ⟨g, rfl, hgb, hpos, ?_⟩
      rw [hf.block g (lt_of_heap hgr) (hg g rfl)]; exact hgr

theorem RingIs.lt {w : World} {b : Nat} {sv : Value} {L : List UInt8} {lim : Nat} (hr : RingIs w b sv L lim) : b < w.heap.size := by
  obtain ⟨hlim, cur, first, hbk, _⟩ := hr
  exact lt_of_heap hbk
theorem RingIs.own_lt {w : World} {b : Nat} {sv : Value} {L : List UInt8} {lim : Nat} (hr : RingIs w b sv L lim) (g : Nat) (h : sv.ownBlock = some g) : g < w.heap.size ∧ g ≠ b := by
  obtain ⟨hlim, cur, first, hbk, hcl, hLc, hfst, hL, hrow⟩ := hr
  rcases hrow with ⟨rfl, _⟩ | ⟨g', rfl, hgb, hpos, hgr⟩
  · simp [Value.ownBlock] at h
  · simp [Value.ownBlock] at h
    subst h
    exact ⟨lt_of_heap hgr, hgb⟩
theorem RingIs.le {w : World} {b : Nat} {sv : Value} {L : List UInt8} {lim : Nat} (hr : RingIs w b sv L lim) : L.length ≤ lim ∧ lim ≤ 1048576 := by
  obtain ⟨hlim, cur, first, hbk, hcl, hLc, _⟩ := hr
  exact ⟨by omega, hlim⟩

end Go.Proofs.Ytibiiagdhdmpiaa
