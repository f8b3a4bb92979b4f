/- What readScript answers; the sign of a remark. -/
import Derived.Test.YtfehmlopndklcaaDoorSco
import Derived.Test.YtfehmlopndklcaaDoorScbb
import Derived.Test.YtfehmlopndklcaaDoorScs
import Derived.Test.YtfehmlopndklcaaDoorScp
namespace Go.Proofs.YtfehmlopndklcaaDoor
open Go.RowKit
set_option maxRecDepth 100000
set_option maxHeartbeats 4000000
set_option linter.unusedVariables false

theorem hash_has (l : List UInt8) : Lib.hasPrefix l [35] = decide (l.head? = some 35) := by
  cases l with
  | nil => rfl
  | cons c r =>
    simp only [Lib.hasPrefix, List.isPrefixOf, List.head?_cons, Option.some.injEq, Bool.and_true]
    by_cases h : c = 35
    · subst h; rfl
    · rw [decide_eq_false h]
      simpa using fun e => h e.symm
theorem hasP_in (s : ByteArray) (w : World) : Calls Tryd.prog 28 #[.string s, .string ⟨#[35]⟩] w fun e w' => e = .returned (.bool (decide ((tx s).head? = some 35))) ∧ w = w' :=
  (Any.strings_HasPrefix oHasP s ⟨#[35]⟩ w).mono fun e w' h => ⟨by rw [h.1, ← hash_has]; rfl, h.2.symm⟩
/-- What readScript answers. -/
def RSAs (s : ByteArray) (w : World) (e : Ending) (w' : World) : Prop := Fr (fun _ => False) w w' ∧
  ((65536 < s.size ∧ ∃ v, ErrIs v 0 2 ∧ e = .returned (.tuple #[.slice none 0 0, v])) ∨ (s.size ≤ 65536 ∧
    ((∃ (k : Nat) (n : Int) (v : Value), scriptO (tx s) = .inr (k, n) ∧ ErrIs v k n ∧ e = .returned (.tuple #[.slice none 0 0, v])) ∨
      ∃ (E : List (Dr × Value)) (q : Option Addr) (c : Nat), scriptO (tx s) = .inl (E.map (·.1)) ∧ e = .returned (.tuple #[.slice q E.length c, .nilIface]) ∧ EvAt w' (.slice q E.length c) E)))
end Go.Proofs.YtfehmlopndklcaaDoor
/- Where a script's walk stands: lines over, events so far. -/
namespace Go.Proofs.YtfehmlopndklcaaDoor
open Go.RowKit
set_option maxRecDepth 100000
set_option maxHeartbeats 4000000
set_option linter.unusedVariables false

theorem cuts_count (g : UInt8) : ∀ l : List UInt8, (cuts g l).length ≤ l.length + 1
  | [] => by simp [cuts]
  | c :: r => by
    have ih := cuts_count g r
    by_cases hc : c = g
    · simp only [cuts, hc, if_true, List.length_cons]; omega
    · simp only [cuts, hc, if_false]
      cases hx : cuts g r with
      | nil => simp
      | cons q qs =>
        rw [hx] at ih
        simp only [List.length_cons] at ih ⊢
        omega
/-- k lines are over (the count's box tells cn), these events so far. -/
structure SJ (s : ByteArray) (w : World) (k cn : Nat) (v : Value) (E : List (Dr × Value)) (W : World) : Prop where
  box : W.heap[w.heap.size + 2]? = some (.cells #[v] 33 (0, 0))
  cnt : W.heap[w.heap.size + 3]? = some (.cells #[.int .i64 (cn : Int)] 3 (0, 0))
  r0 : W.heap[w.heap.size]? = some (.cells #[.slice none 0 0] 33 (0, 0))
  r1 : W.heap[w.heap.size + 1]? = some (.cells #[.nilIface] 42 (0, 0))
  b0 : W.heap[w.heap.size + 4]? = some (.cells #[.string s] 9 (0, 0))
  b1 : W.heap[w.heap.size + 5]? = some (.cells #[.int .i32 10] 21 (0, 0))
  evs : EvAt W v E
  own : ∀ j, v.ownBlock = some j → w.heap.size + 6 ≤ j
  line : scriptO (tx s) = scGo ((cuts 10 (tx s)).drop k) k (E.map (·.1))
  few : E.length ≤ 4096
  fr : Fr (fun _ => False) w W
theorem SJ.keep {s : ByteArray} {w W W' : World} {k cn : Nat} {v : Value} {E : List (Dr × Value)} {S : Nat → Prop} (h : SJ s w k cn v E W) (hf : Fr S W W') (hs : ∀ k cs t fr, W.heap[k]? = some (.cells cs t fr) → ¬ S k) (hn : ∀ j, j < w.heap.size → ¬ S j) : SJ s w k cn v E W' where
  box := (hf.block _ (lt_of_heap h.box) (hs _ _ _ _ h.box)).trans h.box
  cnt := (hf.block _ (lt_of_heap h.cnt) (hs _ _ _ _ h.cnt)).trans h.cnt
  r0 := (hf.block _ (lt_of_heap h.r0) (hs _ _ _ _ h.r0)).trans h.r0
  r1 := (hf.block _ (lt_of_heap h.r1) (hs _ _ _ _ h.r1)).trans h.r1
  b0 := (hf.block _ (lt_of_heap h.b0) (hs _ _ _ _ h.b0)).trans h.b0
  b1 := (hf.block _ (lt_of_heap h.b1) (hs _ _ _ _ h.b1)).trans h.b1
  evs := h.evs.fr hf (fun k hk => by obtain ⟨-, cur, hc⟩ := rowE_lt h.evs.row k hk; exact hs _ _ _ _ hc) (fun k cs fr hk => hs _ _ _ _ hk)
  own := h.own
  line := h.line
  few := h.few
  fr := fr_new h.fr hf hn
theorem SJ.old {s : ByteArray} {w W W' : World} {k cn : Nat} {v : Value} {E : List (Dr × Value)} (h : SJ s w k cn v E W) (hf : Fr (fun _ => False) W W') : SJ s w k cn v E W' := h.keep hf (fun _ _ _ _ _ => id) (fun _ _ => id)
/-- The line is counted. -/
theorem SJ.count {s : ByteArray} {w W : World} {k : Nat} {v : Value} {E : List (Dr × Value)} (h : SJ s w k k v E W) : SJ s w k (k + 1) v E (W.setCell ⟨w.heap.size + 3, 0, none⟩ (.int .i64 ((k : Int) + 1))) := by
  have hf : Fr (fun j => j = w.heap.size + 3) W (W.setCell ⟨w.heap.size + 3, 0, none⟩ (.int .i64 ((k : Int) + 1))) := (Fr.refl _ _).setB _ _
  have ne : ∀ {j : Nat} {o : Obj}, W.heap[j]? = some o → o ≠ .cells #[.int .i64 (k : Int)] 3 (0, 0) → ¬ j = w.heap.size + 3 := fun {j o} hj ho e => by
    subst e
    rw [h.cnt] at hj
    cases hj
    exact ho rfl
  have hb : ∀ {j : Nat} {cs : Array Value} {t : TypeId} {fr : Nat × Nat}, W.heap[j]? = some (.cells cs t fr) → ¬ t = 3 → (W.setCell ⟨w.heap.size + 3, 0, none⟩ (.int .i64 ((k : Int) + 1))).heap[j]? = some (.cells cs t fr) := fun {j cs t fr} hj ht => (hf.block _ (lt_of_heap hj) (ne hj (fun e => by cases e; exact ht rfl))).trans hj
  refine ⟨hb h.box (by decide), ?_, hb h.r0 (by decide), hb h.r1 (by decide), hb h.b0 (by decide), hb h.b1 (by decide), h.evs.fr hf (fun j hj e => ?_) (fun j cs fr hj => ne hj (fun e => by cases e)), h.own, h.line, h.few, fr_new h.fr hf (fun j hj e => ?_)⟩
  · have := set_at (j := 0) (.int .i64 ((k : Int) + 1)) h.cnt
    simpa using this
  · have e' : j = w.heap.size + 3 := e
    have := h.own j hj
    omega
  · have e' : j = w.heap.size + 3 := e
    omega
/-- A line that is no event. -/
theorem SJ.skip {s : ByteArray} {w W : World} {k : Nat} {v : Value} {E : List (Dr × Value)} {p : List UInt8} (h : SJ s w k (k + 1) v E W) (hp : (cuts 10 (tx s))[k]? = some p) (hs : isSkip p = true) : SJ s w (k + 1) (k + 1) v E W :=
  { h with line := by rw [h.line, scGo_step hp, if_pos hs] }
/-- A line that is refused. -/
theorem SJ.bad {s : ByteArray} {w W : World} {k : Nat} {v : Value} {E : List (Dr × Value)} {p : List UInt8} {q : Nat} (h : SJ s w k (k + 1) v E W) (hp : (cuts 10 (tx s))[k]? = some p) (hs : ¬ isSkip p = true) (hl : lineO p = .inr q) : scriptO (tx s) = .inr (k + 1, 4) := by
  rw [h.line, scGo_step hp, if_neg hs, hl]
/-- An event too many. -/
theorem SJ.full {s : ByteArray} {w W : World} {k : Nat} {v : Value} {E : List (Dr × Value)} {p : List UInt8} {x : Dr} (h : SJ s w k (k + 1) v E W) (hp : (cuts 10 (tx s))[k]? = some p) (hs : ¬ isSkip p = true) (hl : lineO p = .inl x) (he : E.length = 4096) : scriptO (tx s) = .inr (k + 1, 2) := by
  rw [h.line, scGo_step hp, if_neg hs, hl]
  simp [he]
/-- An event more: its row lies where append left it, the box tells it. -/
theorem SJ.add {s : ByteArray} {w W W1 : World} {k : Nat} {v v' : Value} {E : List (Dr × Value)} {p : List UInt8} {x : Dr × Value} (h : SJ s w k (k + 1) v E W) (hp : (cuts 10 (tx s))[k]? = some p) (hs : ¬ isSkip p = true) (hl : lineO p = .inl x.1) (he : ¬ E.length = 4096) (hx : BAt W x.2 x.1.dat)
    (hr : W1.ownsRow 0 24 5 v' (E ++ [x]).length (evC (E ++ [x]))) (hf : Fr (fun k => v.ownBlock = some k) W W1) (ho : v'.ownBlock = v.ownBlock ∨ ∃ k, v'.ownBlock = some k ∧ W.heap.size ≤ k) {B0 : Nat} :
    W1.heap[w.heap.size + 2]? = some (.cells #[v] 33 (0, 0)) ∧ SJ s w (k + 1) (k + 1) v' (E ++ [x]) (W1.setCell ⟨w.heap.size + 2, 0, none⟩ v') ∧ KeepsFrom B0 W (W1.setCell ⟨w.heap.size + 2, 0, none⟩ v') := by
  have hb1 : ∀ {j : Nat} {o : Obj}, W.heap[j]? = some o → j < w.heap.size + 6 → W1.heap[j]? = some o := fun {j o} hj hl => (hf.block _ (lt_of_heap hj) (fun e => by have := h.own _ e; omega)).trans hj
  have hbox := hb1 h.box (by omega)
  have hf2 : Fr (fun j => j = w.heap.size + 2) W1 (W1.setCell ⟨w.heap.size + 2, 0, none⟩ v') := (Fr.refl _ _).setB _ _
  have hb2 : ∀ {j : Nat} {o : Obj}, W1.heap[j]? = some o → ¬ j = w.heap.size + 2 → (W1.setCell ⟨w.heap.size + 2, 0, none⟩ v').heap[j]? = some o := fun {j o} hj hl => (hf2.block _ (lt_of_heap hj) hl).trans hj
  have hnew : ∀ j, v'.ownBlock = some j → w.heap.size + 6 ≤ j := fun j hj => by
    rcases ho with e | ⟨i, e, e2⟩
    · exact h.own j (by rw [← e]; exact hj)
    · rw [e] at hj
      cases hj
      have h1 := lt_of_heap h.b1
      have h2 := lt_of_heap h.b1
      omega
  have ne5 : ∀ (j : Nat) (cs : Array Value) (fr : Nat × Nat), W1.heap[j]? = some (.cells cs 5 fr) → ¬ j = w.heap.size + 2 := fun j cs fr hj e => by
    subst e
    rw [hbox] at hj
    cases hj
  have dat1 : ∀ q : Dr × Value, BAt W q.2 q.1.dat → BAt (W1.setCell ⟨w.heap.size + 2, 0, none⟩ v') q.2 q.1.dat := fun q hq => by
    refine (hq.fr hf (fun j cs fr hj e => ?_)).fr hf2 ne5
    obtain ⟨-, cur, hc⟩ := rowE_lt h.evs.row j e
    rw [hj] at hc
    cases hc
  refine ⟨hbox, ⟨?_, hb2 (hb1 h.cnt (by omega)) (by omega), hb2 (hb1 h.r0 (by omega)) (by omega), hb2 (hb1 h.r1 (by omega)) (by omega), hb2 (hb1 h.b0 (by omega)) (by omega), hb2 (hb1 h.b1 (by omega)) (by omega), ⟨rowE_fr hr hf2 (fun j hj e => ?_), fun q hq => ?_⟩, hnew, ?_, ?_, fr_new (fr_new h.fr hf (fun j hj e => ?_)) hf2 (fun j hj e => ?_)⟩, (keeps4 hf (fun j o e hj => ?_)).trans (keeps4 hf2 (fun j o e hj => ?_))⟩
  · have := set_at (j := 0) v' hbox
    simpa using this
  · have e' : j = w.heap.size + 2 := e
    have := hnew j hj
    omega
  · rcases List.mem_append.1 hq with hq | hq
    · exact dat1 q (h.evs.dat q hq)
    · rw [List.mem_singleton.1 hq]
      exact dat1 x hx
  · rw [h.line, scGo_step hp, if_neg hs, hl]
    simp [he]
  · have := h.few
    rw [List.length_append]
    simp
    omega
  · have := h.own j e
    omega
  · have e' : j = w.heap.size + 2 := e
    omega
  · obtain ⟨-, cur, hc⟩ := rowE_lt h.evs.row j e
    rw [hj] at hc
    cases hc
    rfl
  · have e' : j = w.heap.size + 2 := e
    subst e'
    rw [hbox] at hj
    cases hj
    rfl
def SI (s : ByteArray) (w : World) (k : Nat) (W : World) : Prop := ∃ v E, SJ s w k k v E W
theorem SI.own (s : ByteArray) (w : World) {B : Nat} (hB : w.heap.size ≤ B) : OwnFrom B (fun k W => SI s w k W) := fun k X Y row hs hg hr => by
  obtain ⟨v, E, h⟩ := hs
  exact ⟨v, E, h.keep (Fr.of_own4 hg hr) (fun _ _ _ _ h => cells_not4 h) (fun j hj e => by have := e.1; omega)⟩
/-- A fault was found. -/
structure SX (s : ByteArray) (w : World) (W : World) : Prop where
  d : ∃ (k : Nat) (n : Int) (v : Value), scriptO (tx s) = .inr (k, n) ∧ ErrIs v k n ∧ W.heap[w.heap.size + 1]? = some (.cells #[v] 42 (0, 0))
  r0 : W.heap[w.heap.size]? = some (.cells #[.slice none 0 0] 33 (0, 0))
  fr : Fr (fun _ => False) w W
theorem SX.own (s : ByteArray) (w : World) (c : Code) {B : Nat} (hB : w.heap.size ≤ B) : OwnFrom B (fun (_ : Nat) W => c = .ret ∧ SX s w W) := fun k X Y row hs hg hr => by
  have hf := Fr.of_own4 hg hr
  obtain ⟨hc, ⟨k', n, v, h1, h2, h3⟩, h4, h5⟩ := hs
  exact ⟨hc, ⟨k', n, v, h1, h2, (hf.block _ (lt_of_heap h3) (cells_not4 h3)).trans h3⟩, (hf.block _ (lt_of_heap h4) (cells_not4 h4)).trans h4, fr_new h5 hf (fun j hj e => by have := e.1; omega)⟩
/-- The fault is told. -/
theorem SJ.told {s : ByteArray} {w W : World} {k cn : Nat} {v u : Value} {E : List (Dr × Value)} {n : Int} (h : SJ s w k cn v E W) (hx : scriptO (tx s) = .inr (k + 1, n)) (hu : ErrIs u (k + 1) n) {B0 : Nat} :
    SX s w ((W.setCell ⟨w.heap.size, 0, none⟩ (.slice none 0 0)).setCell ⟨w.heap.size + 1, 0, none⟩ u) ∧ KeepsFrom B0 W ((W.setCell ⟨w.heap.size, 0, none⟩ (.slice none 0 0)).setCell ⟨w.heap.size + 1, 0, none⟩ u) := by
  have hf1 : Fr (fun j => j = w.heap.size) W (W.setCell ⟨w.heap.size, 0, none⟩ (.slice none 0 0)) := (Fr.refl _ _).setB _ _
  have hf2 : Fr (fun j => j = w.heap.size + 1) (W.setCell ⟨w.heap.size, 0, none⟩ (.slice none 0 0)) ((W.setCell ⟨w.heap.size, 0, none⟩ (.slice none 0 0)).setCell ⟨w.heap.size + 1, 0, none⟩ u) := (Fr.refl _ _).setB _ _
  have q0 : (W.setCell ⟨w.heap.size, 0, none⟩ (.slice none 0 0)).heap[w.heap.size]? = some (.cells #[.slice none 0 0] 33 (0, 0)) := by
    have := set_at (j := 0) (.slice none 0 0) h.r0
    simpa using this
  have q1 : (W.setCell ⟨w.heap.size, 0, none⟩ (.slice none 0 0)).heap[w.heap.size + 1]? = some (.cells #[.nilIface] 42 (0, 0)) := (hf1.block _ (lt_of_heap h.r1) (fun e => by have e' : w.heap.size + 1 = w.heap.size := e; omega)).trans h.r1
  refine ⟨⟨⟨k + 1, n, u, hx, hu, ?_⟩, (hf2.block _ (lt_of_heap q0) (fun e => by have e' : w.heap.size = w.heap.size + 1 := e; omega)).trans q0, fr_new (fr_new h.fr hf1 (fun j hj e => ?_)) hf2 (fun j hj e => ?_)⟩, (keeps4 hf1 (fun j o e ho => ?_)).trans (keeps4 hf2 (fun j o e ho => ?_))⟩
  · have := set_at (j := 0) u q1
    simpa using this
  · have e' : j = w.heap.size := e
    omega
  · have e' : j = w.heap.size + 1 := e
    omega
  · have e' : j = w.heap.size := e
    subst e'
    rw [h.r0] at ho
    cases ho
    rfl
  · have e' : j = w.heap.size + 1 := e
    subst e'
    rw [q1] at ho
    cases ho
    rfl
theorem SX.drew {s : ByteArray} {w W : World} (h : SX s w W) : SX s w W.drew := ⟨h.d, h.r0, h.fr.drew⟩
theorem KeepsFrom.drew4 {B : Nat} {X Y : World} (h : KeepsFrom B X Y) : KeepsFrom B X Y.drew := ⟨h.size, h.same⟩
end Go.Proofs.YtfehmlopndklcaaDoor
