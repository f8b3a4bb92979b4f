/- A pump of the program's in memory: its block, its ring, its trailers. -/
import Derived.Test.YtibiiagdhdmpiaaCh
import Derived.Test.YtibiiagdhdmpiaaZv
import Derived.Test.YtibiiagdhdmpiaaA3
namespace Go.Proofs.Ytibiiagdhdmpiaa
open Go.RowKit
set_option linter.unusedVariables false
set_option maxRecDepth 100000
set_option maxHeartbeats 4000000

abbrev Hd := ByteArray × ByteArray × Bool

theorem HL.fr {S : Nat → Prop} {w w' : World} {q : Option Addr} {c : Nat} {l : List Hd} (h : HL w q c l) (f : Fr S w w') (hs : ∀ a, q = some a → 0 < l.length → ¬ S a.block) : HL w' q c l := by
  refine ⟨h.cap, h.big, h.few, fun r x hr => ?_⟩
  obtain ⟨b, o, hq, hb, h0, h1, h2, h3⟩ := h.cells r x hr
  have hn : ¬ S b := hs ⟨b, o, none⟩ hq (by have := (List.getElem?_eq_some_iff.1 hr).1; omega)
  have hc : ∀ j, w'.cell? ⟨b, j, none⟩ = w.cell? ⟨b, j, none⟩ := fun j => f.cell (p := ⟨b, j, none⟩) hb hn
  exact ⟨b, o, hq, Nat.lt_of_lt_of_le hb f.size, (hc _).trans h0, (hc _).trans h1, (hc _).trans h2, h3⟩
theorem HL.lt {w : World} {q : Option Addr} {c : Nat} {l : List Hd} (h : HL w q c l) (a : Addr) (hq : q = some a) (hl : 0 < l.length) : a.block < w.heap.size := by
  obtain ⟨b, o, hq', hb, -⟩ := h.cells 0 l[0] (List.getElem?_eq_getElem hl)
  rw [hq] at hq'; cases hq'; exact hb
/-- A block none of whose cells is a text holds no header. -/
theorem HL.off {w : World} {q : Option Addr} {c : Nat} {l : List Hd} (h : HL w q c l) {g : Nat} {cur : Array Value} {t : TypeId} {fr : Nat × Nat} (hg : w.heap[g]? = some (.cells cur t fr)) (hn : ∀ (j : Nat) (s : ByteArray), cur[j]? ≠ some (.string s)) (a : Addr) (hq : q = some a) (hl : 0 < l.length) : a.block ≠ g := by
  obtain ⟨b, o, hq', hb, h0, -⟩ := h.cells 0 l[0] (List.getElem?_eq_getElem hl)
  rw [hq] at hq'; cases hq'
  intro e
  have e2 : b = g := e
  subst e2
  unfold World.cell? at h0
  simp only [hg] at h0
  exact hn _ _ (by simpa using h0)

/-- The trailers, or that there are none. -/
def TailAt (w : World) (O : Nat → Prop) (tv : Value) (T : Option (List Hd)) : Prop :=
  match T with
  | none => tv = .slice none 0 0
  | some l => ∃ (q : Option Addr) (c : Nat), tv = .slice q l.length c ∧ HL w q c l ∧ ∀ a, q = some a → 0 < l.length → O a.block
theorem TailAt.fr {S O : Nat → Prop} {w w' : World} {tv : Value} {T : Option (List Hd)} (h : TailAt w O tv T) (f : Fr S w w') (hs : ∀ k, O k → ¬ S k) : TailAt w' O tv T := by
  cases T with
  | none => exact h
  | some l => obtain ⟨q, c, e, hl, ho⟩ := h; exact ⟨q, c, e, hl.fr f (fun a ha h0 => hs _ (ho a ha h0)), ho⟩
/-- What is no header's may change. -/
theorem TailAt.fr_off {S O : Nat → Prop} {w w' : World} {tv : Value} {T : Option (List Hd)} (h : TailAt w O tv T) (f : Fr S w w') (hs : ∀ k, S k → k < w.heap.size → ∃ cur t fr, w.heap[k]? = some (.cells cur t fr) ∧ ∀ (j : Nat) (s : ByteArray), cur[j]? ≠ some (.string s)) : TailAt w' O tv T := by
  cases T with
  | none => exact h
  | some l =>
    obtain ⟨q, c, e, hl, ho⟩ := h
    refine ⟨q, c, e, hl.fr f (fun a ha h0 hS => ?_), ho⟩
    obtain ⟨cur, t, fr, hg, hn⟩ := hs _ hS (hl.lt a ha h0)
    exact hl.off hg hn a ha h0 rfl
theorem TailAt.mono {O O' : Nat → Prop} {w : World} {tv : Value} {T : Option (List Hd)} (h : TailAt w O tv T) (ho : ∀ k, O k → O' k) : TailAt w O' tv T := by
  cases T with
  | none => exact h
  | some l => obtain ⟨q, c, e, hl, hq⟩ := h; exact ⟨q, c, e, hl, fun a ha h0 => ho _ (hq a ha h0)⟩

/-- A pump's parts. -/
def PuX (w : World) (O : Nat → Prop) (b r : Nat) (sv tv : Value) (L : List UInt8) (lim : Nat) (op : Bool) (T : Option (List Hd)) : Prop :=
  w.heap[b]? = some (.cells #[.pointer (some ⟨r, 0, none⟩), tv, .bool T.isSome, .bool op] 58 (0, 0)) ∧ RingIs w r sv L lim ∧ TailAt w O tv T ∧ O r ∧ (∀ g, sv.ownBlock = some g → O g)
/-- A pump in block b, all of whose blocks are of O: the bytes L, room for lim, open or not, trailers. -/
structure PuAt (w : World) (O : Nat → Prop) (b : Nat) (L : List UInt8) (lim : Nat) (op : Bool) (T : Option (List Hd)) : Prop where
  ex : ∃ (r : Nat) (sv tv : Value), PuX w O b r sv tv L lim op T
  ob : O b
  lt : ∀ k, O k → k < w.heap.size
  few : lim ≤ 65536
  tl : T.isSome = true → op = false

/-- The blocks of before, and those that are new. -/
def Grow (O : Nat → Prop) (w w' : World) : Nat → Prop := fun k => O k ∨ (w.heap.size ≤ k ∧ k < w'.heap.size)
theorem PuX.ne {w : World} {O : Nat → Prop} {b r : Nat} {sv tv : Value} {L : List UInt8} {lim : Nat} {op : Bool} {T : Option (List Hd)} (h : PuX w O b r sv tv L lim op T) : b ≠ r ∧ sv.ownBlock ≠ some b := by
  obtain ⟨hb, hr, -⟩ := h
  obtain ⟨-, cur, first, hrb, -, -, -, -, hrow⟩ := hr
  constructor
  · intro e
    subst e
    rw [hb] at hrb
    simp at hrb
  · intro e
    rcases hrow with ⟨rfl, -⟩ | ⟨g, rfl, -, -, hg⟩
    · simp [Value.ownBlock] at e
    · simp only [Value.ownBlock, Option.some.injEq] at e
      subst e
      rw [hb] at hg
      simp at hg
theorem bv_no_text (cur : List UInt8) (j : Nat) (s : ByteArray) : (bv cur).toArray[j]? ≠ some (.string s) := by
  intro h
  rw [List.getElem?_toArray] at h
  obtain ⟨c, -, e⟩ := (bv_get _ _ _).1 h
  cases e
theorem four_no_text {v0 v1 v2 v3 : Value} (h0 : ∀ s, v0 ≠ .string s) (h1 : ∀ s, v1 ≠ .string s) (h2 : ∀ s, v2 ≠ .string s) (h3 : ∀ s, v3 ≠ .string s) (j : Nat) (s : ByteArray) : (#[v0, v1, v2, v3] : Array Value)[j]? ≠ some (.string s) := by
  intro h
  match j with
  | 0 => simp at h; exact h0 _ h
  | 1 => simp at h; exact h1 _ h
  | 2 => simp at h; exact h2 _ h
  | 3 => simp at h; exact h3 _ h
  | j + 4 => simp at h
theorem RingIs.no_text {w : World} {r : Nat} {sv : Value} {L : List UInt8} {lim : Nat} (hr : RingIs w r sv L lim) (k : Nat) (hk : k = r ∨ sv.ownBlock = some k) : ∃ cur t fr, w.heap[k]? = some (.cells cur t fr) ∧ ∀ (j : Nat) (s : ByteArray), cur[j]? ≠ some (.string s) := by
  obtain ⟨-, cur, first, hrb, -, -, -, -, hrow⟩ := hr
  rcases hk with rfl | hk
  · refine ⟨_, _, _, hrb, four_no_text (fun s e => by cases e) (fun s e => ?_) (fun s e => by cases e) (fun s e => by cases e)⟩
    rcases hrow with ⟨rfl, -⟩ | ⟨g, rfl, -⟩ <;> cases e
  · rcases hrow with ⟨rfl, -⟩ | ⟨g, rfl, -, -, hg⟩
    · simp [Value.ownBlock] at hk
    · simp only [Value.ownBlock, Option.some.injEq] at hk
      subst hk
      exact ⟨_, _, _, hg, bv_no_text cur⟩
theorem PuX.cells {w : World} {O : Nat → Prop} {b r : Nat} {sv tv : Value} {L : List UInt8} {lim : Nat} {op : Bool} {T : Option (List Hd)} (h : PuX w O b r sv tv L lim op T) :
    w.cell? ⟨b, 0, none⟩ = some (.pointer (some ⟨r, 0, none⟩)) ∧ w.cell? ⟨b, 1, none⟩ = some tv ∧ w.cell? ⟨b, 2, none⟩ = some (.bool T.isSome) ∧ w.cell? ⟨b, 3, none⟩ = some (.bool op) := cell4 h.1
theorem PuX.fr {S O : Nat → Prop} {w w' : World} {b r : Nat} {sv tv : Value} {L : List UInt8} {lim : Nat} {op : Bool} {T : Option (List Hd)} (h : PuX w O b r sv tv L lim op T) (f : Fr S w w') (hb : ¬ S b) (hs : ∀ k, O k → ¬ S k) : PuX w' O b r sv tv L lim op T :=
  ⟨(f.block b (lt_of_heap h.1) hb).trans h.1, h.2.1.fr f (hs _ h.2.2.2.1) (fun g hg => hs _ (h.2.2.2.2 g hg)), h.2.2.1.fr f hs, h.2.2.2⟩
theorem PuAt.fr {S O : Nat → Prop} {w w' : World} {b : Nat} {L : List UInt8} {lim : Nat} {op : Bool} {T : Option (List Hd)} (h : PuAt w O b L lim op T) (f : Fr S w w') (hs : ∀ k, O k → ¬ S k) : PuAt w' O b L lim op T := by
  obtain ⟨⟨r, sv, tv, hx⟩, ob, lt, few, tl⟩ := h
  exact ⟨⟨r, sv, tv, hx.fr f (hs b ob) hs⟩, ob, fun k hk => Nat.lt_of_lt_of_le (lt k hk) f.size, few, tl⟩
theorem PuAt.quiet {O : Nat → Prop} {w w' : World} {b : Nat} {L : List UInt8} {lim : Nat} {op : Bool} {T : Option (List Hd)} (h : PuAt w O b L lim op T) (f : Fr (fun _ => False) w w') : PuAt w' O b L lim op T := h.fr f (fun _ _ => id)
theorem PuAt.le {O : Nat → Prop} {w : World} {b : Nat} {L : List UInt8} {lim : Nat} {op : Bool} {T : Option (List Hd)} (h : PuAt w O b L lim op T) : L.length ≤ lim := by
  obtain ⟨⟨r, sv, tv, hx⟩, -⟩ := h
  exact hx.2.1.le.1
/-- Behind a call on the ring. -/
theorem PuX.ring {O : Nat → Prop} {w w' : World} {b r : Nat} {sv sv' tv : Value} {L L' : List UInt8} {lim : Nat} {op : Bool} {T : Option (List Hd)} (h : PuX w O b r sv tv L lim op T) (hr : RingIs w' r sv' L' lim)
    (f : Fr (fun k => k = r ∨ sv.ownBlock = some k) w w') (hk : sv'.ownBlock = sv.ownBlock ∨ ∃ k, sv'.ownBlock = some k ∧ w.heap.size ≤ k) : PuX w' (Grow O w w') b r sv' tv L' lim op T ∧ Fr O w w' := by
  obtain ⟨n1, n2⟩ := h.ne
  refine ⟨⟨(f.block b (lt_of_heap h.1) (fun e => e.elim n1 n2)).trans h.1, hr, ?_, .inl h.2.2.2.1, fun g hg => ?_⟩, f.mono (fun k _ e => ?_)⟩
  · exact (h.2.2.1.fr_off f (fun k hS _ => h.2.1.no_text k hS)).mono (fun k hk => .inl hk)
  · rcases hk with e | ⟨k, e, hk⟩
    · exact .inl (h.2.2.2.2 g (by rw [← e]; exact hg))
    · rw [e] at hg; cases hg
      exact .inr ⟨hk, (hr.own_lt _ e).1⟩
  · rcases e with e | e
    · subst e; exact h.2.2.2.1
    · exact h.2.2.2.2 k e
theorem PuAt.grow {O : Nat → Prop} {w w' : World} (lt : ∀ k, O k → k < w.heap.size) (f : w.heap.size ≤ w'.heap.size) (k : Nat) (h : Grow O w w' k) : k < w'.heap.size := by
  rcases h with h | h
  · exact Nat.lt_of_lt_of_le (lt k h) f
  · exact h.2
end Go.Proofs.Ytibiiagdhdmpiaa
