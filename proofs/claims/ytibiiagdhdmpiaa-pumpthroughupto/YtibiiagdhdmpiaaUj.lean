/- The document's pump in memory, and each of its calls, whatever its state. -/
import Derived.Test.YtibiiagdhdmpiaaUh
import Derived.Test.YtibiiagdhdmpiaaCi
namespace Go.Proofs.Ytibiiagdhdmpiaa
open Go.RowKit
set_option linter.unusedVariables false
set_option maxRecDepth 100000
set_option maxHeartbeats 4000000

/-- The document's pump, its parts told. -/
structure RuX (w : World) (O : Nat → Prop) (c r : Nat) (v tv : Value) (L : List UInt8) (lim : Nat) (op : Bool) (T : Option (List Hd)) : Prop where
  blk : w.heap[c]? = some (.cells #[.pointer (some ⟨r, 0, none⟩), .bool (!op), tv, .bool T.isSome] 40 (0, 0))
  ring : RefIs w r v L lim
  tail : TailAt w O tv T
  off : ∀ q n k a, tv = .slice q n k → q = some a → 0 < n → v.ownBlock ≠ some a.block
  or : O r
  og : ∀ g, v.ownBlock = some g → O g
structure RuAt (w : World) (O : Nat → Prop) (c : Nat) (L : List UInt8) (lim : Nat) (op : Bool) (T : Option (List Hd)) : Prop where
  ex : ∃ (r : Nat) (v tv : Value), RuX w O c r v tv L lim op T
  ob : O c
  lt : ∀ k, O k → k < w.heap.size
  few : lim ≤ 65536
  tl : T.isSome = true → op = false
def RuS (w w' : World) (O : Nat → Prop) (c : Nat) (L : List UInt8) (lim : Nat) (op : Bool) (T : Option (List Hd)) : Prop :=
  ∃ O' : Nat → Prop, RuAt w' O' c L lim op T ∧ Fr O w w' ∧ ∀ k, O' k → O k ∨ w.heap.size ≤ k

section
variable {w w' : World} {O : Nat → Prop} {c r : Nat} {v tv : Value} {L : List UInt8} {lim : Nat} {op : Bool} {T : Option (List Hd)}
theorem RuS.same (h : RuAt w' O c L lim op T) (f : Fr O w w') : RuS w w' O c L lim op T := ⟨O, h, f, fun k hk => .inl hk⟩
theorem RuS.grown (h : RuAt w' (Grow O w w') c L lim op T) (f : Fr O w w') : RuS w w' O c L lim op T := ⟨_, h, f, fun k hk => hk.elim .inl (fun h => .inr h.1)⟩
theorem TailAt.fr_q {S : Nat → Prop} (h : TailAt w O tv T) (f : Fr S w w') (hs : ∀ q n k a, tv = .slice q n k → q = some a → 0 < n → ¬ S a.block) : TailAt w' O tv T := by
  cases T with
  | none => exact h
  | some l => obtain ⟨q, k, e, hl, ho⟩ := h; exact ⟨q, k, e, hl.fr f (fun a ha h0 => hs q _ k a e ha h0), ho⟩
theorem TailAt.lt (h : TailAt w O tv T) {q : Option Addr} {n k : Nat} (e : tv = .slice q n k) (a : Addr) (ha : q = some a) (h0 : 0 < n) : a.block < w.heap.size ∧ O a.block := by
  obtain ⟨q', k', e', hl, ho⟩ := h.form
  rw [e] at e'
  cases e'
  exact ⟨hl.lt a ha h0, ho a ha h0⟩
/-- The trailers lie in no block that holds no text. -/
theorem TailAt.ne (h : TailAt w O tv T) {g : Nat} {cur : Array Value} {t : TypeId} {fr : Nat × Nat} (hg : w.heap[g]? = some (.cells cur t fr)) (hn : ∀ (j : Nat) (s : ByteArray), cur[j]? ≠ some (.string s)) {q : Option Addr} {n k : Nat} (e : tv = .slice q n k) (a : Addr) (ha : q = some a) (h0 : 0 < n) : a.block ≠ g := by
  obtain ⟨q', k', e', hl, ho⟩ := h.form
  rw [e] at e'
  cases e'
  exact hl.off hg hn a ha h0
theorem two_no_text {v0 v1 : Value} (h0 : ∀ s, v0 ≠ .string s) (h1 : ∀ s, v1 ≠ .string s) (j : Nat) (s : ByteArray) : (#[v0, v1] : Array Value)[j]? ≠ some (.string s) := by
  intro h
  match j with
  | 0 => simp at h; exact h0 _ h
  | 1 => simp at h; exact h1 _ h
  | j + 2 => simp at h
theorem RuX.ne (h : RuX w O c r v tv L lim op T) : c ≠ r ∧ v.ownBlock ≠ some c := by
  constructor
  · intro e
    subst e
    have h1 := h.blk
    rw [h.ring.1] at h1
    simp at h1
  · intro e
    have h1 := h.blk
    rcases h.ring.2.1 with ⟨rfl, -⟩ | ⟨g, off, cap', cur, rfl, hg, -⟩
    · simp [Value.ownBlock] at e
    · simp only [Value.ownBlock, Option.some.injEq] at e
      subst e
      rw [hg] at h1
      simp at h1
theorem RuX.cells (h : RuX w O c r v tv L lim op T) : w.cell? ⟨c, 0, none⟩ = some (.pointer (some ⟨r, 0, none⟩)) ∧ w.cell? ⟨c, 1, none⟩ = some (.bool (!op)) ∧ w.cell? ⟨c, 2, none⟩ = some tv ∧ w.cell? ⟨c, 3, none⟩ = some (.bool T.isSome) := cell4 h.blk
theorem RuX.own_form (h : RuX w O c r v tv L lim op T) : ∃ a k, v = .slice a L.length k := by
  obtain ⟨a, k, e, -⟩ := h.ring.2.1.form
  rw [bv_length] at e
  exact ⟨a, k, e⟩
theorem RuX.tail_ne (h : RuX w O c r v tv L lim op T) {q : Option Addr} {n k : Nat} (e : tv = .slice q n k) (a : Addr) (ha : q = some a) (h0 : 0 < n) : a.block ≠ c ∧ a.block ≠ r := by
  obtain ⟨a1, k1, rfl⟩ := h.own_form
  obtain ⟨q2, k2, rfl, -⟩ := h.tail.form
  exact ⟨h.tail.ne h.blk (four_no_text (fun s e => by cases e) (fun s e => by cases e) (fun s e => by cases e) (fun s e => by cases e)) e a ha h0, h.tail.ne h.ring.1 (two_no_text (fun s e => by cases e) (fun s e => by cases e)) e a ha h0⟩
theorem RuX.fr {S : Nat → Prop} (h : RuX w O c r v tv L lim op T) (f : Fr S w w') (hc : ¬ S c) (hs : ∀ k, O k → ¬ S k) : RuX w' O c r v tv L lim op T :=
  ⟨(f.block c (lt_of_heap h.blk) hc).trans h.blk, h.ring.fr f (hs _ h.or) (fun g hg => hs _ (h.og g hg)), h.tail.fr f hs, h.off, h.or, h.og⟩
theorem RuAt.fr {S : Nat → Prop} (h : RuAt w O c L lim op T) (f : Fr S w w') (hs : ∀ k, O k → ¬ S k) : RuAt w' O c L lim op T := by
  obtain ⟨⟨r, v, tv, hx⟩, ob, lt, few, tl⟩ := h
  exact ⟨⟨r, v, tv, hx.fr f (hs c ob) hs⟩, ob, fun k hk => Nat.lt_of_lt_of_le (lt k hk) f.size, few, tl⟩
theorem RuAt.quiet (h : RuAt w O c L lim op T) (f : Fr (fun _ => False) w w') : RuAt w' O c L lim op T := h.fr f (fun _ _ => id)
theorem RuS.drew (h : RuAt w O c L lim op T) (n : Nat) : RuS w (w.drewN n) O c L lim op T := RuS.same (h.quiet ((Fr.refl _ _).drewN n)) ((Fr.refl _ _).drewN n)
/-- Behind a call on the ring. -/
theorem RuX.ringed {v' : Value} {L' : List UInt8} (h : RuX w O c r v tv L lim op T) (hr : RefIs w' r v' L' lim) (f : Fr (fun k => k = r ∨ v.ownBlock = some k) w w') (hk : v'.ownBlock = v.ownBlock ∨ ∃ k, v'.ownBlock = some k ∧ w.heap.size ≤ k) : RuX w' (Grow O w w') c r v' tv L' lim op T ∧ Fr O w w' := by
  obtain ⟨n1, n2⟩ := h.ne
  refine ⟨⟨(f.block c (lt_of_heap h.blk) (fun e => e.elim n1 n2)).trans h.blk, hr, ?_, fun q n k a e ha h0 e2 => ?_, .inl h.or, fun g hg => ?_⟩, f.mono (fun k _ e => ?_)⟩
  · refine (h.tail.fr_q f (fun q n k a e ha h0 e2 => ?_)).mono (fun k hk => .inl hk)
    rcases e2 with e2 | e2
    · exact (h.tail_ne e a ha h0).2 e2
    · exact h.off q n k a e ha h0 e2
  · rcases hk with e3 | ⟨k3, e3, hk3⟩
    · exact h.off q n k a e ha h0 (by rw [← e3]; exact e2)
    · rw [e3] at e2; cases e2
      have := (h.tail.lt e a ha h0).1
      omega
  · rcases hk with e3 | ⟨k3, e3, hk3⟩
    · exact .inl (h.og g (by rw [← e3]; exact hg))
    · have := hr.2.1.lt g hg
      rw [e3] at hg; cases hg
      exact .inr ⟨hk3, this⟩
  · rcases e with e | e
    · subst e; exact h.or
    · exact h.og k e
/-- Behind a store into its own block. -/
theorem RuX.stored {op' : Bool} {tv' : Value} {T' : Option (List Hd)} {O' : Nat → Prop} (h : RuX w O c r v tv L lim op T) (f : Fr (fun k => k = c) w w') (hb : w'.heap[c]? = some (.cells #[.pointer (some ⟨r, 0, none⟩), .bool (!op'), tv', .bool T'.isSome] 40 (0, 0)))
    (ht : TailAt w' O' tv' T') (hoff : ∀ q n k a, tv' = .slice q n k → q = some a → 0 < n → v.ownBlock ≠ some a.block) (hO : ∀ k, O k → O' k) : RuX w' O' c r v tv' L lim op' T' := by
  obtain ⟨n1, n2⟩ := h.ne
  exact ⟨hb, h.ring.fr f (fun e => n1 e.symm) (fun g hg e => n2 (by rw [hg, e])), ht, hoff, hO _ h.or, fun g hg => hO _ (h.og g hg)⟩
end

theorem ruNew_bad (n : Int) (w : World) (hn : n < 0 ∨ 65536 < n) : Calls Try.prog 8 #[.int .i64 n] w fun e w' => e = .returned (.tuple #[.pointer none, .int .i64 1]) ∧ w' = w := by
  rcases hn with h | h
  · go_enter Try.func8, Try.ntmps8
    go_wp2
    go_ret2
    exact ⟨rfl, rfl⟩
  · have h' : ¬ n < 0 := by omega
    go_enter Try.func8, Try.ntmps8
    go_wp2
    go_ret2
    exact ⟨rfl, rfl⟩
theorem ruNew_in (n : Nat) (w : World) (hn : n ≤ 65536) : Calls Try.prog 8 #[.int .i64 n] w fun e w' => ∃ b, e = .returned (.tuple #[.pointer (some ⟨b, 0, none⟩), .int .i64 0]) ∧ RuAt w' (fun k => w.heap.size ≤ k ∧ k < w'.heap.size) b [] n true none ∧ Fr (fun _ => False) w w' := by
  have h1 : ¬ ((n : Int) < 0) := by omega
  have h2 : ¬ ((65536 : Int) < (n : Int)) := by omega
  have h3 : (n : Int) ≤ 65536 := by omega
  have K := rnew_ok n w (by omega)
  go_enter Try.func8, Try.ntmps8
  go_wp2_with (fail)
  refine K.mono ?_
  rintro e w1 ⟨rfl, hr, hf⟩
  have HR : Hid (RefIs w1 w.heap.size (.slice none 0 0) [] n) := hr
  have HF : Hid (Fr (fun _ => False) w w1) := hf
  have hlt := lt_of_heap hr.1
  clear hr hf K
  go_wp2
  go_ret2
  have f1 : Fr (fun _ => False) w1 (w1.alloc (.cells #[.pointer (some ⟨w.heap.size, 0, none⟩), .bool false, .slice none 0 0, .bool false] 40)) := (Fr.refl _ _).alloc _
  have hs := HF.out.size
  refine ⟨w1.heap.size, rfl, ⟨⟨w.heap.size, .slice none 0 0, .slice none 0 0, ⟨heap_alloc_new w1 _, HR.out.fr f1 id (fun _ _ => id), rfl, (fun q n k a e ha h0 => by cases e; cases ha), ⟨Nat.le_refl _, by simp; omega⟩, fun g hg => by simp [Value.ownBlock] at hg⟩⟩, ⟨by omega, by simp⟩, fun k hk => hk.2, hn, fun h => by cases h⟩, HF.out.trans f1⟩
section
variable (O : Nat → Prop) (c : Nat) (L : List UInt8) (lim : Nat) (op : Bool) (T : Option (List Hd)) (w : World)
theorem ruPut_as (sp : Option Addr) (scap : Nat) (bs : List UInt8) (h : RuAt w O c L lim op T) (hs : SrcAt w sp bs) (hcap : bs.length ≤ scap) :
    Calls Try.prog 25 #[.pointer (some ⟨c, 0, none⟩), .slice sp bs.length scap] w fun e w' => e = .returned (.int .i64 (putE op L lim bs)) ∧ RuS w w' O c (putL op L lim bs) lim op T := by
  have H0 : Hid (RuAt w O c L lim op T) := h
  obtain ⟨⟨r, v, tv, hx⟩, ob, lt, few, tl⟩ := h
  obtain ⟨c0, c1, c2, c3⟩ := hx.cells
  obtain ⟨N, hN⟩ : ∃ N, bs.length = N := ⟨_, rfl⟩
  cases op
  · rw [hN]
    clear hx hN
    go_enter Try.func25, Try.ntmps25
    go_wp2
    go_ret
    exact ⟨rfl, RuS.same H0.out (Fr.refl _ _)⟩
  · obtain ⟨rm, hrm⟩ : ∃ rm, lim - L.length = rm := ⟨_, rfl⟩
    have KR := rroom r v L lim rm w hx.ring hrm.symm
    by_cases hf : N ≤ rm
    · have e1 : putE true L lim bs = 0 := by simp [putE, hrm, hN, hf]
      have e2 : putL true L lim bs = L ++ bs := by simp [putL, hrm, hN, hf]
      rw [e1, e2, hN]
      have HP : Hid (∀ n, Calls Try.prog 41 #[.pointer (some ⟨r, 0, none⟩), .slice sp N scap] (w.drewN n) fun e w' => e = .returned (.int .i64 N) ∧ ∃ v', RuX w' (Grow O w w') c r v' tv (L ++ bs) lim true T ∧ Fr O w w') := by
        intro n
        have hx' : RuX (w.drewN n) O c r v tv L lim true T := hx.fr (S := fun _ => False) ((Fr.refl _ _).drewN n) id (fun _ _ => id)
        refine (rput r v L lim sp N scap bs (w.drewN n) hx'.ring (hs.heap rfl) hN (by omega) N (by omega)).mono ?_
        rintro e w' ⟨rfl, v', hr', f', k'⟩
        rw [List.take_of_length_le (by omega)] at hr'
        obtain ⟨y1, y2⟩ := hx'.ringed hr' f' k'
        exact ⟨rfl, v', y1, (Fr.trans (b := w.drewN n) ((Fr.refl _ _).drewN n) y2)⟩
      have hfi : ¬ (rm : Int) < (N : Int) := by omega
      have c0' : ∀ n, (w.drewN n).cell? ⟨c, 0, none⟩ = some (.pointer (some ⟨r, 0, none⟩)) := fun n => c0
      clear hx hrm hs hN hcap
      go_enter Try.func25, Try.ntmps25
      go_wp2_with (fail)
      refine KR.mono ?_
      rintro e w1 ⟨rfl, n, rfl⟩
      go_wp2_with (fail)
      refine (HP.out n).mono ?_
      rintro e w2 ⟨rfl, v2, hx2, f2⟩
      have HX2 : Hid (RuX w2 (Grow O w w2) c r v2 tv (L ++ bs) lim true T) := hx2
      have HF2 : Hid (Fr O w w2) := f2
      clear hx2 f2
      go_wp2
      go_ret
      exact ⟨rfl, RuS.grown ⟨⟨_, _, _, HX2.out⟩, .inl ob, PuAt.grow lt HF2.out.size, few, tl⟩ HF2.out⟩
    · have e1 : putE true L lim bs = 9 := by simp [putE, hrm, hN, hf]
      have e2 : putL true L lim bs = L := by simp [putL, hrm, hN, hf]
      rw [e1, e2, hN]
      have hfi : (rm : Int) < (N : Int) := by omega
      clear hx hrm hs hN hcap
      go_enter Try.func25, Try.ntmps25
      go_wp2_with (fail)
      refine KR.mono ?_
      rintro e w1 ⟨rfl, n, rfl⟩
      go_wp2
      go_ret
      exact ⟨rfl, RuS.drew H0.out n⟩
theorem ruEnd_as (h : RuAt w O c L lim op T) : Calls Try.prog 28 #[.pointer (some ⟨c, 0, none⟩)] w fun e w' => e = .returned (.int .i64 (shutE op)) ∧ RuS w w' O c L lim false T := by
  have H0 : Hid (RuAt w O c L lim op T) := h
  obtain ⟨⟨r, v, tv, hx⟩, ob, lt, few, tl⟩ := h
  obtain ⟨c0, c1, c2, c3⟩ := hx.cells
  have z1 : w.frozen? ⟨c, 1, none⟩ = false := frozen_of_heap hx.blk
  have HX : Hid (RuX w O c r v tv L lim op T) := hx
  clear hx
  cases op
  · go_enter Try.func28, Try.ntmps28
    go_wp2
    go_ret
    exact ⟨rfl, RuS.same H0.out (Fr.refl _ _)⟩
  · go_enter Try.func28, Try.ntmps28
    go_wp2
    go_ret
    have f : Fr (fun k => k = c) w (w.setCell ⟨c, 1, none⟩ (.bool true)) := Fr.setB (Fr.refl _ _) _ _
    have hb := setCell_heap (i := 1) (.bool true) HX.out.blk
    refine ⟨rfl, RuS.same ⟨⟨r, v, tv, HX.out.stored f hb (HX.out.tail.fr_q f (fun q n k a e ha h0 => (HX.out.tail_ne e a ha h0).1)) HX.out.off (fun _ => id)⟩, ob, fun k hk => by simpa [World.setCell] using lt k hk, few, fun _ => rfl⟩ (f.mono (fun k _ e => by subst e; exact ob))⟩
end
end Go.Proofs.Ytibiiagdhdmpiaa
