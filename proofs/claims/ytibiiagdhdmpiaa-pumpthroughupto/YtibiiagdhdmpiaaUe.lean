/- The program's pump: Tail, Last, Done, Cut. -/
import Derived.Test.YtibiiagdhdmpiaaUd
namespace Go.Proofs.Ytibiiagdhdmpiaa
open Go.RowKit
set_option linter.unusedVariables false
set_option maxRecDepth 100000
set_option maxHeartbeats 4000000

/-- What Last tells, and what is there behind it. -/
def lastO (L : List UInt8) (T : Option (List Hd)) : Option (List Hd) := if L = [] then T else none
def lastT (L : List UInt8) (T : Option (List Hd)) : Option (List Hd) := if L = [] then none else T
/-- Whether Next tells the end. -/
def endB (m : Nat) (L : List UInt8) (op : Bool) (T : Option (List Hd)) : Bool := decide (m = L.length) && (!op && !T.isSome)

theorem TailAt.form {w : World} {O : Nat → Prop} {tv : Value} {T : Option (List Hd)} (h : TailAt w O tv T) : ∃ q c, tv = .slice q (T.getD []).length c ∧ HL w q c (T.getD []) ∧ ∀ a, q = some a → 0 < (T.getD []).length → O a.block := by
  cases T with
  | none => exact ⟨none, 0, h, HL.nil w, fun a ha h0 => by cases ha⟩
  | some l => exact h
theorem uTail_shut (O : Nat → Prop) (b : Nat) (L : List UInt8) (lim : Nat) (T : Option (List Hd)) (q : Option Addr) (n c : Nat) (w : World) (h : PuAt w O b L lim false T) : Calls Try.prog 18 #[.pointer (some ⟨b, 0, none⟩), .slice q n c] w fun e w' => e = .returned (.int .i64 5) ∧ w = w' := by
  have K := uEnd_shut O b L lim T w h
  go_enter Try.func18, Try.ntmps18
  go_wp2_with (fail)
  refine K.mono ?_
  rintro e w1 ⟨rfl, rfl⟩
  go_wp2
  go_ret
  exact ⟨rfl, rfl⟩
theorem uTail_in (O : Nat → Prop) (b : Nat) (L : List UInt8) (lim : Nat) (T : Option (List Hd)) (q : Option Addr) (c : Nat) (l : List Hd) (w : World) (h : PuAt w O b L lim true T) (hl : HL w q c l) (hq : ∀ a, q = some a → 0 < l.length → ¬ O a.block) :
    Calls Try.prog 18 #[.pointer (some ⟨b, 0, none⟩), .slice q l.length c] w fun e w' => e = .returned (.int .i64 0) ∧ PuAt w' (Grow O w w') b L lim false (some l) ∧ Fr O w w' := by
  have K := uEnd_in O b L lim T w h
  have HH : Hid (HL w q c l) := hl
  have HQ : Hid (∀ a, q = some a → 0 < l.length → ¬ O a.block) := hq
  clear hl hq h
  go_enter Try.func18, Try.ntmps18
  go_wp2_with (fail)
  refine K.mono ?_
  rintro e w1 ⟨rfl, h1, hz1, f1⟩
  have hl1 : HL w1 q c l := HH.out.fr f1 HQ.out
  obtain ⟨⟨r, sv, tv, hx⟩, ob, lt, few, tl⟩ := h1
  obtain ⟨n1, n2⟩ := hx.ne
  obtain ⟨x1, x2, x3, x4, x5⟩ := hx
  have KH := hang_in b _ _ _ _ q c l w1 x1 x3 hl1 (fun a ha h0 e => HQ.out a ha h0 (by rw [e]; exact ob))
  have HX2 : Hid (RingIs w1 r sv L lim) := x2
  have HF1 : Hid (Fr O w w1) := f1
  have HZ1 : Hid (w1.heap.size = w.heap.size) := hz1
  clear x1 x3 hl1 K HH HQ x2 f1 hz1
  go_wp2_with (fail)
  refine KH.mono ?_
  rintro e w2 ⟨rfl, g, hg1, hg2, hb2, hl2, f2⟩
  have HB2 : Hid (w2.heap[b]? = some (.cells #[.pointer (some ⟨r, 0, none⟩), .slice (some ⟨g, 0, none⟩) l.length l.length, .bool true, .bool false] 58 (0, 0))) := hb2
  have HL2 : Hid (HL w2 (some ⟨g, 0, none⟩) l.length l) := hl2
  have HF2 : Hid (Fr (fun k => k = b) w1 w2) := f2
  clear hb2 hl2 f2 KH
  go_wp2
  go_ret
  have hF : Fr O w w2 := HF1.out.trans (HF2.out.mono (fun k _ e => by subst e; exact ob))
  refine ⟨rfl, ⟨⟨r, sv, _, HB2.out, HX2.out.fr HF2.out (fun e => n1 e.symm) (fun g hg e => n2 (by rw [hg, e])), ⟨some ⟨g, 0, none⟩, l.length, rfl, HL2.out, fun a ha _ => ?_⟩, .inl x4, fun g hg => .inl (x5 g hg)⟩, .inl ob, ?_, few, fun _ => rfl⟩, hF⟩
  · cases ha
    exact .inr ⟨by have := HZ1.out; show w.heap.size ≤ g; omega, hg2⟩
  · have hz := HZ1.out
    exact PuAt.grow (fun k hk => by have := lt k hk; omega) hF.size
theorem PuAt.unhung {O : Nat → Prop} {w w' : World} {b r : Nat} {sv tv : Value} {L : List UInt8} {lim : Nat} {op : Bool} {T : Option (List Hd)} (hx : PuX w O b r sv tv L lim op T) (ob : O b) (lt : ∀ k, O k → k < w.heap.size) (few : lim ≤ 65536)
    (hb : w'.heap[b]? = some (.cells #[.pointer (some ⟨r, 0, none⟩), .slice none 0 0, .bool false, .bool op] 58 (0, 0))) (f : Fr (fun k => k = b) w w') (hz : w'.heap.size = w.heap.size) : PuAt w' O b L lim op none := by
  obtain ⟨n1, n2⟩ := hx.ne
  obtain ⟨x1, x2, x3, x4, x5⟩ := hx
  exact ⟨⟨r, sv, _, hb, x2.fr f (fun e => n1 e.symm) (fun g hg e => n2 (by rw [hg, e])), rfl, x4, x5⟩, ob, fun k hk => by rw [hz]; exact lt k hk, few, fun h => by cases h⟩
theorem uLast_in (O : Nat → Prop) (b : Nat) (L : List UInt8) (lim : Nat) (op : Bool) (T : Option (List Hd)) (w : World) (h : PuAt w O b L lim op T) :
    Calls Try.prog 20 #[.pointer (some ⟨b, 0, none⟩)] w fun e w' => ∃ q c, e = .returned (.tuple #[.slice q ((lastO L T).getD []).length c, .bool (lastO L T).isSome]) ∧ HL w' q c ((lastO L T).getD []) ∧ (∀ a, q = some a → 0 < ((lastO L T).getD []).length → O a.block) ∧ PuAt w' O b L lim op (lastT L T) ∧ Fr (fun k => k = b) w w' ∧ w'.heap.size = w.heap.size := by
  have h0 := h
  obtain ⟨⟨r, sv, tv, hx⟩, ob, lt, few, tl⟩ := h
  obtain ⟨c0, c1, c2, c3⟩ := hx.cells
  have K := umade_yes b r w c0
  have KL := ring_len r sv L lim w hx.2.1
  have HX : Hid (PuX w O b r sv tv L lim op T) := hx
  have H0 : Hid (PuAt w O b L lim op T) := h0
  by_cases hL : L = []
  · subst hL
    obtain ⟨q, c, rfl, hl, hq⟩ := hx.2.2.1.form
    have e1 : lastO [] T = T := rfl
    have e2 : lastT [] T = none := rfl
    rw [e1, e2]
    have KU := unhang_in b _ _ _ q (T.getD []).length c w hx.1
    have HLT : Hid (HL w q c (T.getD [])) := hl
    have HQ : Hid (∀ a, q = some a → 0 < (T.getD []).length → O a.block) := hq
    have HW : Hid (w.heap[b]? = some (.cells #[.pointer (some ⟨r, 0, none⟩), .slice q (T.getD []).length c, .bool T.isSome, .bool op] 58 (0, 0))) := hx.1
    obtain ⟨N, hN⟩ : ∃ N, (T.getD []).length = N := ⟨_, rfl⟩
    obtain ⟨B, hB⟩ : ∃ B, T.isSome = B := ⟨_, rfl⟩
    have HNN : Hid ((T.getD []).length = N) := hN
    have HBB : Hid (T.isSome = B) := hB
    rw [hN, hB] at KU
    rw [hN] at c1
    rw [hB] at c2
    clear hx hl hq h0 e1 e2 hN hB
    go_enter Try.func20, Try.ntmps20
    go_wp2_with (fail)
    refine K.mono ?_
    rintro e w1 ⟨rfl, rfl⟩
    go_wp2_with (fail)
    refine KL.mono ?_
    rintro e w1 ⟨rfl, rfl⟩
    go_wp2_with (fail)
    refine KU.mono ?_
    rintro e w2 ⟨rfl, hb2, f2, z2⟩
    have HB2 : Hid (w2.heap[b]? = some (.cells #[.pointer (some ⟨r, 0, none⟩), .slice none 0 0, .bool false, .bool op] 58 (0, 0))) := hb2
    have HF2 : Hid (Fr (fun k => k = b) w w2) := f2
    have HZ2 : Hid (w2.heap.size = w.heap.size) := z2
    clear hb2 f2 z2 KU KL K c0 c1 c2 c3
    go_wp2
    go_ret2
    refine ⟨q, c, by rw [HNN.out, HBB.out]; rfl, HLT.out.fr HF2.out (fun a ha h0 e => HLT.out.off HW.out (four_no_text (fun s e => by cases e) (fun s e => by cases e) (fun s e => by cases e) (fun s e => by cases e)) a ha h0 e), HQ.out, PuAt.unhung HX.out ob lt few HB2.out HF2.out HZ2.out, HF2.out, HZ2.out⟩
  · have e1 : lastO L T = none := if_neg hL
    have e2 : lastT L T = T := if_neg hL
    rw [e1, e2]
    obtain ⟨N, hN⟩ : ∃ N, L.length = N := ⟨_, rfl⟩
    have hp : 0 < N := by rw [← hN]; exact List.length_pos_iff.2 hL
    have hp2 : (0 : Int) < (N : Int) := by omega
    rw [hN] at KL
    clear hx e1 e2 hN hL h0
    go_enter Try.func20, Try.ntmps20
    go_wp2_with (fail)
    refine K.mono ?_
    rintro e w1 ⟨rfl, rfl⟩
    go_wp2_with (fail)
    refine KL.mono ?_
    rintro e w1 ⟨rfl, rfl⟩
    go_wp2
    go_ret2
    exact ⟨none, 0, rfl, HL.nil w, (fun a ha _ => by cases ha), H0.out, Fr.refl _ _, rfl⟩
theorem PuX.ring0 {O : Nat → Prop} {w w' : World} {b r : Nat} {sv tv : Value} {L L' : List UInt8} {lim : Nat} {op : Bool} {T : Option (List Hd)} (h : PuX w O b r sv tv L lim op T) (hr : RingIs w' r sv L' lim)
    (f : Fr (fun k => k = r) w w') : PuX w' O b r sv tv L' lim op T ∧ Fr O w w' := by
  obtain ⟨n1, n2⟩ := h.ne
  refine ⟨⟨(f.block b (lt_of_heap h.1) n1).trans h.1, hr, ?_, h.2.2.2.1, h.2.2.2.2⟩, f.mono (fun k _ e => by subst e; exact h.2.2.2.1)⟩
  exact h.2.2.1.fr_off f (fun k hS _ => h.2.1.no_text k (.inl hS))
theorem uDone_bad (O : Nat → Prop) (b : Nat) (L : List UInt8) (lim : Nat) (op : Bool) (T : Option (List Hd)) (n : Int) (w : World) (h : PuAt w O b L lim op T) (hn : n < 0 ∨ (L.length : Int) < n) :
    Calls Try.prog 17 #[.pointer (some ⟨b, 0, none⟩), .int .i64 n] w fun e w' => e = .returned (.int .i64 1) ∧ w = w' := by
  obtain ⟨⟨r, sv, tv, hx⟩, ob, lt, few, tl⟩ := h
  obtain ⟨c0, c1, c2, c3⟩ := hx.cells
  have K := umade_yes b r w c0
  have KL := ring_len r sv L lim w hx.2.1
  obtain ⟨N, hN⟩ : ∃ N, L.length = N := ⟨_, rfl⟩
  rw [hN] at KL hn
  clear hx hN
  by_cases h0 : n < 0
  · clear hn
    go_enter Try.func17, Try.ntmps17
    go_wp2_with (fail)
    refine K.mono ?_
    rintro e w1 ⟨rfl, rfl⟩
    go_wp2
    go_ret
    exact ⟨rfl, rfl⟩
  · have hn2 : (N : Int) < n := by omega
    clear hn
    go_enter Try.func17, Try.ntmps17
    go_wp2_with (fail)
    refine K.mono ?_
    rintro e w1 ⟨rfl, rfl⟩
    go_wp2_with (fail)
    refine KL.mono ?_
    rintro e w1 ⟨rfl, rfl⟩
    go_wp2
    go_ret
    exact ⟨rfl, rfl⟩
theorem uDone_in (O : Nat → Prop) (b : Nat) (L : List UInt8) (lim : Nat) (op : Bool) (T : Option (List Hd)) (n : Nat) (w : World) (h : PuAt w O b L lim op T) (hn : n ≤ L.length) :
    Calls Try.prog 17 #[.pointer (some ⟨b, 0, none⟩), .int .i64 (n : Int)] w fun e w' => e = .returned (.int .i64 0) ∧ PuAt w' O b (L.drop n) lim op T ∧ Fr O w w' := by
  obtain ⟨⟨r, sv, tv, hx⟩, ob, lt, few, tl⟩ := h
  obtain ⟨c0, c1, c2, c3⟩ := hx.cells
  have K := umade_yes b r w c0
  have KL := ring_len r sv L lim w hx.2.1
  have KD := drop_any r sv L lim n n w hx.2.1 (by omega)
  have HX : Hid (PuX w O b r sv tv L lim op T) := hx
  obtain ⟨N, hN⟩ : ∃ N, L.length = N := ⟨_, rfl⟩
  rw [hN] at KL hn
  have h1 : ¬ ((n : Int) < 0) := by omega
  have h2 : ¬ ((N : Int) < (n : Int)) := by omega
  clear hx hN
  go_enter Try.func17, Try.ntmps17
  go_wp2_with (fail)
  refine K.mono ?_
  rintro e w1 ⟨rfl, rfl⟩
  go_wp2_with (fail)
  refine KL.mono ?_
  rintro e w1 ⟨rfl, rfl⟩
  go_wp2_with (fail)
  refine KD.mono ?_
  rintro e w2 ⟨rfl, r2, f2⟩
  obtain ⟨x2, g2⟩ := HX.out.ring0 r2 f2
  have HX2 : Hid (PuX w2 O b r sv tv (L.drop n) lim op T) := x2
  have HG2 : Hid (Fr O w w2) := g2
  clear r2 f2 x2 g2 KD
  go_wp2
  go_ret
  exact ⟨rfl, ⟨⟨_, _, _, HX2.out⟩, ob, fun k hk => Nat.lt_of_lt_of_le (lt k hk) HG2.out.size, few, tl⟩, HG2.out⟩
end Go.Proofs.Ytibiiagdhdmpiaa
