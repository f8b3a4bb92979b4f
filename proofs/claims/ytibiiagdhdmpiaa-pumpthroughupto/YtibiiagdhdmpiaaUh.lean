/- The program's pump: each call, whatever the pump's state; a pump beside other blocks. -/
import Derived.Test.YtibiiagdhdmpiaaUg
namespace Go.Proofs.Ytibiiagdhdmpiaa
open Go.RowKit
set_option linter.unusedVariables false
set_option maxRecDepth 100000
set_option maxHeartbeats 4000000

def putE (op : Bool) (L : List UInt8) (lim : Nat) (bs : List UInt8) : Int := if op then (if bs.length ≤ lim - L.length then 0 else 9) else 5
def putL (op : Bool) (L : List UInt8) (lim : Nat) (bs : List UInt8) : List UInt8 := if op then (if bs.length ≤ lim - L.length then L ++ bs else L) else L
def shutE (op : Bool) : Int := if op then 0 else 5
def tailT (op : Bool) (T : Option (List Hd)) (l : List Hd) : Option (List Hd) := if op then some l else T
def doneE (L : List UInt8) (n : Int) : Int := if n < 0 ∨ (L.length : Int) < n then 1 else 0
def doneL (L : List UInt8) (n : Int) : List UInt8 := if n < 0 ∨ (L.length : Int) < n then L else L.drop n.toNat

/-- A pump behind a call: in the blocks of before, and new ones. -/
def PuS (w w' : World) (O : Nat → Prop) (b : Nat) (L : List UInt8) (lim : Nat) (op : Bool) (T : Option (List Hd)) : Prop :=
  ∃ O' : Nat → Prop, PuAt w' O' b L lim op T ∧ Fr O w w' ∧ ∀ k, O' k → O k ∨ w.heap.size ≤ k
theorem PuS.same {w w' : World} {O : Nat → Prop} {b : Nat} {L : List UInt8} {lim : Nat} {op : Bool} {T : Option (List Hd)} (h : PuAt w' O b L lim op T) (f : Fr O w w') : PuS w w' O b L lim op T := ⟨O, h, f, fun k hk => .inl hk⟩
theorem PuS.grown {w w' : World} {O : Nat → Prop} {b : Nat} {L : List UInt8} {lim : Nat} {op : Bool} {T : Option (List Hd)} (h : PuAt w' (Grow O w w') b L lim op T) (f : Fr O w w') : PuS w w' O b L lim op T := ⟨_, h, f, fun k hk => hk.elim .inl (fun h => .inr h.1)⟩
theorem PuS.drew {w : World} {O : Nat → Prop} {b : Nat} {L : List UInt8} {lim : Nat} {op : Bool} {T : Option (List Hd)} (h : PuAt w O b L lim op T) (n : Nat) : PuS w (w.drewN n) O b L lim op T := PuS.same (h.quiet ((Fr.refl _ _).drewN n)) ((Fr.refl _ _).drewN n)

section
variable (O : Nat → Prop) (b : Nat) (L : List UInt8) (lim : Nat) (op : Bool) (T : Option (List Hd)) (w : World)
theorem uPut_as (sp : Option Addr) (scap : Nat) (bs : List UInt8) (h : PuAt w O b L lim op T) (hs : SrcAt w sp bs) (hcap : bs.length ≤ scap) (hap : ∀ a, sp = some a → 0 < bs.length → a.block < w.heap.size ∧ ¬ O a.block) :
    Calls Try.prog 15 #[.pointer (some ⟨b, 0, none⟩), .slice sp bs.length scap] w fun e w' => e = .returned (.int .i64 (putE op L lim bs)) ∧ PuS w w' O b (putL op L lim bs) lim op T := by
  cases op
  · refine (uPut_shut O b L lim T sp bs.length scap w h).mono ?_
    rintro e w' ⟨rfl, rfl⟩
    exact ⟨rfl, PuS.same h (Fr.refl _ _)⟩
  · by_cases hf : bs.length ≤ lim - L.length
    · refine (uPut_in O b L lim T sp bs.length scap bs w h hs rfl hcap hap hf).mono ?_
      rintro e w' ⟨rfl, h', f⟩
      have e1 : putE true L lim bs = 0 := by simp [putE, hf]
      have e2 : putL true L lim bs = L ++ bs := by simp [putL, hf]
      rw [e1, e2]
      exact ⟨rfl, PuS.grown h' f⟩
    · refine (uPut_full O b L lim T sp bs.length scap w h (by omega)).mono ?_
      rintro e w' ⟨rfl, n, rfl⟩
      have e1 : putE true L lim bs = 9 := by simp [putE, hf]
      have e2 : putL true L lim bs = L := by simp [putL, hf]
      rw [e1, e2]
      exact ⟨rfl, PuS.drew h n⟩
theorem uEnd_as (h : PuAt w O b L lim op T) : Calls Try.prog 19 #[.pointer (some ⟨b, 0, none⟩)] w fun e w' => e = .returned (.int .i64 (shutE op)) ∧ PuS w w' O b L lim false T := by
  cases op
  · refine (uEnd_shut O b L lim T w h).mono ?_
    rintro e w' ⟨rfl, rfl⟩
    exact ⟨rfl, PuS.same h (Fr.refl _ _)⟩
  · obtain rfl := no_tail h
    refine (uEnd_in O b L lim none w h).mono ?_
    rintro e w' ⟨rfl, h', -, f⟩
    exact ⟨rfl, PuS.same h' f⟩
theorem uTail_as (q : Option Addr) (c : Nat) (l : List Hd) (h : PuAt w O b L lim op T) (hl : HL w q c l) (hq : ∀ a, q = some a → 0 < l.length → ¬ O a.block) :
    Calls Try.prog 18 #[.pointer (some ⟨b, 0, none⟩), .slice q l.length c] w fun e w' => e = .returned (.int .i64 (shutE op)) ∧ PuS w w' O b L lim false (tailT op T l) := by
  cases op
  · refine (uTail_shut O b L lim T q l.length c w h).mono ?_
    rintro e w' ⟨rfl, rfl⟩
    exact ⟨rfl, PuS.same h (Fr.refl _ _)⟩
  · refine (uTail_in O b L lim T q c l w h hl hq).mono ?_
    rintro e w' ⟨rfl, h', f⟩
    exact ⟨rfl, PuS.grown h' f⟩
theorem uDone_as (n : Int) (h : PuAt w O b L lim op T) : Calls Try.prog 17 #[.pointer (some ⟨b, 0, none⟩), .int .i64 n] w fun e w' => e = .returned (.int .i64 (doneE L n)) ∧ PuS w w' O b (doneL L n) lim op T := by
  by_cases hn : n < 0 ∨ (L.length : Int) < n
  · refine (uDone_bad O b L lim op T n w h hn).mono ?_
    rintro e w' ⟨rfl, rfl⟩
    rw [doneE, doneL, if_pos hn, if_pos hn]
    exact ⟨rfl, PuS.same h (Fr.refl _ _)⟩
  · have hb : n = (n.toNat : Int) := by omega
    rw [doneE, doneL, if_neg hn, if_neg hn]
    obtain ⟨m, hm⟩ : ∃ m, n.toNat = m := ⟨_, rfl⟩
    rw [hm] at hb ⊢
    subst hb
    refine (uDone_in O b L lim op T m w h (by omega)).mono ?_
    rintro e w' ⟨rfl, h', f⟩
    exact ⟨rfl, PuS.same h' f⟩
theorem uCut_as (h : PuAt w O b L lim op T) : Calls Try.prog 22 #[.pointer (some ⟨b, 0, none⟩)] w fun e w' => e = .returned (.tuple #[]) ∧ PuS w w' O b [] lim false none := by
  refine (uCut_in O b L lim op T w h).mono ?_
  rintro e w' ⟨rfl, h', f⟩
  exact ⟨rfl, PuS.same h' f⟩
end

/-- A pump made since w0, none of whose blocks is one of F. -/
structure PuF (w0 w : World) (F : Nat → Prop) (b : Nat) (L : List UInt8) (lim : Nat) (op : Bool) (T : Option (List Hd)) : Prop where
  ex : ∃ O : Nat → Prop, PuAt w O b L lim op T ∧ ∀ k, O k → w0.heap.size ≤ k ∧ ¬ F k
  fl : ∀ k, F k → k < w.heap.size
  fr : Fr (fun _ => False) w0 w
/-- What a call on it may change. -/
def Else (w0 : World) (F : Nat → Prop) : Nat → Prop := fun k => w0.heap.size ≤ k ∧ ¬ F k
theorem PuF.le {w0 w : World} {F : Nat → Prop} {b : Nat} {L : List UInt8} {lim : Nat} {op : Bool} {T : Option (List Hd)} (h : PuF w0 w F b L lim op T) : L.length ≤ lim := by
  obtain ⟨O, h1, -⟩ := h.ex
  exact h1.le
theorem PuF.of {w0 w w' : World} {O F : Nat → Prop} {b : Nat} {L : List UInt8} {lim : Nat} {op : Bool} {T : Option (List Hd)} (fl : ∀ k, F k → k < w.heap.size) (fr : Fr (fun _ => False) w0 w) (hO : ∀ k, O k → w0.heap.size ≤ k ∧ ¬ F k) (s : PuS w w' O b L lim op T) : PuF w0 w' F b L lim op T ∧ Fr (Else w0 F) w w' := by
  obtain ⟨O', h', f, hk⟩ := s
  refine ⟨⟨⟨O', h', fun k h => ?_⟩, fun k hk => Nat.lt_of_lt_of_le (fl k hk) f.size, ?_⟩, f.mono (fun k _ h => hO k h)⟩
  · rcases hk k h with h | h
    · exact hO k h
    · exact ⟨Nat.le_trans fr.size h, fun hF => by have := fl k hF; omega⟩
  · have f2 : Fr O w0 w' := (fr.mono (fun _ _ e => e.elim)).trans f
    exact f2.mono (fun k hk h => by have := (hO k h).1; omega)
/-- Behind what others do. -/
theorem PuF.other {w0 w w' : World} {F G S : Nat → Prop} {b : Nat} {L : List UInt8} {lim : Nat} {op : Bool} {T : Option (List Hd)} (h : PuF w0 w F b L lim op T) (f : Fr S w w') (hS : ∀ k, k < w.heap.size → S k → F k ∧ w0.heap.size ≤ k) (hG : ∀ k, G k → F k ∨ (w.heap.size ≤ k ∧ k < w'.heap.size)) : PuF w0 w' G b L lim op T := by
  obtain ⟨O, h1, hO⟩ := h.ex
  have f1 : Fr (fun k => F k ∧ w0.heap.size ≤ k) w w' := f.mono hS
  refine ⟨⟨O, h1.fr f1 (fun k hk e => (hO k hk).2 e.1), fun k hk => ⟨(hO k hk).1, fun hg => ?_⟩⟩, fun k hk => ?_, ?_⟩
  · rcases hG k hg with hg | hg
    · exact (hO k hk).2 hg
    · have := h1.lt k hk; omega
  · rcases hG k hk with hk | hk
    · exact Nat.lt_of_lt_of_le (h.fl k hk) f.size
    · exact hk.2
  · have f2 : Fr (fun k => F k ∧ w0.heap.size ≤ k) w0 w' := (h.fr.mono (fun _ _ e => e.elim)).trans f1
    exact f2.mono (fun k hk e => by have := e.2; omega)
theorem PuF.quiet {w0 w w' : World} {F : Nat → Prop} {b : Nat} {L : List UInt8} {lim : Nat} {op : Bool} {T : Option (List Hd)} (h : PuF w0 w F b L lim op T) (f : Fr (fun _ => False) w w') : PuF w0 w' F b L lim op T := h.other f (fun _ _ e => e.elim) (fun k hk => .inl hk)

section
variable {w0 w : World} {F : Nat → Prop} {b : Nat} {L : List UInt8} {lim : Nat} {op : Bool} {T : Option (List Hd)}
theorem nNew (n : Nat) (w : World) (hn : n ≤ 65536) : Calls Try.prog 7 #[.int .i64 n] w fun e w' => ∃ b, e = .returned (.tuple #[.pointer (some ⟨b, 0, none⟩), .int .i64 0]) ∧ PuF w w' (fun _ => False) b [] n true none := by
  refine (uNew_in n w hn).mono ?_
  rintro e w' ⟨b, rfl, h, f⟩
  exact ⟨b, rfl, ⟨_, h, fun k hk => ⟨hk.1, id⟩⟩, fun _ e => e.elim, f⟩
theorem PuF.put (h : PuF w0 w F b L lim op T) (sp : Option Addr) (scap : Nat) (bs : List UInt8) (hs : SrcAt w sp bs) (hcap : bs.length ≤ scap) (hap : ∀ a, sp = some a → 0 < bs.length → a.block < w0.heap.size ∨ F a.block) :
    Calls Try.prog 15 #[.pointer (some ⟨b, 0, none⟩), .slice sp bs.length scap] w fun e w' => e = .returned (.int .i64 (putE op L lim bs)) ∧ PuF w0 w' F b (putL op L lim bs) lim op T ∧ Fr (Else w0 F) w w' := by
  obtain ⟨O, h1, hO⟩ := h.ex
  refine (uPut_as O b L lim op T w sp scap bs h1 hs hcap (fun a ha h0 => ?_)).mono ?_
  · rcases hap a ha h0 with hb | hb
    · exact ⟨Nat.lt_of_lt_of_le hb h.fr.size, fun hk => by have := (hO _ hk).1; omega⟩
    · exact ⟨h.fl _ hb, fun hk => (hO _ hk).2 hb⟩
  · rintro e w' ⟨rfl, s⟩
    exact ⟨rfl, PuF.of h.fl h.fr hO s⟩
theorem PuF.shut (h : PuF w0 w F b L lim op T) : Calls Try.prog 19 #[.pointer (some ⟨b, 0, none⟩)] w fun e w' => e = .returned (.int .i64 (shutE op)) ∧ PuF w0 w' F b L lim false T ∧ Fr (Else w0 F) w w' := by
  obtain ⟨O, h1, hO⟩ := h.ex
  refine (uEnd_as O b L lim op T w h1).mono ?_
  rintro e w' ⟨rfl, s⟩
  exact ⟨rfl, PuF.of h.fl h.fr hO s⟩
theorem PuF.tail (h : PuF w0 w F b L lim op T) (q : Option Addr) (c : Nat) (l : List Hd) (hl : HL w q c l) (hq : ∀ a, q = some a → 0 < l.length → a.block < w0.heap.size ∨ F a.block) :
    Calls Try.prog 18 #[.pointer (some ⟨b, 0, none⟩), .slice q l.length c] w fun e w' => e = .returned (.int .i64 (shutE op)) ∧ PuF w0 w' F b L lim false (tailT op T l) ∧ Fr (Else w0 F) w w' := by
  obtain ⟨O, h1, hO⟩ := h.ex
  refine (uTail_as O b L lim op T w q c l h1 hl (fun a ha h0 hk => ?_)).mono ?_
  · rcases hq a ha h0 with hb | hb
    · have := (hO _ hk).1; omega
    · exact (hO _ hk).2 hb
  · rintro e w' ⟨rfl, s⟩
    exact ⟨rfl, PuF.of h.fl h.fr hO s⟩
theorem PuF.done (h : PuF w0 w F b L lim op T) (n : Int) : Calls Try.prog 17 #[.pointer (some ⟨b, 0, none⟩), .int .i64 n] w fun e w' => e = .returned (.int .i64 (doneE L n)) ∧ PuF w0 w' F b (doneL L n) lim op T ∧ Fr (Else w0 F) w w' := by
  obtain ⟨O, h1, hO⟩ := h.ex
  refine (uDone_as O b L lim op T w n h1).mono ?_
  rintro e w' ⟨rfl, s⟩
  exact ⟨rfl, PuF.of h.fl h.fr hO s⟩
theorem PuF.cut (h : PuF w0 w F b L lim op T) : Calls Try.prog 22 #[.pointer (some ⟨b, 0, none⟩)] w fun e w' => e = .returned (.tuple #[]) ∧ PuF w0 w' F b [] lim false none ∧ Fr (Else w0 F) w w' := by
  obtain ⟨O, h1, hO⟩ := h.ex
  refine (uCut_as O b L lim op T w h1).mono ?_
  rintro e w' ⟨rfl, s⟩
  exact ⟨rfl, PuF.of h.fl h.fr hO s⟩
theorem PuF.next (h : PuF w0 w F b L lim op T) (n : Int) (m : Nat) (hm : (m : Int) = max 0 (min n L.length)) :
    Calls Try.prog 16 #[.pointer (some ⟨b, 0, none⟩), .int .i64 n] w fun e w' => ∃ d, e = .returned (.tuple #[.slice (some ⟨d, 0, none⟩) m m, .bool (endB m L op T)]) ∧ w.heap.size ≤ d ∧ w'.heap[d]? = some (.cells (bv (L.take m)).toArray 5 (0, 0)) ∧ PuF w0 w' F b L lim op T ∧ Fr (fun _ => False) w w' := by
  obtain ⟨O, h1, hO⟩ := h.ex
  refine (uNext_in O b L lim op T n m w h1 hm).mono ?_
  rintro e w' ⟨d, rfl, hd, hh, f⟩
  exact ⟨d, rfl, hd, hh, h.quiet f, f⟩
theorem PuF.last (h : PuF w0 w F b L lim op T) : Calls Try.prog 20 #[.pointer (some ⟨b, 0, none⟩)] w fun e w' => ∃ q c, e = .returned (.tuple #[.slice q ((lastO L T).getD []).length c, .bool (lastO L T).isSome]) ∧ HL w' q c ((lastO L T).getD []) ∧ PuF w0 w' F b L lim op (lastT L T) ∧ Fr (Else w0 F) w w' ∧ Fr (fun k => k = b) w w' := by
  obtain ⟨O, h1, hO⟩ := h.ex
  refine (uLast_in O b L lim op T w h1).mono ?_
  rintro e w' ⟨q, c, rfl, hl, hq, h', f, hz⟩
  obtain ⟨x1, x2⟩ := PuF.of h.fl h.fr hO (PuS.same h' (f.mono (fun k _ e => by subst e; exact h1.ob)))
  exact ⟨q, c, rfl, hl, x1, x2, f⟩
/-- A list of headers does not lie in the pump's own block. -/
theorem PuF.off (h : PuF w0 w F b L lim op T) {q : Option Addr} {c : Nat} {l : List Hd} (hl : HL w q c l) (a : Addr) (ha : q = some a) (h0 : 0 < l.length) : a.block ≠ b := by
  obtain ⟨O, ⟨⟨r, sv, tv, x1, x2, x3, -⟩, -⟩, -⟩ := h.ex
  obtain ⟨q1, c1, rfl, -⟩ := x3.form
  exact hl.off x1 (four_no_text (fun s e => by cases e) (fun s e => by cases e) (fun s e => by cases e) (fun s e => by cases e)) a ha h0
theorem PuF.len (h : PuF w0 w F b L lim op T) : Calls Try.prog 10 #[.pointer (some ⟨b, 0, none⟩)] w fun e w' => e = .returned (.int .i64 L.length) ∧ w = w' := by
  obtain ⟨O, h1, hO⟩ := h.ex
  exact uLen_in O b L lim op T w h1
theorem PuF.room (h : PuF w0 w F b L lim op T) : Calls Try.prog 11 #[.pointer (some ⟨b, 0, none⟩)] w fun e w' => e = .returned (.int .i64 ((lim - L.length : Nat) : Int)) ∧ ∃ n, w' = w.drewN n := by
  obtain ⟨O, h1, hO⟩ := h.ex
  exact uRoom_in O b L lim op T w h1
theorem PuF.isopen (h : PuF w0 w F b L lim op T) : Calls Try.prog 13 #[.pointer (some ⟨b, 0, none⟩)] w fun e w' => e = .returned (.bool op) ∧ w = w' := by
  obtain ⟨O, h1, hO⟩ := h.ex
  exact uOpen_in O b L lim op T w h1
end
end Go.Proofs.Ytibiiagdhdmpiaa
