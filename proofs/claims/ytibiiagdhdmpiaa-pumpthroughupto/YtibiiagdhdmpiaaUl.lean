/- Both pumps side by side; whether two lists are the same. -/
import Derived.Test.YtibiiagdhdmpiaaUk
import Derived.Test.YtibiiagdhdmpiaaUi
import Derived.Test.YtibiiagdhdmpiaaL20
import Derived.Laws.StructEq
namespace Go.Proofs.Ytibiiagdhdmpiaa
open Go.RowKit
set_option linter.unusedVariables false
set_option maxRecDepth 100000
set_option maxHeartbeats 4000000

theorem str_same (a : ByteArray) : (a.toList == a.toList) = true := beq_self_eq_true _
theorem uheaders_in (q q' : Option Addr) (c c' : Nat) (l : List Hd) (w : World) (h : HL w q c l) (h' : HL w q' c' l) : Calls Try.prog 21 #[.slice q l.length c, .slice q' l.length c'] w fun e w' => e = .returned (.bool true) ∧ Fr (fun _ => False) w w' := by
  have HA : Hid (HL w q c l) := h
  have HB : Hid (HL w q' c' l) := h'
  have hfew := h.few
  obtain ⟨len, hlen⟩ : ∃ len, l.length = len := ⟨_, rfl⟩
  have HN : Hid (l.length = len) := hlen
  rw [hlen] at hfew ⊢
  clear h h' hlen
  go_enter Try.func21, Try.ntmps21
  go_wp2_with (fail)
  go_loopw [5] (fun x5 wr => ∃ i : Nat, x5 = .int .i64 (i : Int) ∧ i ≤ len ∧ Fr (fun _ => False) w wr) (fun x5 _ => len - (intOf x5).toNat)
  case atStart => exact ⟨0, rfl, by omega, Fr.refl _ _⟩
  case round =>
    obtain ⟨i, rfl, hi, hf⟩ := hrel
    by_cases hlt : i < len
    · have hlt2 : (i : Int) < (len : Int) := by omega
      obtain ⟨x, hx⟩ : ∃ x, l[i]? = some x := ⟨_, List.getElem?_eq_getElem (by rw [HN.out]; exact hlt)⟩
      obtain ⟨b, o, rfl, hb, c0, c1, c2, -⟩ := (HA.out.fr hf (fun _ _ _ => id)).cells i x hx
      obtain ⟨b', o', rfl, hb', d0, d1, d2, -⟩ := (HB.out.fr hf (fun _ _ _ => id)).cells i x hx
      obtain ⟨xn, xv, xs⟩ := x
      dsimp only at c0 c1 c2 d0 d1 d2
      have HF : Hid (Fr (fun _ => False) w wr) := hf
      have s1 := str_same xn
      have s2 := str_same xv
      clear hx hf
      go_wp2_with (fail)
      go_region
      go_wp2_with (fail)
      go_roundw
      case rel => exact ⟨i + 1, by go_num, by omega, HF.out.drew⟩
      case measure => simp [intOf]; omega
    · have hlt2 : ¬ (i : Int) < (len : Int) := by omega
      go_wp2_with (fail)
      go_ret
      exact ⟨rfl, hf⟩

/-- Both pumps and the box of a call, all made since w0. -/
structure BxU (w0 : World) (b c : Nat) (L1 : List UInt8) (o1 : Bool) (T1 : Option (List Hd)) (L2 : List UInt8) (o2 : Bool) (T2 : Option (List Hd)) (lim go : Nat) (cur : Array Value) (w : World) : Prop where
  ex : ∃ OP OR : Nat → Prop, PuAt w OP b L1 lim o1 T1 ∧ RuAt w OR c L2 lim o2 T2 ∧ (∀ k, OP k → w0.heap.size ≤ k ∧ k ≠ go) ∧ (∀ k, OR k → w0.heap.size ≤ k ∧ k ≠ go) ∧ ∀ k, OP k → ¬ OR k
  box : w.heap[go]? = some (.cells cur 34 (0, 0))
  fr : Fr (fun _ => False) w0 w
/-- Both pumps, all made since w0. -/
structure TwU (w0 : World) (b c : Nat) (L : List UInt8) (lim : Nat) (op : Bool) (T : Option (List Hd)) (w : World) : Prop where
  ex : ∃ OP OR : Nat → Prop, PuAt w OP b L lim op T ∧ RuAt w OR c L lim op T ∧ (∀ k, OP k → w0.heap.size ≤ k) ∧ (∀ k, OR k → w0.heap.size ≤ k) ∧ ∀ k, OP k → ¬ OR k
  fr : Fr (fun _ => False) w0 w
section
variable {w0 w w' : World} {b c : Nat} {L1 L2 L1' L2' : List UInt8} {o1 o2 o1' o2' : Bool} {T1 T2 T1' T2' : Option (List Hd)} {lim go : Nat} {cur : Array Value}
theorem TwU.boxed {L : List UInt8} {op : Bool} {T : Option (List Hd)} (h : TwU w0 b c L lim op T w) (cur : Array Value) : BxU w0 b c L op T L op T lim w.heap.size cur (w.alloc (.cells cur 34)) := by
  obtain ⟨OP, OR, h1, h2, k1, k2, k3⟩ := h.ex
  have f : Fr (fun _ => False) w (w.alloc (.cells cur 34)) := (Fr.refl _ _).alloc _
  exact ⟨⟨OP, OR, h1.quiet f, h2.quiet f, fun k hk => ⟨k1 k hk, fun e => by have := h1.lt k hk; omega⟩, fun k hk => ⟨k2 k hk, fun e => by have := h2.lt k hk; omega⟩, k3⟩, heap_alloc_new w _, h.fr.trans f⟩
theorem BxU.two {L : List UInt8} {op : Bool} {T : Option (List Hd)} (h : BxU w0 b c L op T L op T lim go cur w) : TwU w0 b c L lim op T w := by
  obtain ⟨OP, OR, h1, h2, k1, k2, k3⟩ := h.ex
  exact ⟨⟨OP, OR, h1, h2, fun k hk => (k1 k hk).1, fun k hk => (k2 k hk).1, k3⟩, h.fr⟩
theorem BxU.later (h : BxU w0 b c L1 o1 T1 L2 o2 T2 lim go cur w) (f : Fr (fun _ => False) w w') : BxU w0 b c L1 o1 T1 L2 o2 T2 lim go cur w' := by
  obtain ⟨OP, OR, h1, h2, k1, k2, k3⟩ := h.ex
  exact ⟨⟨OP, OR, h1.quiet f, h2.quiet f, k1, k2, k3⟩, (f.block go (lt_of_heap h.box) id).trans h.box, h.fr.trans f⟩
theorem TwU.later {L : List UInt8} {op : Bool} {T : Option (List Hd)} (h : TwU w0 b c L lim op T w) (f : Fr (fun _ => False) w w') : TwU w0 b c L lim op T w' := by
  obtain ⟨OP, OR, h1, h2, k1, k2, k3⟩ := h.ex
  exact ⟨⟨OP, OR, h1.quiet f, h2.quiet f, k1, k2, k3⟩, h.fr.trans f⟩
theorem BxU.afterP {OP OR : Nat → Prop} (h2 : RuAt w OR c L2 lim o2 T2) (k1 : ∀ k, OP k → w0.heap.size ≤ k ∧ k ≠ go) (k2 : ∀ k, OR k → w0.heap.size ≤ k ∧ k ≠ go) (k3 : ∀ k, OP k → ¬ OR k) (hb : w.heap[go]? = some (.cells cur 34 (0, 0))) (fr : Fr (fun _ => False) w0 w)
    (s : PuS w w' OP b L1' lim o1' T1') : BxU w0 b c L1' o1' T1' L2 o2 T2 lim go cur w' := by
  obtain ⟨O', h', f, hk⟩ := s
  have hgo := lt_of_heap hb
  refine ⟨⟨O', OR, h', h2.fr f (fun k hk e => k3 k e hk), fun k hk' => ?_, k2, fun k hk' hr => ?_⟩, (f.block go hgo (fun e => (k1 go e).2 rfl)).trans hb, ?_⟩
  · rcases hk k hk' with e | e
    · exact k1 k e
    · exact ⟨Nat.le_trans fr.size e, fun e2 => by omega⟩
  · rcases hk k hk' with e | e
    · exact k3 k e hr
    · have := h2.lt k hr; omega
  · have f2 : Fr OP w0 w' := (fr.mono (fun _ _ e => e.elim)).trans f
    exact f2.mono (fun k hk e => by have := (k1 k e).1; omega)
theorem BxU.afterR {OP OR : Nat → Prop} (h1 : PuAt w OP b L1 lim o1 T1) (k1 : ∀ k, OP k → w0.heap.size ≤ k ∧ k ≠ go) (k2 : ∀ k, OR k → w0.heap.size ≤ k ∧ k ≠ go) (k3 : ∀ k, OP k → ¬ OR k) (hb : w.heap[go]? = some (.cells cur 34 (0, 0))) (fr : Fr (fun _ => False) w0 w)
    (s : RuS w w' OR c L2' lim o2' T2') : BxU w0 b c L1 o1 T1 L2' o2' T2' lim go cur w' := by
  obtain ⟨O', h', f, hk⟩ := s
  have hgo := lt_of_heap hb
  refine ⟨⟨OP, O', h1.fr f (fun k hk e => k3 k hk e), h', k1, fun k hk' => ?_, fun k hp hr => ?_⟩, (f.block go hgo (fun e => (k2 go e).2 rfl)).trans hb, ?_⟩
  · rcases hk k hk' with e | e
    · exact k2 k e
    · exact ⟨Nat.le_trans fr.size e, fun e2 => by omega⟩
  · rcases hk k hr with e | e
    · exact k3 k hp e
    · have := h1.lt k hp; omega
  · have f2 : Fr OR w0 w' := (fr.mono (fun _ _ e => e.elim)).trans f
    exact f2.mono (fun k hk e => by have := (k2 k e).1; omega)
theorem BxU.put (h : BxU w0 b c L1 o1 T1 L2 o2 T2 lim go cur w) (f : Fr (fun _ => False) w w') (sp : Option Addr) (scap : Nat) (bs : List UInt8) (hs : SrcAt w' sp bs) (hcap : bs.length ≤ scap) (hap : ∀ a, sp = some a → 0 < bs.length → a.block < w0.heap.size ∨ w.heap.size ≤ a.block) :
    Calls Try.prog 15 #[.pointer (some ⟨b, 0, none⟩), .slice sp bs.length scap] w' fun e w9 => e = .returned (.int .i64 (putE o1 L1 lim bs)) ∧ BxU w0 b c (putL o1 L1 lim bs) o1 T1 L2 o2 T2 lim go cur w9 := by
  obtain ⟨OP, OR, h1, h2, k1, k2, k3⟩ := h.ex
  refine (uPut_as OP b L1 lim o1 T1 w' sp scap bs (h1.quiet f) hs hcap (fun a ha h0 => ⟨hs.lt a ha h0, fun hk => ?_⟩)).mono ?_
  · rcases hap a ha h0 with e | e
    · have := (k1 _ hk).1; omega
    · have := h1.lt _ hk; omega
  · rintro e w9 ⟨rfl, s⟩
    exact ⟨rfl, BxU.afterP (h2.quiet f) k1 k2 k3 ((f.block go (lt_of_heap h.box) id).trans h.box) (h.fr.trans f) s⟩
theorem BxU.rput (h : BxU w0 b c L1 o1 T1 L2 o2 T2 lim go cur w) (sp : Option Addr) (scap : Nat) (bs : List UInt8) (hs : SrcAt w sp bs) (hcap : bs.length ≤ scap) :
    Calls Try.prog 25 #[.pointer (some ⟨c, 0, none⟩), .slice sp bs.length scap] w fun e w9 => e = .returned (.int .i64 (putE o2 L2 lim bs)) ∧ BxU w0 b c L1 o1 T1 (putL o2 L2 lim bs) o2 T2 lim go cur w9 := by
  obtain ⟨OP, OR, h1, h2, k1, k2, k3⟩ := h.ex
  refine (ruPut_as OR c L2 lim o2 T2 w sp scap bs h2 hs hcap).mono ?_
  rintro e w9 ⟨rfl, s⟩
  exact ⟨rfl, BxU.afterR h1 k1 k2 k3 h.box h.fr s⟩
theorem BxU.tail (h : BxU w0 b c L1 o1 T1 L2 o2 T2 lim go cur w) (f : Fr (fun _ => False) w w') (q : Option Addr) (k : Nat) (l : List Hd) (hl : HL w' q k l) (hq : ∀ a, q = some a → 0 < l.length → a.block < w0.heap.size ∨ w.heap.size ≤ a.block) :
    Calls Try.prog 18 #[.pointer (some ⟨b, 0, none⟩), .slice q l.length k] w' fun e w9 => e = .returned (.int .i64 (shutE o1)) ∧ BxU w0 b c L1 false (tailT o1 T1 l) L2 o2 T2 lim go cur w9 := by
  obtain ⟨OP, OR, h1, h2, k1, k2, k3⟩ := h.ex
  refine (uTail_as OP b L1 lim o1 T1 w' q k l (h1.quiet f) hl (fun a ha h0 hk => ?_)).mono ?_
  · rcases hq a ha h0 with e | e
    · have := (k1 _ hk).1; omega
    · have := h1.lt _ hk; omega
  · rintro e w9 ⟨rfl, s⟩
    exact ⟨rfl, BxU.afterP (h2.quiet f) k1 k2 k3 ((f.block go (lt_of_heap h.box) id).trans h.box) (h.fr.trans f) s⟩
theorem BxU.rtail (h : BxU w0 b c L1 o1 T1 L2 o2 T2 lim go cur w) (q : Option Addr) (k : Nat) (l : List Hd) (hl : HL w q k l) (hq : ∀ a, q = some a → 0 < l.length → a.block < w0.heap.size) :
    Calls Try.prog 29 #[.pointer (some ⟨c, 0, none⟩), .slice q l.length k] w fun e w9 => e = .returned (.int .i64 (shutE o2)) ∧ BxU w0 b c L1 o1 T1 L2 false (tailT o2 T2 l) lim go cur w9 := by
  obtain ⟨OP, OR, h1, h2, k1, k2, k3⟩ := h.ex
  refine (ruTail_as OR c L2 lim o2 T2 w q k l h2 hl (fun a ha h0 hk => ?_)).mono ?_
  · have := (k2 _ hk).1
    have := hq a ha h0
    omega
  · rintro e w9 ⟨rfl, s⟩
    exact ⟨rfl, BxU.afterR h1 k1 k2 k3 h.box h.fr s⟩
theorem BxU.shut (h : BxU w0 b c L1 o1 T1 L2 o2 T2 lim go cur w) : Calls Try.prog 19 #[.pointer (some ⟨b, 0, none⟩)] w fun e w9 => e = .returned (.int .i64 (shutE o1)) ∧ BxU w0 b c L1 false T1 L2 o2 T2 lim go cur w9 := by
  obtain ⟨OP, OR, h1, h2, k1, k2, k3⟩ := h.ex
  refine (uEnd_as OP b L1 lim o1 T1 w h1).mono ?_
  rintro e w9 ⟨rfl, s⟩
  exact ⟨rfl, BxU.afterP h2 k1 k2 k3 h.box h.fr s⟩
theorem BxU.rshut (h : BxU w0 b c L1 o1 T1 L2 o2 T2 lim go cur w) : Calls Try.prog 28 #[.pointer (some ⟨c, 0, none⟩)] w fun e w9 => e = .returned (.int .i64 (shutE o2)) ∧ BxU w0 b c L1 o1 T1 L2 false T2 lim go cur w9 := by
  obtain ⟨OP, OR, h1, h2, k1, k2, k3⟩ := h.ex
  refine (ruEnd_as OR c L2 lim o2 T2 w h2).mono ?_
  rintro e w9 ⟨rfl, s⟩
  exact ⟨rfl, BxU.afterR h1 k1 k2 k3 h.box h.fr s⟩
theorem BxU.done (h : BxU w0 b c L1 o1 T1 L2 o2 T2 lim go cur w) (n : Int) : Calls Try.prog 17 #[.pointer (some ⟨b, 0, none⟩), .int .i64 n] w fun e w9 => e = .returned (.int .i64 (doneE L1 n)) ∧ BxU w0 b c (doneL L1 n) o1 T1 L2 o2 T2 lim go cur w9 := by
  obtain ⟨OP, OR, h1, h2, k1, k2, k3⟩ := h.ex
  refine (uDone_as OP b L1 lim o1 T1 w n h1).mono ?_
  rintro e w9 ⟨rfl, s⟩
  exact ⟨rfl, BxU.afterP h2 k1 k2 k3 h.box h.fr s⟩
theorem BxU.rdone (h : BxU w0 b c L1 o1 T1 L2 o2 T2 lim go cur w) (n : Int) : Calls Try.prog 27 #[.pointer (some ⟨c, 0, none⟩), .int .i64 n] w fun e w9 => e = .returned (.int .i64 (doneE L2 n)) ∧ BxU w0 b c L1 o1 T1 (doneL L2 n) o2 T2 lim go cur w9 := by
  obtain ⟨OP, OR, h1, h2, k1, k2, k3⟩ := h.ex
  refine (ruDone_as OR c L2 lim o2 T2 w n h2).mono ?_
  rintro e w9 ⟨rfl, s⟩
  exact ⟨rfl, BxU.afterR h1 k1 k2 k3 h.box h.fr s⟩
theorem BxU.cut (h : BxU w0 b c L1 o1 T1 L2 o2 T2 lim go cur w) : Calls Try.prog 22 #[.pointer (some ⟨b, 0, none⟩)] w fun e w9 => e = .returned (.tuple #[]) ∧ BxU w0 b c [] false none L2 o2 T2 lim go cur w9 := by
  obtain ⟨OP, OR, h1, h2, k1, k2, k3⟩ := h.ex
  refine (uCut_as OP b L1 lim o1 T1 w h1).mono ?_
  rintro e w9 ⟨rfl, s⟩
  exact ⟨rfl, BxU.afterP h2 k1 k2 k3 h.box h.fr s⟩
theorem BxU.rcut (h : BxU w0 b c L1 o1 T1 L2 o2 T2 lim go cur w) : Calls Try.prog 31 #[.pointer (some ⟨c, 0, none⟩)] w fun e w9 => e = .returned (.tuple #[]) ∧ BxU w0 b c L1 o1 T1 [] false none lim go cur w9 := by
  obtain ⟨OP, OR, h1, h2, k1, k2, k3⟩ := h.ex
  refine (ruCut_as OR c L2 lim o2 T2 w h2).mono ?_
  rintro e w9 ⟨rfl, s⟩
  exact ⟨rfl, BxU.afterR h1 k1 k2 k3 h.box h.fr s⟩
theorem BxU.next (h : BxU w0 b c L1 o1 T1 L2 o2 T2 lim go cur w) (n : Int) (m : Nat) (hm : (m : Int) = max 0 (min n L1.length)) :
    Calls Try.prog 16 #[.pointer (some ⟨b, 0, none⟩), .int .i64 n] w fun e w9 => ∃ a, e = .returned (.tuple #[.slice a m m, .bool (endB m L1 o1 T1)]) ∧ SrcAt w9 a (L1.take m) ∧ BxU w0 b c L1 o1 T1 L2 o2 T2 lim go cur w9 := by
  obtain ⟨OP, OR, h1, h2, k1, k2, k3⟩ := h.ex
  refine (uNext_in OP b L1 lim o1 T1 n m w h1 hm).mono ?_
  rintro e w9 ⟨d, rfl, hd, hh, f⟩
  exact ⟨_, rfl, SrcAt.row hh 0, h.later f⟩
theorem BxU.rnext (h : BxU w0 b c L1 o1 T1 L2 o2 T2 lim go cur w) (n : Int) (m : Nat) (hm : (m : Int) = max 0 (min n L2.length)) :
    Calls Try.prog 26 #[.pointer (some ⟨c, 0, none⟩), .int .i64 n] w fun e w9 => ∃ a k, e = .returned (.tuple #[.slice a m k, .bool (endB m L2 o2 T2)]) ∧ SrcAt w9 a (L2.take m) ∧ BxU w0 b c L1 o1 T1 L2 o2 T2 lim go cur w9 ∧ Fr (fun _ => False) w w9 := by
  obtain ⟨OP, OR, h1, h2, k1, k2, k3⟩ := h.ex
  refine (ruNext_as OR c L2 lim o2 T2 w n m h2 hm).mono ?_
  rintro e w9 ⟨a, k, rfl, hs, f⟩
  exact ⟨_, _, rfl, hs, h.later f, f⟩
theorem BxU.last (h : BxU w0 b c L1 o1 T1 L2 o2 T2 lim go cur w) : Calls Try.prog 20 #[.pointer (some ⟨b, 0, none⟩)] w fun e w9 => ∃ q k, e = .returned (.tuple #[.slice q ((lastO L1 T1).getD []).length k, .bool (lastO L1 T1).isSome]) ∧ HL w9 q k ((lastO L1 T1).getD []) ∧ BxU w0 b c L1 o1 (lastT L1 T1) L2 o2 T2 lim go cur w9 := by
  obtain ⟨OP, OR, h1, h2, k1, k2, k3⟩ := h.ex
  refine (uLast_in OP b L1 lim o1 T1 w h1).mono ?_
  rintro e w9 ⟨q, k, rfl, hl, hq, h', f, hz⟩
  exact ⟨q, k, rfl, hl, BxU.afterP h2 k1 k2 k3 h.box h.fr (PuS.same h' (f.mono (fun k _ e => by subst e; exact h1.ob)))⟩
theorem BxU.rlast (h : BxU w0 b c L1 o1 T1 L2 o2 T2 lim go cur w) : Calls Try.prog 30 #[.pointer (some ⟨c, 0, none⟩)] w fun e w9 => ∃ q k, e = .returned (.tuple #[.slice q ((lastO L2 T2).getD []).length k, .bool (lastO L2 T2).isSome]) ∧ HL w9 q k ((lastO L2 T2).getD []) ∧ BxU w0 b c L1 o1 T1 L2 o2 (lastT L2 T2) lim go cur w9 ∧ ∀ q k l, HL w q k l → HL w9 q k l := by
  obtain ⟨OP, OR, h1, h2, k1, k2, k3⟩ := h.ex
  refine (ruLast_as OR c L2 lim o2 T2 w h2).mono ?_
  rintro e w9 ⟨q, k, rfl, hl, s, f⟩
  refine ⟨q, k, rfl, hl, BxU.afterR h1 k1 k2 k3 h.box h.fr s, fun q k l hh => hh.fr f (fun a ha h0 e => ?_)⟩
  obtain ⟨r, v, tv, hx⟩ := h2.ex
  exact hh.off hx.blk (four_no_text (fun s e => by cases e) (fun s e => by cases e) (fun s e => by obtain ⟨q3, k3, rfl, -⟩ := hx.tail.form; cases e) (fun s e => by cases e)) a ha h0 e
end
end Go.Proofs.Ytibiiagdhdmpiaa
