/- One call of both pumps. -/
import Derived.Test.YtibiiagdhdmpiaaUl
import Derived.Deep.RegionHeldLaw
import Derived.Deep.Cut
namespace Go.Proofs.Ytibiiagdhdmpiaa
open Go.RowKit
set_option linter.unusedVariables false
set_option maxRecDepth 100000
set_option maxHeartbeats 4000000

abbrev PS := List UInt8 × Bool × Option (List Hd)
/-- What a call of a script leaves. -/
def plU (lim : Nat) (s : PS) (x : POp) : PS :=
  if x.1 = 0 then (putL s.2.1 s.1 lim x.2.2.2.2.1, s.2.1, s.2.2) else if x.1 = 1 then s else if x.1 = 2 then (doneL s.1 x.2.1, s.2.1, s.2.2) else if x.1 = 3 then (s.1, false, s.2.2) else if x.1 = 4 then (s.1, false, tailT s.2.1 s.2.2 x.2.2.2.2.2.2.2) else if x.1 = 5 then (s.1, s.2.1, lastT s.1 s.2.2) else ([], false, none)
theorem newF {wa W w4 : World} {n c : Nat} (hW : Fr (fun _ => False) wa W) (h : Fr (fun k => (Value.slice (some ⟨wa.heap.size, 0, none⟩) n c).ownBlock = some k) W w4) : Fr (fun _ => False) wa w4 := by
  have h2 : Fr (fun k => (Value.slice (some ⟨wa.heap.size, 0, none⟩) n c).ownBlock = some k) wa w4 := (hW.mono (fun _ _ e => e.elim)).trans h
  exact h2.mono (fun k hk e => by simp only [Value.ownBlock, Option.some.injEq] at e; omega)
theorem newB {wa W : World} {a4 : Option Addr} {n4 c4 n c : Nat} (hW : wa.heap.size ≤ W.heap.size) (h : (Value.slice a4 n4 c4).ownBlock = (Value.slice (some ⟨wa.heap.size, 0, none⟩) n c).ownBlock ∨ ∃ k, (Value.slice a4 n4 c4).ownBlock = some k ∧ W.heap.size ≤ k) (a : Addr) (ha : a4 = some a) : wa.heap.size ≤ a.block := by
  subst ha
  rcases h with e | ⟨k, e, hk⟩
  · simp only [Value.ownBlock, Option.some.injEq] at e; omega
  · simp only [Value.ownBlock, Option.some.injEq] at e; omega
section
variable {w0 wr : World} {b c : Nat} {L : List UInt8} {op : Bool} {T : Option (List Hd)} {lim : Nat}
theorem uplay1 (h : TwU w0 b c L lim op T wr) (n : Int) (bp : Option Addr) (bc : Nat) (bs : List UInt8) (lp : Option Addr) (lc : Nat) (l : List Hd) (hx : POpAt w0 (1, n, bp, bc, bs, lp, lc, l)) : Calls Try.prog 9 #[.pointer (some ⟨b, 0, none⟩), .pointer (some ⟨c, 0, none⟩), .agg #[.int .i64 1, .int .i64 n, .slice bp bs.length bc, .slice lp l.length lc]] wr fun e w' => e = .returned (.bool true) ∧ TwU w0 b c L lim op T w' := by
  have HX : Hid (POpAt w0 (1, n, bp, bc, bs, lp, lc, l)) := hx
  obtain ⟨N, hN⟩ : ∃ N, bs.length = N := ⟨_, rfl⟩
  obtain ⟨M, hM⟩ : ∃ M, l.length = M := ⟨_, rfl⟩
  rw [hN, hM]
  have HNN : Hid (bs.length = N) := hN
  have HMM : Hid (l.length = M) := hM
  have HO0 : Hid (BxU w0 b c L op T L op T lim wr.heap.size #[.int .i64 1, .int .i64 n, .slice bp N bc, .slice lp M lc] (wr.alloc (.cells #[.int .i64 1, .int .i64 n, .slice bp N bc, .slice lp M lc] 34))) := h.boxed #[.int .i64 1, .int .i64 n, .slice bp N bc, .slice lp M lc]
  clear h hx hN hM
  go_enter Try.func9, Try.ntmps9
  go_upto_region 1 with (fail)
  obtain ⟨wa, hwa⟩ : ∃ wa, wa = wr.alloc (.cells #[.int .i64 1, .int .i64 n, .slice bp N bc, .slice lp M lc] 34) := ⟨_, rfl⟩
  obtain ⟨go, hgo⟩ : ∃ go, go = wr.heap.size := ⟨_, rfl⟩
  have HO : Hid (BxU w0 b c L op T L op T lim go #[.int .i64 1, .int .i64 n, .slice bp N bc, .slice lp M lc] wa) := by rw [hwa, hgo]; exact HO0.out
  rw [← hwa, ← hgo]
  clear hwa hgo HO0
  have o0 : wa.cell? ⟨go, 0, none⟩ = some (.int .i64 1) := cell_of_heap HO.out.box rfl
  have o1 : wa.cell? ⟨go, 1, none⟩ = some (.int .i64 n) := cell_of_heap HO.out.box rfl
  have o2 : wa.cell? ⟨go, 2, none⟩ = some (.slice bp N bc) := cell_of_heap HO.out.box rfl
  have o3 : wa.cell? ⟨go, 3, none⟩ = some (.slice lp M lc) := cell_of_heap HO.out.box rfl
  obtain ⟨m, hm⟩ : ∃ m : Nat, (m : Int) = max 0 (min n L.length) := ⟨(max 0 (min n L.length)).toNat, by omega⟩
  obtain ⟨B, hB⟩ : ∃ B, endB m L op T = B := ⟨_, rfl⟩
  obtain ⟨X, hX⟩ : ∃ X, L.take m = X := ⟨_, rfl⟩
  have hXl : X.length = m := by rw [← hX, List.length_take]; omega
  have K1 := HO.out.next n m hm
  have K2 : ∀ W, Hid (BxU w0 b c L op T L op T lim go #[.int .i64 1, .int .i64 n, .slice bp N bc, .slice lp M lc] W) → Calls Try.prog 26 #[.pointer (some ⟨c, 0, none⟩), .int .i64 n] W fun e w9 => ∃ a k, e = .returned (.tuple #[.slice a m k, .bool B]) ∧ SrcAt w9 a X ∧ BxU w0 b c L op T L op T lim go #[.int .i64 1, .int .i64 n, .slice bp N bc, .slice lp M lc] w9 ∧ Fr (fun _ => False) W w9 := fun W hW => by
    have KK := hW.out.rnext n m hm
    rw [hB, hX] at KK
    exact KK
  rw [hB, hX] at K1
  have HC : Hid (∀ (w : World) (a : Option Addr) (k : Nat), SrcAt w a X → (convert 31 9 (.slice a m k)).run Try.prog w = .ok (sv8 X) w) := fun w a k hs => string_of 31 9 5 Try.underlying31 Try.underlying9 Try.underlying5 hs m k hXl
  have hsv : sv8 X = .string ⟨X.toArray⟩ := rfl
  obtain ⟨sx, hsx⟩ : ∃ sx : ByteArray, sx = ⟨X.toArray⟩ := ⟨_, rfl⟩
  rw [hsv, ← hsx] at HC
  have ss := str_same sx
  clear hm hB hX hsv hsx hXl
  go_wp2_with (first
    | (go_at_call 16; refine K1.mono ?_; clear K1; rintro e w2 ⟨a1, rfl, s1, x2⟩; have X2 : Hid (BxU w0 b c L op T L op T lim go #[.int .i64 1, .int .i64 n, .slice bp N bc, .slice lp M lc] w2) := x2; have S1 : Hid (SrcAt w2 a1 X) := s1; have q1 : w2.cell? ⟨go, 1, none⟩ = some (.int .i64 n) := cell_of_heap x2.box rfl; clear s1 x2)
    | (go_at_call 26; refine (K2 w2 X2).mono ?_; clear K2; rintro e w3 ⟨a2, k2, rfl, s2, x3, f3⟩; have X3 : Hid (BxU w0 b c L op T L op T lim go #[.int .i64 1, .int .i64 n, .slice bp N bc, .slice lp M lc] w3) := x3; have v1 := HC.out w3 a1 m (S1.out.fr f3 (fun _ _ _ => id)); have v2 := HC.out w3 a2 k2 s2; clear s2 x3 f3))
  go_ret
  exact ⟨rfl, X3.out.two⟩
theorem uplay2 (h : TwU w0 b c L lim op T wr) (n : Int) (bp : Option Addr) (bc : Nat) (bs : List UInt8) (lp : Option Addr) (lc : Nat) (l : List Hd) (hx : POpAt w0 (2, n, bp, bc, bs, lp, lc, l)) : Calls Try.prog 9 #[.pointer (some ⟨b, 0, none⟩), .pointer (some ⟨c, 0, none⟩), .agg #[.int .i64 2, .int .i64 n, .slice bp bs.length bc, .slice lp l.length lc]] wr fun e w' => e = .returned (.bool true) ∧ TwU w0 b c (doneL L n) lim op T w' := by
  have HX : Hid (POpAt w0 (2, n, bp, bc, bs, lp, lc, l)) := hx
  obtain ⟨N, hN⟩ : ∃ N, bs.length = N := ⟨_, rfl⟩
  obtain ⟨M, hM⟩ : ∃ M, l.length = M := ⟨_, rfl⟩
  rw [hN, hM]
  have HNN : Hid (bs.length = N) := hN
  have HMM : Hid (l.length = M) := hM
  have HO0 : Hid (BxU w0 b c L op T L op T lim wr.heap.size #[.int .i64 2, .int .i64 n, .slice bp N bc, .slice lp M lc] (wr.alloc (.cells #[.int .i64 2, .int .i64 n, .slice bp N bc, .slice lp M lc] 34))) := h.boxed #[.int .i64 2, .int .i64 n, .slice bp N bc, .slice lp M lc]
  clear h hx hN hM
  go_enter Try.func9, Try.ntmps9
  go_upto_region 1 with (fail)
  obtain ⟨wa, hwa⟩ : ∃ wa, wa = wr.alloc (.cells #[.int .i64 2, .int .i64 n, .slice bp N bc, .slice lp M lc] 34) := ⟨_, rfl⟩
  obtain ⟨go, hgo⟩ : ∃ go, go = wr.heap.size := ⟨_, rfl⟩
  have HO : Hid (BxU w0 b c L op T L op T lim go #[.int .i64 2, .int .i64 n, .slice bp N bc, .slice lp M lc] wa) := by rw [hwa, hgo]; exact HO0.out
  rw [← hwa, ← hgo]
  clear hwa hgo HO0
  have o0 : wa.cell? ⟨go, 0, none⟩ = some (.int .i64 2) := cell_of_heap HO.out.box rfl
  have o1 : wa.cell? ⟨go, 1, none⟩ = some (.int .i64 n) := cell_of_heap HO.out.box rfl
  have o2 : wa.cell? ⟨go, 2, none⟩ = some (.slice bp N bc) := cell_of_heap HO.out.box rfl
  have o3 : wa.cell? ⟨go, 3, none⟩ = some (.slice lp M lc) := cell_of_heap HO.out.box rfl
  obtain ⟨E, hE⟩ : ∃ E, doneE L n = E := ⟨_, rfl⟩
  obtain ⟨LN, hLN⟩ : ∃ LN, doneL L n = LN := ⟨_, rfl⟩
  have K1 : ∀ W, Hid (Fr (fun _ => False) wa W) → Calls Try.prog 17 #[.pointer (some ⟨b, 0, none⟩), .int .i64 n] W fun e w' => e = .returned (.int .i64 E) ∧ Hid (BxU w0 b c LN op T L op T lim go #[.int .i64 2, .int .i64 n, .slice bp N bc, .slice lp M lc] w') := fun W hW => by
    have KK := (HO.out.later hW.out).done n
    rw [hE, hLN] at KK
    exact KK
  have K2 : ∀ W, Hid (BxU w0 b c LN op T L op T lim go #[.int .i64 2, .int .i64 n, .slice bp N bc, .slice lp M lc] W) → Calls Try.prog 27 #[.pointer (some ⟨c, 0, none⟩), .int .i64 n] W fun e w' => e = .returned (.int .i64 E) ∧ Hid (BxU w0 b c LN op T LN op T lim go #[.int .i64 2, .int .i64 n, .slice bp N bc, .slice lp M lc] w') := fun W hW => by
    have KK := hW.out.rdone n
    rw [hE, hLN] at KK
    exact KK
  have HLN : Hid (doneL L n = LN) := hLN
  have W1 : ∀ k, Hid (Fr (fun _ => False) wa (wa.drewN k)) := fun k => (Fr.refl _ _).drewN k
  have W2 : Hid (Fr (fun _ => False) wa wa.drew) := (Fr.refl _ _).drew
  have W3 : Hid (Fr (fun _ => False) wa wa) := Fr.refl _ _
  clear hE hLN
  go_upto_region 9 with (fail)
  go_region_held_law (fun w' => w'.cell? ⟨go, 1, none⟩ = some (.int .i64 n)) (first | exact o1 | exact cell_of_heap X2.out.box rfl | exact cell_of_heap X3.out.box rfl) (first | (go_at_call 17; refine (K1 _ (by first | exact W3 | exact W2 | exact W1 _)).mono ?_; rintro e w2 ⟨rfl, X2⟩) | (go_at_call 27; refine (K2 _ (by first | exact X2)).mono ?_; rintro e w3 ⟨rfl, X3⟩))
  clear K1 K2 W1 W2 W3 X2 o0 o1 o2 o3 HO
  go_wp2_with (fail)
  go_ret
  exact ⟨by simp, by rw [HLN.out]; exact X3.out.two⟩
theorem uplay3 (h : TwU w0 b c L lim op T wr) (n : Int) (bp : Option Addr) (bc : Nat) (bs : List UInt8) (lp : Option Addr) (lc : Nat) (l : List Hd) (hx : POpAt w0 (3, n, bp, bc, bs, lp, lc, l)) : Calls Try.prog 9 #[.pointer (some ⟨b, 0, none⟩), .pointer (some ⟨c, 0, none⟩), .agg #[.int .i64 3, .int .i64 n, .slice bp bs.length bc, .slice lp l.length lc]] wr fun e w' => e = .returned (.bool true) ∧ TwU w0 b c L lim false T w' := by
  have HX : Hid (POpAt w0 (3, n, bp, bc, bs, lp, lc, l)) := hx
  obtain ⟨N, hN⟩ : ∃ N, bs.length = N := ⟨_, rfl⟩
  obtain ⟨M, hM⟩ : ∃ M, l.length = M := ⟨_, rfl⟩
  rw [hN, hM]
  have HNN : Hid (bs.length = N) := hN
  have HMM : Hid (l.length = M) := hM
  have HO0 : Hid (BxU w0 b c L op T L op T lim wr.heap.size #[.int .i64 3, .int .i64 n, .slice bp N bc, .slice lp M lc] (wr.alloc (.cells #[.int .i64 3, .int .i64 n, .slice bp N bc, .slice lp M lc] 34))) := h.boxed #[.int .i64 3, .int .i64 n, .slice bp N bc, .slice lp M lc]
  clear h hx hN hM
  go_enter Try.func9, Try.ntmps9
  go_upto_region 1 with (fail)
  obtain ⟨wa, hwa⟩ : ∃ wa, wa = wr.alloc (.cells #[.int .i64 3, .int .i64 n, .slice bp N bc, .slice lp M lc] 34) := ⟨_, rfl⟩
  obtain ⟨go, hgo⟩ : ∃ go, go = wr.heap.size := ⟨_, rfl⟩
  have HO : Hid (BxU w0 b c L op T L op T lim go #[.int .i64 3, .int .i64 n, .slice bp N bc, .slice lp M lc] wa) := by rw [hwa, hgo]; exact HO0.out
  rw [← hwa, ← hgo]
  clear hwa hgo HO0
  have o0 : wa.cell? ⟨go, 0, none⟩ = some (.int .i64 3) := cell_of_heap HO.out.box rfl
  have o1 : wa.cell? ⟨go, 1, none⟩ = some (.int .i64 n) := cell_of_heap HO.out.box rfl
  have o2 : wa.cell? ⟨go, 2, none⟩ = some (.slice bp N bc) := cell_of_heap HO.out.box rfl
  have o3 : wa.cell? ⟨go, 3, none⟩ = some (.slice lp M lc) := cell_of_heap HO.out.box rfl
  obtain ⟨E, hE⟩ : ∃ E, shutE op = E := ⟨_, rfl⟩
  have K1 := HO.out.shut
  rw [hE] at K1
  have K2 : ∀ W, Hid (BxU w0 b c L false T L op T lim go #[.int .i64 3, .int .i64 n, .slice bp N bc, .slice lp M lc] W) → Calls Try.prog 28 #[.pointer (some ⟨c, 0, none⟩)] W fun e w' => e = .returned (.int .i64 E) ∧ BxU w0 b c L false T L false T lim go #[.int .i64 3, .int .i64 n, .slice bp N bc, .slice lp M lc] w' := fun W hW => by
    have KK := hW.out.rshut
    rw [hE] at KK
    exact KK
  clear hE
  go_wp2_with (first
    | (go_at_call 19; refine K1.mono ?_; clear K1; rintro e w2 ⟨rfl, x2⟩; have X2 : Hid (BxU w0 b c L false T L op T lim go #[.int .i64 3, .int .i64 n, .slice bp N bc, .slice lp M lc] w2) := x2; clear x2)
    | (go_at_call 28; refine (K2 w2 X2).mono ?_; clear K2; rintro e w3 ⟨rfl, x3⟩; have X3 : Hid (BxU w0 b c L false T L false T lim go #[.int .i64 3, .int .i64 n, .slice bp N bc, .slice lp M lc] w3) := x3; clear x3))
  go_ret
  exact ⟨by simp, X3.out.two⟩
theorem uplay5 (h : TwU w0 b c L lim op T wr) (n : Int) (bp : Option Addr) (bc : Nat) (bs : List UInt8) (lp : Option Addr) (lc : Nat) (l : List Hd) (hx : POpAt w0 (5, n, bp, bc, bs, lp, lc, l)) : Calls Try.prog 9 #[.pointer (some ⟨b, 0, none⟩), .pointer (some ⟨c, 0, none⟩), .agg #[.int .i64 5, .int .i64 n, .slice bp bs.length bc, .slice lp l.length lc]] wr fun e w' => e = .returned (.bool true) ∧ TwU w0 b c L lim op (lastT L T) w' := by
  have HX : Hid (POpAt w0 (5, n, bp, bc, bs, lp, lc, l)) := hx
  obtain ⟨N, hN⟩ : ∃ N, bs.length = N := ⟨_, rfl⟩
  obtain ⟨M, hM⟩ : ∃ M, l.length = M := ⟨_, rfl⟩
  rw [hN, hM]
  have HNN : Hid (bs.length = N) := hN
  have HMM : Hid (l.length = M) := hM
  have HO0 : Hid (BxU w0 b c L op T L op T lim wr.heap.size #[.int .i64 5, .int .i64 n, .slice bp N bc, .slice lp M lc] (wr.alloc (.cells #[.int .i64 5, .int .i64 n, .slice bp N bc, .slice lp M lc] 34))) := h.boxed #[.int .i64 5, .int .i64 n, .slice bp N bc, .slice lp M lc]
  clear h hx hN hM
  go_enter Try.func9, Try.ntmps9
  go_upto_region 1 with (fail)
  obtain ⟨wa, hwa⟩ : ∃ wa, wa = wr.alloc (.cells #[.int .i64 5, .int .i64 n, .slice bp N bc, .slice lp M lc] 34) := ⟨_, rfl⟩
  obtain ⟨go, hgo⟩ : ∃ go, go = wr.heap.size := ⟨_, rfl⟩
  have HO : Hid (BxU w0 b c L op T L op T lim go #[.int .i64 5, .int .i64 n, .slice bp N bc, .slice lp M lc] wa) := by rw [hwa, hgo]; exact HO0.out
  rw [← hwa, ← hgo]
  clear hwa hgo HO0
  have o0 : wa.cell? ⟨go, 0, none⟩ = some (.int .i64 5) := cell_of_heap HO.out.box rfl
  have o1 : wa.cell? ⟨go, 1, none⟩ = some (.int .i64 n) := cell_of_heap HO.out.box rfl
  have o2 : wa.cell? ⟨go, 2, none⟩ = some (.slice bp N bc) := cell_of_heap HO.out.box rfl
  have o3 : wa.cell? ⟨go, 3, none⟩ = some (.slice lp M lc) := cell_of_heap HO.out.box rfl
  obtain ⟨F, hF⟩ : ∃ F, (lastO L T).isSome = F := ⟨_, rfl⟩
  obtain ⟨l2, hl2⟩ : ∃ l2, (lastO L T).getD [] = l2 := ⟨_, rfl⟩
  obtain ⟨T2, hT2⟩ : ∃ T2, lastT L T = T2 := ⟨_, rfl⟩
  obtain ⟨Q, hQ⟩ : ∃ Q, l2.length = Q := ⟨_, rfl⟩
  have K1 := HO.out.last
  rw [hF, hl2, hT2, hQ] at K1
  have K2 : ∀ W, Hid (BxU w0 b c L op T2 L op T lim go #[.int .i64 5, .int .i64 n, .slice bp N bc, .slice lp M lc] W) → Calls Try.prog 30 #[.pointer (some ⟨c, 0, none⟩)] W fun e w9 => ∃ q k, e = .returned (.tuple #[.slice q Q k, .bool F]) ∧ HL w9 q k l2 ∧ BxU w0 b c L op T2 L op T2 lim go #[.int .i64 5, .int .i64 n, .slice bp N bc, .slice lp M lc] w9 ∧ ∀ q k l, HL W q k l → HL w9 q k l := fun W hW => by
    have KK := hW.out.rlast
    rw [hF, hl2, hT2, hQ] at KK
    exact KK
  have K3 : Hid (∀ (W : World) (q q' : Option Addr) (k k' : Nat), HL W q k l2 → HL W q' k' l2 → Calls Try.prog 21 #[.slice q Q k, .slice q' Q k'] W fun e w' => e = .returned (.bool true) ∧ Fr (fun _ => False) W w') := fun W q q' k k' h1 h2 => by
    have KK := uheaders_in q q' k k' l2 W h1 h2
    rw [hQ] at KK
    exact KK
  have HT2 : Hid (lastT L T = T2) := hT2
  clear hF hl2 hT2 hQ
  go_wp2_with (first
    | (go_at_call 20; refine K1.mono ?_; clear K1; rintro e w2 ⟨q1, k1, rfl, s1, x2⟩; have X2 : Hid (BxU w0 b c L op T2 L op T lim go #[.int .i64 5, .int .i64 n, .slice bp N bc, .slice lp M lc] w2) := x2; have S1 : Hid (HL w2 q1 k1 l2) := s1; clear s1 x2)
    | (go_at_call 30; refine (K2 w2 X2).mono ?_; clear K2; rintro e w3 ⟨q2, k2, rfl, s2, x3, f3⟩; have X3 : Hid (BxU w0 b c L op T2 L op T2 lim go #[.int .i64 5, .int .i64 n, .slice bp N bc, .slice lp M lc] w3) := x3; have K4 := K3.out w3 q1 q2 k1 k2 (f3 _ _ _ S1.out) s2; clear s2 x3 f3)
    | (go_at_call 21; refine K4.mono ?_; clear K4; rintro e w4 ⟨rfl, f4⟩; have X4 : Hid (BxU w0 b c L op T2 L op T2 lim go #[.int .i64 5, .int .i64 n, .slice bp N bc, .slice lp M lc] w4) := X3.out.later f4; clear f4))
  go_ret
  exact ⟨by simp, by rw [HT2.out]; exact X4.out.two⟩
theorem uplay6 (h : TwU w0 b c L lim op T wr) (wh : Int) (hw : ∀ k : Int, 0 ≤ k → k ≤ 5 → wh ≠ k) (n : Int) (bp : Option Addr) (bc : Nat) (bs : List UInt8) (lp : Option Addr) (lc : Nat) (l : List Hd) (hx : POpAt w0 (wh, n, bp, bc, bs, lp, lc, l)) : Calls Try.prog 9 #[.pointer (some ⟨b, 0, none⟩), .pointer (some ⟨c, 0, none⟩), .agg #[.int .i64 wh, .int .i64 n, .slice bp bs.length bc, .slice lp l.length lc]] wr fun e w' => e = .returned (.bool true) ∧ TwU w0 b c [] lim false none w' := by
  have a0 : (wh == 0) = false := by rw [beq_eq_false_iff_ne]; exact hw 0 (by decide) (by decide)
  have b0 : decide (wh = 0) = false := decide_eq_false (hw 0 (by decide) (by decide))
  have a1 : (wh == 1) = false := by rw [beq_eq_false_iff_ne]; exact hw 1 (by decide) (by decide)
  have b1 : decide (wh = 1) = false := decide_eq_false (hw 1 (by decide) (by decide))
  have a2 : (wh == 2) = false := by rw [beq_eq_false_iff_ne]; exact hw 2 (by decide) (by decide)
  have b2 : decide (wh = 2) = false := decide_eq_false (hw 2 (by decide) (by decide))
  have a3 : (wh == 3) = false := by rw [beq_eq_false_iff_ne]; exact hw 3 (by decide) (by decide)
  have b3 : decide (wh = 3) = false := decide_eq_false (hw 3 (by decide) (by decide))
  have a4 : (wh == 4) = false := by rw [beq_eq_false_iff_ne]; exact hw 4 (by decide) (by decide)
  have b4 : decide (wh = 4) = false := decide_eq_false (hw 4 (by decide) (by decide))
  have a5 : (wh == 5) = false := by rw [beq_eq_false_iff_ne]; exact hw 5 (by decide) (by decide)
  have b5 : decide (wh = 5) = false := decide_eq_false (hw 5 (by decide) (by decide))
  clear hw
  have HX : Hid (POpAt w0 (wh, n, bp, bc, bs, lp, lc, l)) := hx
  obtain ⟨N, hN⟩ : ∃ N, bs.length = N := ⟨_, rfl⟩
  obtain ⟨M, hM⟩ : ∃ M, l.length = M := ⟨_, rfl⟩
  rw [hN, hM]
  have HNN : Hid (bs.length = N) := hN
  have HMM : Hid (l.length = M) := hM
  have HO0 : Hid (BxU w0 b c L op T L op T lim wr.heap.size #[.int .i64 wh, .int .i64 n, .slice bp N bc, .slice lp M lc] (wr.alloc (.cells #[.int .i64 wh, .int .i64 n, .slice bp N bc, .slice lp M lc] 34))) := h.boxed #[.int .i64 wh, .int .i64 n, .slice bp N bc, .slice lp M lc]
  clear h hx hN hM
  go_enter Try.func9, Try.ntmps9
  go_upto_region 1 with (fail)
  obtain ⟨wa, hwa⟩ : ∃ wa, wa = wr.alloc (.cells #[.int .i64 wh, .int .i64 n, .slice bp N bc, .slice lp M lc] 34) := ⟨_, rfl⟩
  obtain ⟨go, hgo⟩ : ∃ go, go = wr.heap.size := ⟨_, rfl⟩
  have HO : Hid (BxU w0 b c L op T L op T lim go #[.int .i64 wh, .int .i64 n, .slice bp N bc, .slice lp M lc] wa) := by rw [hwa, hgo]; exact HO0.out
  rw [← hwa, ← hgo]
  clear hwa hgo HO0
  have o0 : wa.cell? ⟨go, 0, none⟩ = some (.int .i64 wh) := cell_of_heap HO.out.box rfl
  have o1 : wa.cell? ⟨go, 1, none⟩ = some (.int .i64 n) := cell_of_heap HO.out.box rfl
  have o2 : wa.cell? ⟨go, 2, none⟩ = some (.slice bp N bc) := cell_of_heap HO.out.box rfl
  have o3 : wa.cell? ⟨go, 3, none⟩ = some (.slice lp M lc) := cell_of_heap HO.out.box rfl
  have K1 := HO.out.cut
  have K2 : ∀ W, Hid (BxU w0 b c [] false none L op T lim go #[.int .i64 wh, .int .i64 n, .slice bp N bc, .slice lp M lc] W) → Calls Try.prog 31 #[.pointer (some ⟨c, 0, none⟩)] W fun e w' => e = .returned (.tuple #[]) ∧ BxU w0 b c [] false none [] false none lim go #[.int .i64 wh, .int .i64 n, .slice bp N bc, .slice lp M lc] w' := fun W hW => hW.out.rcut
  go_wp2_with (first
    | (go_at_call 22; refine K1.mono ?_; clear K1; rintro e w2 ⟨rfl, x2⟩; have X2 : Hid (BxU w0 b c [] false none L op T lim go #[.int .i64 wh, .int .i64 n, .slice bp N bc, .slice lp M lc] w2) := x2; clear x2)
    | (go_at_call 31; refine (K2 w2 X2).mono ?_; clear K2; rintro e w3 ⟨rfl, x3⟩; have X3 : Hid (BxU w0 b c [] false none [] false none lim go #[.int .i64 wh, .int .i64 n, .slice bp N bc, .slice lp M lc] w3) := x3; clear x3))
  go_ret
  exact ⟨rfl, X3.out.two⟩
end
end Go.Proofs.Ytibiiagdhdmpiaa
