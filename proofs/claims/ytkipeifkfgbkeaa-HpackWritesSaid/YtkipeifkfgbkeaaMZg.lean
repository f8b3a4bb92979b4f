/- The document's side: contracts of literal and updates. -/
import Derived.Test.YtkipeifkfgbkeaaMZd
import Derived.Test.YtkipeifkfgbkeaaJ2
import Derived.Test.YtkipeifkfgbkeaaY4
namespace Go.Proofs.Ytkipeifkfgbkeaa
open Go.RowKit
set_option maxRecDepth 100000
set_option maxHeartbeats 8000000
set_option linter.unusedVariables false

theorem gath_form {w w' : World} {v : Value} {B : List UInt8} {e : Ending} (he : e = .returned (.tuple #[v, .int .i64 0])) (g : Gath w w' v B) : ∃ a c, e = .returned (.tuple #[.slice a B.length c, .int .i64 0]) ∧ Gath w w' (.slice a B.length c) B := by
  obtain ⟨a, c, rfl, -⟩ := g.1.form
  rw [bv_length] at g he
  exact ⟨a, c, he, g⟩
theorem rliteral_in (f k i : Nat) (n u : ByteArray) (s : Bool) (w : World) (hf : f < 256) (h1 : 1 ≤ k) (h8 : k ≤ 8) (hz : f % 2 ^ k = 0) (hi : i ≤ 2109) (hn : n.size ≤ 16384) (hu : u.size ≤ 16384) :
    Calls Try.prog 36 #[.agg #[.string n, .string u, .bool s], .int .u8 f, .int .i64 k, .int .i64 i] w fun e w' => ∃ v, e = .returned v ∧ Gath w w' v (litB f k i n u) := by
  obtain ⟨j, hi1, hi2, hi3, hi4⟩ := info5
  have J1 : Hid (Try.prog.info? 5 = some j) := hi1
  have J2 : Hid (j.zero = some (.int .u8 0)) := hi2
  have J3 : Hid (j.size = 1) := hi3
  have J4 : Hid (j.bytes = 1) := hi4
  have hl := litB_len f k i n u hi hn hu
  have e1 : litB f k i n u = putInt f k i ++ (if i = 0 then putText (strB n) true else []) ++ putText (strB u) true := rfl
  have HB : Hid ((litB f k i n u).length ≤ 170000) := hl
  have KI : Hid (∀ w, Calls Try.prog 34 #[.int .u8 f, .int .i64 k, .int .i64 i] w fun e w' => ∃ a c, e = .returned (.tuple #[.slice a (putInt f k i).length c, .int .i64 0]) ∧ Gath w w' (.slice a (putInt f k i).length c) (putInt f k i)) := fun w => (rput_ok f k i w hf h1 h8 hz (by omega)).mono (fun e w' ⟨v, e1, g⟩ => gath_form e1 g)
  have KN : Hid (∀ w, Calls Try.prog 45 #[.string n, .bool true] w fun e w' => ∃ a c, e = .returned (.tuple #[.slice a (putText (strB n) true).length c, .int .i64 0]) ∧ Gath w w' (.slice a (putText (strB n) true).length c) (putText (strB n) true)) := fun w => (rtext_ok n true w hn).mono (fun e w' ⟨v, e1, g⟩ => gath_form e1 g)
  have KU : Hid (∀ w, Calls Try.prog 45 #[.string u, .bool true] w fun e w' => ∃ a c, e = .returned (.tuple #[.slice a (putText (strB u) true).length c, .int .i64 0]) ∧ Gath w w' (.slice a (putText (strB u) true).length c) (putText (strB u) true)) := fun w => (rtext_ok u true w hu).mono (fun e w' ⟨v, e1, g⟩ => gath_form e1 g)
  have HE : Hid (litB f k i n u = putInt f k i ++ (if i = 0 then putText (strB n) true else []) ++ putText (strB u) true) := e1
  have HX : Hid ((w.alloc (.cells #[.string n, .string u, .bool s] 59)).heap[w.heap.size]? = some (.cells #[.string n, .string u, .bool s] 59)) := heap_alloc_new _ _
  have HF0 : Hid (Fr (fun _ => False) w (w.alloc (.cells #[.string n, .string u, .bool s] 59))) := (Fr.refl _ w).alloc _
  generalize putInt f k i = PI at HE KI
  generalize putText (strB n) true = PN at HE KN
  generalize putText (strB u) true = PU at HE KU
  generalize litB f k i n u = L at HE HB ⊢
  clear hi1 hi2 hi3 hi4 hl e1 hf h1 h8 hz hn hu
  go_enter Try.func36, Try.ntmps36
  go_wp2_with (fail)
  generalize w.alloc (.cells #[.string n, .string u, .bool s] 59) = w0 at HX HF0 ⊢
  refine (KI.out _).mono ?_
  clear KI
  rintro e w1 ⟨a1, c1, rfl, g1⟩
  have HG1 : Hid (Gath w w1 (.slice a1 PI.length c1) PI) := g1.old HF0.out
  have HX1 : Hid (w1.heap[w.heap.size]? = some (.cells #[.string n, .string u, .bool s] 59)) := by show _ = _; rw [g1.2.2.block _ (lt_of_heap HX.out) id]; exact HX.out
  clear g1
  by_cases h0 : i = 0
  · subst h0
    have HE2 : Hid (L = PI ++ PN ++ PU) := by show _ = _; rw [HE.out, if_pos rfl]
    clear HE
    have q0 : w1.cell? ⟨w.heap.size, 0, none⟩ = some (.string n) := cell_of_heap HX1.out rfl
    go_wp2_with (fail)
    refine (KN.out _).mono ?_
    clear KN
    rintro e w2 ⟨a2, c2, rfl, g2⟩
    have HS2 : Hid (SrcAt w2 a2 PN) := own_src g2.1
    have HG2 : Hid (Gath w w2 (.slice a1 PI.length c1) PI) := HG1.out.fr g2.2.2
    have HX2 : Hid (w2.heap[w.heap.size]? = some (.cells #[.string n, .string u, .bool s] 59)) := by show _ = _; rw [g2.2.2.block _ (lt_of_heap HX1.out) id]; exact HX1.out
    have HB2 : Hid (PI.length + PN.length ≤ 225179981368371) := by show _ ≤ _; have := HB.out; rw [HE2.out] at this; simp at this; omega
    have hwl : w.heap.size < w2.heap.size := lt_of_heap HX2.out
    clear g2 q0
    go_wp2_with (at_builtin; refine wpList_gather rfl (.tmp 30) (.tmp 31) 35 35 rfl j Try.underlying35 Try.underlying35 J1.out J2.out J3.out J4.out (.slice a1 PI.length c1) PI (by go_simp) HG2.out a2 PN.length c2 (by go_simp) PN HS2.out rfl HB2.out ?_; intro a3 n3 c3 w3 Hn3 G3 Hf3; have HG3 : Hid (Gath w w3 (.slice a3 n3 c3) (PI ++ PN)) := G3; have HX3 : Hid (w3.heap[w.heap.size]? = some (.cells #[.string n, .string u, .bool s] 59)) := (show _ = _ from by rw [Hf3.out.block _ (lt_of_heap HX2.out) (fun e => absurd (HG2.out.1.fr_tag HX2.out e) (by decide))]; exact HX2.out); have q1 : w3.cell? ⟨w.heap.size, 1, none⟩ = some (.string u) := cell_of_heap HX3.out rfl; clear G3 Hf3)
    refine (KU.out _).mono ?_
    clear KU
    rintro e w4 ⟨a4, c4, rfl, g4⟩
    have HS4 : Hid (SrcAt w4 a4 PU) := own_src g4.1
    have HG4 : Hid (Gath w w4 (.slice a3 n3 c3) (PI ++ PN)) := HG3.out.fr g4.2.2
    have HB4 : Hid ((PI ++ PN).length + PU.length ≤ 225179981368371) := by show _ ≤ _; have := HB.out; rw [HE2.out] at this; simp at this ⊢; omega
    clear g4 q1
    go_wp2_with (at_builtin; refine wpList_gather rfl (.tmp 39) (.tmp 40) 35 35 rfl j Try.underlying35 Try.underlying35 J1.out J2.out J3.out J4.out (.slice a3 n3 c3) (PI ++ PN) (by go_simp) HG4.out a4 PU.length c4 (by go_simp) PU HS4.out rfl HB4.out ?_; intro a5 n5 c5 w5 Hn5 G5 Hf5; have HG5 : Hid (Gath w w5 (.slice a5 n5 c5) (PI ++ PN ++ PU)) := G5; clear G5 Hf5)
    go_ret
    exact ⟨_, rfl, HE2.out ▸ HG5.out⟩
  · have h0i : ¬ (i : Int) = 0 := by omega
    have HE2 : Hid (L = PI ++ PU) := by show _ = _; rw [HE.out, if_neg h0, List.append_nil]
    clear HE h0
    have q1 : w1.cell? ⟨w.heap.size, 1, none⟩ = some (.string u) := cell_of_heap HX1.out rfl
    go_wp2_with (fail)
    refine (KU.out _).mono ?_
    clear KU
    rintro e w4 ⟨a4, c4, rfl, g4⟩
    have HS4 : Hid (SrcAt w4 a4 PU) := own_src g4.1
    have HG4 : Hid (Gath w w4 (.slice a1 PI.length c1) PI) := HG1.out.fr g4.2.2
    have HB4 : Hid (PI.length + PU.length ≤ 225179981368371) := by show _ ≤ _; have := HB.out; rw [HE2.out] at this; simp at this ⊢; omega
    clear g4 q1
    go_wp2_with (at_builtin; refine wpList_gather rfl (.tmp 39) (.tmp 40) 35 35 rfl j Try.underlying35 Try.underlying35 J1.out J2.out J3.out J4.out (.slice a1 PI.length c1) PI (by go_simp) HG4.out a4 PU.length c4 (by go_simp) PU HS4.out rfl HB4.out ?_; intro a5 n5 c5 w5 Hn5 G5 Hf5; have HG5 : Hid (Gath w w5 (.slice a5 n5 c5) (PI ++ PU)) := G5; clear G5 Hf5)
    go_ret
    exact ⟨_, rfl, HE2.out ▸ HG5.out⟩

/-- The document's encoder. -/
structure REnc (w : World) (r t : Nat) (u : Value) (m : Nat) (E : List (ByteArray × ByteArray)) (told least : Nat) : Prop where
  at_ : w.heap[r]? = some (.cells #[.pointer (some ⟨t, 0, none⟩), .int .i64 (told : Int), .int .i64 (least : Int)] 43 (0, 0))
  tab : RIs w t u m E.reverse
  most : m ≤ 65536
  fits : total E ≤ m
  told_ : told ≤ 65536
theorem REnc.kept {S : Nat → Prop} {w w' : World} {r t : Nat} {u : Value} {m told least : Nat} {E : List (ByteArray × ByteArray)} (h : REnc w r t u m E told least) (f : Fr S w w') (hS : ∀ k, (k = r ∨ k = t ∨ u.ownBlock = some k) → ¬ S k) : REnc w' r t u m E told least :=
  ⟨by rw [f.block r (lt_of_heap h.at_) (hS r (.inl rfl))]; exact h.at_, h.tab.kept f (fun k hk => hS k (.inr hk)), h.most, h.fits, h.told_⟩
theorem REnc.below {w w' : World} {r t : Nat} {u : Value} {m told least : Nat} {E : List (ByteArray × ByteArray)} (h : REnc w r t u m E told least) (b : Below w.heap.size w w') : REnc w' r t u m E told least :=
  h.kept (S := fun _ => False) (Fr.of_below b) (fun _ _ => id)
theorem REnc.len {w : World} {r t : Nat} {u : Value} {m told least : Nat} {E : List (ByteArray × ByteArray)} (h : REnc w r t u m E told least) : E.length ≤ 2048 := fits_len h.fits h.most
theorem REnc.lt {w : World} {r t : Nat} {u : Value} {m told least : Nat} {E : List (ByteArray × ByteArray)} (h : REnc w r t u m E told least) {k : Nat} (hk : k = r ∨ k = t ∨ u.ownBlock = some k) : k < w.heap.size := by
  rcases hk with rfl | hk
  · exact lt_of_heap h.at_
  · exact h.tab.own_lt hk
theorem REnc.ne {w : World} {r t : Nat} {u : Value} {m told least : Nat} {E : List (ByteArray × ByteArray)} (h : REnc w r t u m E told least) : ¬ (r = t ∨ u.ownBlock = some r) := by
  rintro (rfl | hk)
  · have h2 := h.tab.at_; rw [h.at_] at h2; cases h2
  · rcases h.tab.row.2 with ⟨rfl, _⟩ | ⟨g, cap, cur, rfl, _, h2, _⟩
    · cases hk
    · cases hk; rw [h.at_] at h2; cases h2
/-- What updates leaves behind. -/
def RSPost (r t : Nat) (u : Value) (m : Nat) (E : List (ByteArray × ByteArray)) (B : List UInt8) (a : Value) (w w' : World) : Prop :=
  REnc w' r t u m E m 65537 ∧ OwnAt w' 5 a (bv B) ∧ (∀ k, a.ownBlock = some k → w.heap.size ≤ k) ∧ Fr (fun k => k = r) w w'
theorem updates_end {r t : Nat} {u : Value} {m told least : Nat} {E : List (ByteArray × ByteArray)} {w w3 : World} {a : Value} {B : List UInt8} (h : REnc w r t u m E told least) (g : Gath w w3 a B) :
    RSPost r t u m E B a w ((w3.setCell ⟨r, 1, none⟩ (.int .i64 (m : Int))).setCell ⟨r, 2, none⟩ (.int .i64 65537)) := by
  have h3 := h.below g.low
  have hx := lt_of_heap h.at_
  have f1 : Fr (fun k => k = r) w3 ((w3.setCell ⟨r, 1, none⟩ (.int .i64 (m : Int))).setCell ⟨r, 2, none⟩ (.int .i64 65537)) :=
    ((Fr.refl _ w3).setB 1 _).setB 2 _
  refine ⟨⟨heap_set (i := 2) _ (heap_set (i := 1) _ h3.at_), h3.tab.kept f1 (fun k hk e => h.ne (by subst e; exact hk)), h.most, h.fits, h.most⟩, g.1.fr f1 (fun k hk e => ?_), g.2.1, (Fr.of_below g.low).trans f1⟩
  have := g.2.1 k hk
  omega
theorem updates_in (r t : Nat) (u : Value) (m told least : Nat) (E : List (ByteArray × ByteArray)) (w : World) (h : REnc w r t u m E told least) :
    Calls Try.prog 21 #[.pointer (some ⟨r, 0, none⟩)] w fun e w' => ∃ a n c, e = .returned (.slice a n c) ∧ RSPost r t u m E (ups (upd told least m)) (.slice a n c) w w' := by
  obtain ⟨j, hi1, hi2, hi3, hi4⟩ := info5
  have J1 : Hid (Try.prog.info? 5 = some j) := hi1
  have J2 : Hid (j.zero = some (.int .u8 0)) := hi2
  have J3 : Hid (j.size = 1) := hi3
  have J4 : Hid (j.bytes = 1) := hi4
  have HH : Hid (REnc w r t u m E told least) := h
  have tm : w.cell? ⟨t, 0, none⟩ = some (.int .i64 (m : Int)) := cell_of_heap h.tab.at_ rfl
  have HC : Hid (∀ w', Below w.heap.size w w' → w'.cell? ⟨r, 0, none⟩ = some (.pointer (some ⟨t, 0, none⟩)) ∧ w'.cell? ⟨r, 1, none⟩ = some (.int .i64 (told : Int)) ∧ w'.cell? ⟨r, 2, none⟩ = some (.int .i64 (least : Int)) ∧ w'.frozen? ⟨r, 1, none⟩ = false ∧ w'.frozen? ⟨r, 2, none⟩ = false) := fun w' b => by
    have h' := h.below b
    exact ⟨cell_of_heap h'.at_ rfl, cell_of_heap h'.at_ rfl, cell_of_heap h'.at_ rfl, frozen_of_heap h'.at_, frozen_of_heap h'.at_⟩
  have KI : Hid (∀ (s : Nat) w', s ≤ 65536 → Calls Try.prog 34 #[.int .u8 32, .int .i64 5, .int .i64 s] w' fun e w2 => ∃ a c, e = .returned (.tuple #[.slice a (putInt 32 5 s).length c, .int .i64 0]) ∧ Hid (Gath w' w2 (.slice a (putInt 32 5 s).length c) (putInt 32 5 s))) := fun s w' hs => (rput_ok 32 5 s w' (by decide) (by decide) (by decide) (by decide) (by omega)).mono (fun e w2 ⟨v, e1, g⟩ => gath_form e1 g)
  have hm := h.most
  have ht := h.told_
  obtain ⟨c0, c1, c2, z1, z2⟩ := HC.out w.drew (Below.refl _ w).drew
  obtain ⟨x0, x1, x2, y1, y2⟩ := HC.out w (Below.refl _ w)
  have hmx : Try.prog.follows .mixedOrders = true := by kernel_rfl
  clear h hi1 hi2 hi3 hi4
  by_cases hA : least < told ∧ least < m
  · have a1 : (least : Int) < (told : Int) := by omega
    have a2 : (least : Int) < (m : Int) := by omega
    have HU : Hid (ups (upd told least m) = [] ++ putInt 32 5 least ++ putInt 32 5 m) := by show _ = _; rw [upd, if_pos hA]; simp [ups]
    have HN : Hid (([] ++ putInt 32 5 least).length + (putInt 32 5 m).length ≤ 225179981368371) := by show _ ≤ _; have := putInt_len 32 5 least; have := putInt_len 32 5 m; simp; omega
    have HN0 : Hid (([] : List UInt8).length + (putInt 32 5 least).length ≤ 225179981368371) := by show _ ≤ _; have := putInt_len 32 5 least; simp; omega
    have hleast : least ≤ 65536 := by omega
    clear hA
    by_cases hT : m = told
    · subst hT
      clear a2
      go_enter Try.func21, Try.ntmps21
      go_wp2_with (fail)
      go_region
      have HG0 : Hid (Gath w w.drew (.slice none 0 0) []) := Gath.ofNil ((Fr.refl _ w).drew)
      clear x0 x1 x2 y1 y2
      go_wp2_with (fail)
      refine (KI.out least _ hleast).mono ?_
      rintro e w1 ⟨a1, c1', rfl, G1⟩
      obtain ⟨x0, x1, x2, y1, y2⟩ := HC.out w1 ((Below.refl _ w).drew.trans G1.out.low)
      have HG1 : Hid (Gath w w1 (.slice none 0 0) []) := HG0.out.fr G1.out.2.2
      have HS1 : Hid (SrcAt w1 a1 (putInt 32 5 least)) := own_src G1.out.1
      go_wp2_with (at_builtin; refine wpList_gather rfl (.tmp 43) (.tmp 44) 35 35 rfl j Try.underlying35 Try.underlying35 J1.out J2.out J3.out J4.out (.slice none 0 0) [] (by go_simp) HG1.out a1 (putInt 32 5 least).length c1' (by go_simp) (putInt 32 5 least) HS1.out rfl HN0.out ?_; intro a2 n2 c2' w2 Hn2 G2 Hf2; obtain ⟨p0, p1, p2, r1, r2⟩ := HC.out w2 G2.low; have HG2 : Hid (Gath w w2 (.slice a2 n2 c2') ([] ++ putInt 32 5 least)) := G2; clear G2 Hf2)
      refine (KI.out m _ hm).mono ?_
      rintro e w3 ⟨a3, c3', rfl, G3⟩
      obtain ⟨u0, u1, u2, s1, s2⟩ := HC.out w3 ((HG2.out.low).trans (G3.out.low.mono HG2.out.2.2.size))
      have HG3 : Hid (Gath w w3 (.slice a2 n2 c2') ([] ++ putInt 32 5 least)) := HG2.out.fr G3.out.2.2
      have HS3 : Hid (SrcAt w3 a3 (putInt 32 5 m)) := own_src G3.out.1
      go_wp2_with (at_builtin; refine wpList_gather rfl (.tmp 60) (.tmp 61) 35 35 rfl j Try.underlying35 Try.underlying35 J1.out J2.out J3.out J4.out (.slice a2 n2 c2') ([] ++ putInt 32 5 least) (by go_simp) HG3.out a3 (putInt 32 5 m).length c3' (by go_simp) (putInt 32 5 m) HS3.out rfl HN.out ?_; intro a4 n4 c4' w4 Hn4 G4 Hf4; obtain ⟨q0, q1, q2, v1, v2⟩ := HC.out w4 G4.low; have HG4 : Hid (Gath w w4 (.slice a4 n4 c4') ([] ++ putInt 32 5 least ++ putInt 32 5 m)) := G4; clear G4 Hf4)
      go_ret
      refine ⟨_, _, _, rfl, ?_⟩
      rw [HU.out]
      exact updates_end HH.out HG4.out
    · have hTi : ¬ (m : Int) = (told : Int) := by omega
      go_enter Try.func21, Try.ntmps21
      go_wp2_with (fail)
      go_region
      have HG0 : Hid (Gath w w.drew (.slice none 0 0) []) := Gath.ofNil ((Fr.refl _ w).drew)
      clear x0 x1 x2 y1 y2
      go_wp2_with (fail)
      refine (KI.out least _ hleast).mono ?_
      rintro e w1 ⟨a1, c1', rfl, G1⟩
      obtain ⟨x0, x1, x2, y1, y2⟩ := HC.out w1 ((Below.refl _ w).drew.trans G1.out.low)
      have HG1 : Hid (Gath w w1 (.slice none 0 0) []) := HG0.out.fr G1.out.2.2
      have HS1 : Hid (SrcAt w1 a1 (putInt 32 5 least)) := own_src G1.out.1
      go_wp2_with (at_builtin; refine wpList_gather rfl (.tmp 43) (.tmp 44) 35 35 rfl j Try.underlying35 Try.underlying35 J1.out J2.out J3.out J4.out (.slice none 0 0) [] (by go_simp) HG1.out a1 (putInt 32 5 least).length c1' (by go_simp) (putInt 32 5 least) HS1.out rfl HN0.out ?_; intro a2 n2 c2' w2 Hn2 G2 Hf2; obtain ⟨p0, p1, p2, r1, r2⟩ := HC.out w2 G2.low; have HG2 : Hid (Gath w w2 (.slice a2 n2 c2') ([] ++ putInt 32 5 least)) := G2; clear G2 Hf2)
      refine (KI.out m _ hm).mono ?_
      rintro e w3 ⟨a3, c3', rfl, G3⟩
      obtain ⟨u0, u1, u2, s1, s2⟩ := HC.out w3 ((HG2.out.low).trans (G3.out.low.mono HG2.out.2.2.size))
      have HG3 : Hid (Gath w w3 (.slice a2 n2 c2') ([] ++ putInt 32 5 least)) := HG2.out.fr G3.out.2.2
      have HS3 : Hid (SrcAt w3 a3 (putInt 32 5 m)) := own_src G3.out.1
      go_wp2_with (at_builtin; refine wpList_gather rfl (.tmp 60) (.tmp 61) 35 35 rfl j Try.underlying35 Try.underlying35 J1.out J2.out J3.out J4.out (.slice a2 n2 c2') ([] ++ putInt 32 5 least) (by go_simp) HG3.out a3 (putInt 32 5 m).length c3' (by go_simp) (putInt 32 5 m) HS3.out rfl HN.out ?_; intro a4 n4 c4' w4 Hn4 G4 Hf4; obtain ⟨q0, q1, q2, v1, v2⟩ := HC.out w4 G4.low; have HG4 : Hid (Gath w w4 (.slice a4 n4 c4') ([] ++ putInt 32 5 least ++ putInt 32 5 m)) := G4; clear G4 Hf4)
      go_ret
      refine ⟨_, _, _, rfl, ?_⟩
      rw [HU.out]
      exact updates_end HH.out HG4.out
  · have HN : Hid (([] : List UInt8).length + (putInt 32 5 m).length ≤ 225179981368371) := by show _ ≤ _; have := putInt_len 32 5 m; simp; omega
    have hsh : (¬ (least : Int) < (told : Int)) ∨ ((least : Int) < (told : Int) ∧ ¬ (least : Int) < (m : Int)) := by omega
    by_cases hT : m = told
    · have HU : Hid (ups (upd told least m) = []) := by show _ = _; rw [upd, if_neg hA, if_pos hT]; rfl
      have hd : decide (least < told) = false := decide_eq_false (by omega)
      have hd2 : ¬ least < told := by omega
      clear hA hsh
      subst hT
      go_enter Try.func21, Try.ntmps21
      go_wp2_with (fail)
      go_region
      have HG0 : Hid (Gath w w.drew (.slice none 0 0) []) := Gath.ofNil ((Fr.refl _ w).drew)
      go_wp2_with (fail)
      go_ret
      refine ⟨_, _, _, rfl, ?_⟩
      rw [HU.out]
      exact updates_end HH.out HG0.out
    · have HU : Hid (ups (upd told least m) = [] ++ putInt 32 5 m) := by show _ = _; rw [upd, if_neg hA, if_neg hT]; simp [ups]
      have hTi : ¬ (m : Int) = (told : Int) := by omega
      clear hA hT
      rcases hsh with hs1 | ⟨hs1, hs2⟩
      · have hd : decide (least < told) = false := decide_eq_false (by omega)
        have hd2 : ¬ least < told := by omega
        go_enter Try.func21, Try.ntmps21
        go_wp2_with (fail)
        go_region
        have HG0 : Hid (Gath w w.drew (.slice none 0 0) []) := Gath.ofNil ((Fr.refl _ w).drew)
        clear x0 x1 x2 y1 y2
        go_wp2_with (fail)
        refine (KI.out m _ hm).mono ?_
        rintro e w1 ⟨a1, c1', rfl, G1⟩
        obtain ⟨x0, x1, x2, y1, y2⟩ := HC.out w1 ((Below.refl _ w).drew.trans G1.out.low)
        have HG1 : Hid (Gath w w1 (.slice none 0 0) []) := HG0.out.fr G1.out.2.2
        have HS1 : Hid (SrcAt w1 a1 (putInt 32 5 m)) := own_src G1.out.1
        go_wp2_with (at_builtin; refine wpList_gather rfl (.tmp 60) (.tmp 61) 35 35 rfl j Try.underlying35 Try.underlying35 J1.out J2.out J3.out J4.out (.slice none 0 0) [] (by go_simp) HG1.out a1 (putInt 32 5 m).length c1' (by go_simp) (putInt 32 5 m) HS1.out rfl HN.out ?_; intro a2 n2 c2' w2 Hn2 G2 Hf2; obtain ⟨p0, p1, p2, r1, r2⟩ := HC.out w2 G2.low; have HG2 : Hid (Gath w w2 (.slice a2 n2 c2') ([] ++ putInt 32 5 m)) := G2; clear G2 Hf2)
        go_ret
        refine ⟨_, _, _, rfl, ?_⟩
        rw [HU.out]
        exact updates_end HH.out HG2.out
      · have hd2 : ¬ least < m := by omega
        go_enter Try.func21, Try.ntmps21
        go_wp2_with (fail)
        go_region
        have HG0 : Hid (Gath w w.drew (.slice none 0 0) []) := Gath.ofNil ((Fr.refl _ w).drew)
        clear x0 x1 x2 y1 y2
        go_wp2_with (fail)
        refine (KI.out m _ hm).mono ?_
        rintro e w1 ⟨a1, c1', rfl, G1⟩
        obtain ⟨x0, x1, x2, y1, y2⟩ := HC.out w1 ((Below.refl _ w).drew.trans G1.out.low)
        have HG1 : Hid (Gath w w1 (.slice none 0 0) []) := HG0.out.fr G1.out.2.2
        have HS1 : Hid (SrcAt w1 a1 (putInt 32 5 m)) := own_src G1.out.1
        go_wp2_with (at_builtin; refine wpList_gather rfl (.tmp 60) (.tmp 61) 35 35 rfl j Try.underlying35 Try.underlying35 J1.out J2.out J3.out J4.out (.slice none 0 0) [] (by go_simp) HG1.out a1 (putInt 32 5 m).length c1' (by go_simp) (putInt 32 5 m) HS1.out rfl HN.out ?_; intro a2 n2 c2' w2 Hn2 G2 Hf2; obtain ⟨p0, p1, p2, r1, r2⟩ := HC.out w2 G2.low; have HG2 : Hid (Gath w w2 (.slice a2 n2 c2') ([] ++ putInt 32 5 m)) := G2; clear G2 Hf2)
        go_ret
        refine ⟨_, _, _, rfl, ?_⟩
        rw [HU.out]
        exact updates_end HH.out HG2.out
end Go.Proofs.Ytkipeifkfgbkeaa
/- The document's side: contract of one. -/
namespace Go.Proofs.Ytkipeifkfgbkeaa
open Go.RowKit
set_option maxRecDepth 100000
set_option maxHeartbeats 8000000
set_option linter.unusedVariables false

/-- On the way through one. -/
structure OSt (r t : Nat) (u0 u : Value) (m told least : Nat) (E : List (ByteArray × ByteArray)) (n v : ByteArray) (s : Bool) (w w' : World) : Prop where
  enc : REnc w' r t u m E told least
  box : w'.heap[w.heap.size]? = some (.cells #[.string n, .string v, .bool s] 59)
  own : ∀ k, u.ownBlock = some k → u0.ownBlock = some k ∨ w.heap.size ≤ k
  fr : Fr (fun k => k = t) w w'
theorem OSt.below {r t : Nat} {u0 u : Value} {m told least : Nat} {E : List (ByteArray × ByteArray)} {n v : ByteArray} {s : Bool} {w w1 w2 : World} (h : OSt r t u0 u m told least E n v s w w1) (b : Below w1.heap.size w1 w2) : OSt r t u0 u m told least E n v s w w2 :=
  ⟨h.enc.below b, heap_below b (lt_of_heap h.box) h.box, h.own, h.fr.trans (Fr.of_below b)⟩
theorem OSt.cells {r t : Nat} {u0 u : Value} {m told least : Nat} {E : List (ByteArray × ByteArray)} {n v : ByteArray} {s : Bool} {w w1 : World} (h : OSt r t u0 u m told least E n v s w w1) :
    w1.cell? ⟨r, 0, none⟩ = some (.pointer (some ⟨t, 0, none⟩)) ∧ w1.cell? ⟨t, 0, none⟩ = some (.int .i64 (m : Int)) ∧ w1.cell? ⟨w.heap.size, 0, none⟩ = some (.string n) ∧ w1.cell? ⟨w.heap.size, 1, none⟩ = some (.string v) ∧ w1.cell? ⟨w.heap.size, 2, none⟩ = some (.bool s) :=
  ⟨cell_of_heap h.enc.at_ rfl, cell_of_heap h.enc.tab.at_ rfl, cell_of_heap h.box rfl, cell_of_heap h.box rfl, cell_of_heap h.box rfl⟩
/-- What one leaves behind. -/
def OPost (r t : Nat) (u0 : Value) (m told least : Nat) (E : List (ByteArray × ByteArray)) (B : List UInt8) (a : Value) (w w' : World) : Prop :=
  ∃ u', REnc w' r t u' m E told least ∧ OwnAt w' 5 a (bv B) ∧ (∀ k, a.ownBlock = some k → w.heap.size ≤ k) ∧ Fr (fun k => k = t) w w' ∧ (∀ k, u'.ownBlock = some k → u0.ownBlock = some k ∨ w.heap.size ≤ k)
theorem OSt.out {r t : Nat} {u0 u : Value} {m told least : Nat} {E : List (ByteArray × ByteArray)} {n v : ByteArray} {s : Bool} {w w1 w2 : World} {a : Value} {B : List UInt8} (h : OSt r t u0 u m told least E n v s w w1) (g : Gath w1 w2 a B) : OPost r t u0 m told least E B a w w2 :=
  ⟨u, h.enc.below g.low, g.1, fun k hk => Nat.le_trans h.fr.size (g.2.1 k hk), h.fr.trans (Fr.of_below g.low), h.own⟩

theorem one_in (r t : Nat) (u : Value) (m told least : Nat) (E : List (ByteArray × ByteArray)) (n v : ByteArray) (s : Bool) (w : World) (h : REnc w r t u m E told least) (hs : Short (n, v, s)) :
    Calls Try.prog 22 #[.pointer (some ⟨r, 0, none⟩), .agg #[.string n, .string v, .bool s]] w fun e w' => ∃ a, e = .returned a ∧ OPost r t u m told least (nextE m E (n, v, s)) (encH m E (n, v, s)) a w w' := by
  have H0 : Hid (OSt r t u u m told least E n v s w (w.alloc (.cells #[.string n, .string v, .bool s] 59)).drew) := by
    refine ⟨h.below ((Below.refl _ w).alloc (Nat.le_refl _) _).drew, heap_alloc_new w _, fun k hk => .inl hk, ((Fr.refl _ w).alloc _).drew⟩
  have HC : Hid (∀ (w' : World), OSt r t u u m told least E n v s w w' → w'.cell? ⟨r, 0, none⟩ = some (.pointer (some ⟨t, 0, none⟩)) ∧ w'.cell? ⟨t, 0, none⟩ = some (.int .i64 (m : Int)) ∧ w'.cell? ⟨w.heap.size, 0, none⟩ = some (.string n) ∧ w'.cell? ⟨w.heap.size, 1, none⟩ = some (.string v) ∧ w'.cell? ⟨w.heap.size, 2, none⟩ = some (.bool s)) := fun w' h' => h'.cells
  have KF : Hid (∀ w', OSt r t u u m told least E n v s w w' → Calls Try.prog 35 #[.pointer (some ⟨t, 0, none⟩), .agg #[.string n, .string v, .bool s]] w' fun e w2 => ∃ (at_ : Nat) (b : Bool), e = .returned (.tuple #[.int .i64 (at_ : Int), .bool b]) ∧ Hid (FindOut E n v at_ b) ∧ Hid (OSt r t u u m told least E n v s w w2)) := fun w' h' =>
    (rFind_in t m u E n v s w' h'.enc.tab h'.enc.len).mono (fun e w2 ⟨⟨a, b, e1, e2⟩, e3⟩ => ⟨a, b, e1, e2, h'.below e3⟩)
  have KA : Hid (∀ w' a B w3, OSt r t u u m told least E n v s w w3 → Gath w3 w' a B → Calls Try.prog 37 #[.pointer (some ⟨t, 0, none⟩), .agg #[.string n, .string v, .bool s]] w' fun e w2 => e = .returned (.tuple #[]) ∧ Hid (OPost r t u m told least (added m E (n, v)) B a w w2) ∧ (w2.cell? ⟨r, 0, none⟩ = some (.pointer (some ⟨t, 0, none⟩)) ∧ w2.cell? ⟨w.heap.size, 0, none⟩ = some (.string n) ∧ w2.cell? ⟨w.heap.size, 1, none⟩ = some (.string v) ∧ w2.cell? ⟨w.heap.size, 2, none⟩ = some (.bool s))) := fun w' a B w3 h3 g => by
    have h' := h3.below g.low
    refine (rAdd_in t m u E n v s w' h'.enc.tab h'.enc.most (Nat.le_trans h'.enc.fits h'.enc.most) (by have := hs.1; simp only at this; omega) (by have := hs.2; simp only at this; omega)).mono ?_
    rintro e w2 ⟨rfl, u', a1, a2, a3⟩
    have hbx : w2.heap[w.heap.size]? = some (.cells #[.string n, .string v, .bool s] 59) := by rw [a3.block _ (lt_of_heap h'.box) (fun e => by have := h.lt (k := t) (.inr (.inl rfl)); omega)]; exact h'.box
    have hrx : w2.heap[r]? = some (.cells #[.pointer (some ⟨t, 0, none⟩), .int .i64 (told : Int), .int .i64 (least : Int)] 43 (0, 0)) := by rw [a3.block r (lt_of_heap h'.enc.at_) (fun e => h'.enc.ne (.inl e))]; exact h'.enc.at_
    refine ⟨rfl, ⟨u', ⟨hrx, a1, h'.enc.most, added_fits m E (n, v), h'.enc.told_⟩, g.1.fr a3 (fun k hk e => ?_), fun k hk => Nat.le_trans h3.fr.size (g.2.1 k hk), h'.fr.trans a3, fun k hk => ?_⟩, cell_of_heap hrx rfl, cell_of_heap hbx rfl, cell_of_heap hbx rfl, cell_of_heap hbx rfl⟩
    · have := g.2.1 k hk
      have := h3.enc.lt (k := t) (.inr (.inl rfl))
      omega
    · rcases a2 k hk with e | e
      · exact .inl e
      · exact .inr (Nat.le_trans h'.fr.size e)
  have KS : Hid (∀ w', OSt r t u u m told least E n v s w w' → Calls Try.prog 24 #[.agg #[.string n, .string v, .bool s]] w' fun e w2 => e = .returned (.int .i64 ((n.size + v.size + 32 : Nat) : Int)) ∧ Hid (OSt r t u u m told least E n v s w w2)) := fun w' h' =>
    (rSize_in n v s w' (by have := hs.1; simp only at this; omega) (by have := hs.2; simp only at this; omega)).mono (fun e w2 ⟨e1, e2⟩ => ⟨e1, by rw [e2]; exact h'.below ((Below.refl _ w').alloc (Nat.le_refl _) _)⟩)
  have KL1 : Hid (∀ (i : Nat) w', i ≤ 2109 → Calls Try.prog 36 #[.agg #[.string n, .string v, .bool s], .int .u8 16, .int .i64 4, .int .i64 i] w' fun e w2 => ∃ a, e = .returned a ∧ Hid (Gath w' w2 a (litB 16 4 i n v))) := fun i w' h5 => rliteral_in 16 4 i n v s w' (by decide) (by decide) (by decide) (by decide) h5 hs.1 hs.2
  have KL2 : Hid (∀ (i : Nat) w', i ≤ 2109 → Calls Try.prog 36 #[.agg #[.string n, .string v, .bool s], .int .u8 64, .int .i64 6, .int .i64 i] w' fun e w2 => ∃ a, e = .returned a ∧ Hid (Gath w' w2 a (litB 64 6 i n v))) := fun i w' h5 => rliteral_in 64 6 i n v s w' (by decide) (by decide) (by decide) (by decide) h5 hs.1 hs.2
  have KL3 : Hid (∀ (i : Nat) w', i ≤ 2109 → Calls Try.prog 36 #[.agg #[.string n, .string v, .bool s], .int .u8 0, .int .i64 4, .int .i64 i] w' fun e w2 => ∃ a, e = .returned a ∧ Hid (Gath w' w2 a (litB 0 4 i n v))) := fun i w' h5 => rliteral_in 0 4 i n v s w' (by decide) (by decide) (by decide) (by decide) h5 hs.1 hs.2
  have KI : Hid (∀ (i : Nat) w', i ≤ 2109 → Calls Try.prog 34 #[.int .u8 128, .int .i64 7, .int .i64 i] w' fun e w2 => ∃ a c, e = .returned (.tuple #[.slice a (putInt 128 7 i).length c, .int .i64 0]) ∧ Hid (Gath w' w2 (.slice a (putInt 128 7 i).length c) (putInt 128 7 i))) := fun i w' h1 => (rput_ok 128 7 i w' (by decide) (by decide) (by decide) (by decide) (by omega)).mono (fun e w2 ⟨v, e1, g⟩ => gath_form e1 g)
  have HE : Hid (∀ a b, FindOut E n v a b → a ≤ 2109 ∧ encH m E (n, v, s) = (if s = true then litB 16 4 a n v else if b = true then putInt 128 7 a else if n.size + v.size + 32 ≤ m then litB 64 6 a n v else litB 0 4 a n v) ∧ nextE m E (n, v, s) = (if s = true then E else if b = true then E else if n.size + v.size + 32 ≤ m then added m E (n, v) else E)) := fun a b hF => by
    have e := findF_of hF
    have hl := h.len
    have h1 := (findF_name (E := E) (n := n) (u := v)).1
    rw [e] at h1
    refine ⟨by simp only at h1; omega, ?_, ?_⟩
    · simp only [encH, e]
    · simp only [nextE, e]
  obtain ⟨sz, hsz⟩ : ∃ sz, n.size + v.size + 32 = sz := ⟨_, rfl⟩
  rw [hsz] at KS HE
  generalize encH m E (n, v, s) = B at HE ⊢
  generalize nextE m E (n, v, s) = E' at HE ⊢
  generalize added m E (n, v) = E2 at HE KA
  have hmx : Try.prog.follows .mixedOrders = true := by kernel_rfl
  obtain ⟨c0, ct, b0, b1, b2⟩ := HC.out _ H0.out
  clear h hs hsz
  go_enter Try.func22, Try.ntmps22
  go_wp2_with (fail)
  go_region_held_law (fun w' => w'.cell? ⟨r, 0, none⟩ = some (.pointer (some ⟨t, 0, none⟩)) ∧ w'.cell? ⟨w.heap.size, 0, none⟩ = some (.string n) ∧ w'.cell? ⟨w.heap.size, 1, none⟩ = some (.string v) ∧ w'.cell? ⟨w.heap.size, 2, none⟩ = some (.bool s)) (first | exact ⟨c0, b0, b1, b2⟩ | exact ⟨d0, y0, y1, y2⟩ | go_keep)
    (first | (go_at_call 35; refine (KF.out _ H0.out).mono ?_; rintro e w2 ⟨i, b, rfl, HF, H2⟩; obtain ⟨d0, dt, y0, y1, y2⟩ := HC.out _ H2.out))
  all_goals obtain ⟨hi, hB, hE'⟩ := HE.out i b HF.out
  all_goals clear HE KF HF H0 c0 ct b0 b1 b2
  all_goals by_cases hs1 : s = true
  · subst hs1
    rw [if_pos rfl] at hB hE'
    subst hB
    subst hE'
    go_wp2_with (first | (go_at_call 36; refine (KL1.out i _ hi).mono ?_; rintro e w3 ⟨a3, rfl, G3⟩))
    go_ret
    exact ⟨_, rfl, H2.out.out G3.out⟩
  · obtain rfl : s = false := by simpa using hs1
    rw [if_neg (by simp)] at hB hE'
    clear hs1
    by_cases hb1 : b = true
    · subst hb1
      rw [if_pos rfl] at hB hE'
      subst hB
      subst hE'
      go_wp2_with (first | (go_at_call 34; refine (KI.out i _ hi).mono ?_; rintro e w3 ⟨a3, c3, rfl, G3⟩))
      go_ret
      exact ⟨_, rfl, H2.out.out G3.out⟩
    · obtain rfl : b = false := by simpa using hb1
      rw [if_neg (by simp)] at hB hE'
      clear hb1
      have H2d : Hid (OSt r t u u m told least E n v false w w2.drew) := H2.out.below (Below.refl _ w2).drew
      by_cases hz : sz ≤ m
      · have hzi : (sz : Int) ≤ (m : Int) := by omega
        rw [if_pos hz] at hB hE'
        subst hB
        subst hE'
        clear hz
        go_wp2_with (fail)
        go_region_held_law (fun w' => w'.cell? ⟨r, 0, none⟩ = some (.pointer (some ⟨t, 0, none⟩)) ∧ w'.cell? ⟨t, 0, none⟩ = some (.int .i64 (m : Int)) ∧ w'.cell? ⟨w.heap.size, 0, none⟩ = some (.string n) ∧ w'.cell? ⟨w.heap.size, 1, none⟩ = some (.string v) ∧ w'.cell? ⟨w.heap.size, 2, none⟩ = some (.bool false)) (first | exact ⟨d0, dt, y0, y1, y2⟩ | exact ⟨f0, ft, z0, z1, z2⟩ | go_keep)
          (first | (go_at_call 24; refine (KS.out _ H2d.out).mono ?_; rintro e w3 ⟨rfl, H3⟩; obtain ⟨f0, ft, z0, z1, z2⟩ := HC.out _ H3.out))
        all_goals go_wp2_with (first | (go_at_call 36; refine (KL2.out i _ hi).mono ?_; rintro e w4 ⟨a4, rfl, G4⟩; obtain ⟨a4', c4', rfl, -⟩ := G4.out.1.form; obtain ⟨g0, gt, q0, q1, q2⟩ := HC.out _ ((H3.out.below G4.out.low).below (Below.refl _ w4).drew)))
        all_goals go_region_held_law (fun w' => w'.cell? ⟨r, 0, none⟩ = some (.pointer (some ⟨t, 0, none⟩)) ∧ w'.cell? ⟨w.heap.size, 0, none⟩ = some (.string n) ∧ w'.cell? ⟨w.heap.size, 1, none⟩ = some (.string v) ∧ w'.cell? ⟨w.heap.size, 2, none⟩ = some (.bool false)) (first | exact ⟨g0, q0, q1, q2⟩ | exact ⟨k0, l0, l1, l2⟩ | go_keep)
          (first | (go_at_call 37; refine (KA.out _ _ _ _ H3.out (G4.out.fr ((Fr.refl _ _).drew))).mono ?_; rintro e w5 ⟨rfl, H5, k0, l0, l1, l2⟩))
        all_goals go_wp2_with (fail)
        all_goals go_ret
        all_goals exact ⟨_, rfl, H5.out⟩
      · have hzi : ¬ (sz : Int) ≤ (m : Int) := by omega
        rw [if_neg hz] at hB hE'
        subst hB
        subst hE'
        clear hz
        go_wp2_with (fail)
        go_region_held_law (fun w' => w'.cell? ⟨r, 0, none⟩ = some (.pointer (some ⟨t, 0, none⟩)) ∧ w'.cell? ⟨t, 0, none⟩ = some (.int .i64 (m : Int)) ∧ w'.cell? ⟨w.heap.size, 0, none⟩ = some (.string n) ∧ w'.cell? ⟨w.heap.size, 1, none⟩ = some (.string v) ∧ w'.cell? ⟨w.heap.size, 2, none⟩ = some (.bool false)) (first | exact ⟨d0, dt, y0, y1, y2⟩ | exact ⟨f0, ft, z0, z1, z2⟩ | go_keep)
          (first | (go_at_call 24; refine (KS.out _ H2d.out).mono ?_; rintro e w3 ⟨rfl, H3⟩; obtain ⟨f0, ft, z0, z1, z2⟩ := HC.out _ H3.out))
        all_goals go_wp2_with (first | (go_at_call 36; refine (KL3.out i _ hi).mono ?_; rintro e w4 ⟨a4, rfl, G4⟩))
        all_goals go_ret
        all_goals exact ⟨_, rfl, H3.out.out G4.out⟩
end Go.Proofs.Ytkipeifkfgbkeaa
