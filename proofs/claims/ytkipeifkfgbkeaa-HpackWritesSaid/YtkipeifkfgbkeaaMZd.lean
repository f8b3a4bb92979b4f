/- Contracts of sizes, limit, Limit, Bytes, none, NewEncoder. -/
import Derived.Test.YtkipeifkfgbkeaaMZa
namespace Go.Proofs.Ytkipeifkfgbkeaa
open Go.RowKit
set_option maxRecDepth 100000
set_option maxHeartbeats 8000000
set_option linter.unusedVariables false

/-- What sizes leaves behind. -/
def SPost (x t : Nat) (v : Value) (m : Nat) (E : List (ByteArray × ByteArray)) (B : List UInt8) (a : Value) (w w' : World) : Prop :=
  EncX w' x t v m E m m ∧ OwnAt w' 5 a (bv B) ∧ (∀ k, a.ownBlock = some k → w.heap.size ≤ k) ∧ Fr (fun k => k = x) w w'
theorem sizes_end {x t : Nat} {v : Value} {m told least : Nat} {E : List (ByteArray × ByteArray)} {w w3 : World} {a : Value} {B : List UInt8} (h : EncX w x t v m E told least) (g : Gath w w3 a B) :
    SPost x t v m E B a w ((w3.setCell ⟨x, 1, none⟩ (.int .i64 (m : Int))).setCell ⟨x, 2, none⟩ (.int .i64 (m : Int))) := by
  have h3 := h.below g.low
  have hx := lt_of_heap h.at_
  have f1 : Fr (fun k => k = x) w3 ((w3.setCell ⟨x, 1, none⟩ (.int .i64 (m : Int))).setCell ⟨x, 2, none⟩ (.int .i64 (m : Int))) :=
    ((Fr.refl _ w3).setB 1 _).setB 2 _
  refine ⟨⟨heap_set (i := 2) _ (heap_set (i := 1) _ h3.at_), h3.tab.kept f1 (fun k hk e => h.ne (by subst e; exact hk)), h.most, h.fits, h.most, Nat.le_refl _⟩, g.1.fr f1 (fun k hk e => ?_), g.2.1, (Fr.of_below g.low).trans f1⟩
  have := g.2.1 k hk
  omega
theorem sizes_in (x t : Nat) (v : Value) (m told least : Nat) (E : List (ByteArray × ByteArray)) (w : World) (h : EncX w x t v m E told least) :
    Calls Try.prog 19 #[.pointer (some ⟨x, 0, none⟩)] w fun e w' => ∃ a n c, e = .returned (.slice a n c) ∧ SPost x t v m E (ups (upd told least m)) (.slice a n c) w w' := by
  obtain ⟨j, hi1, hi2, hi3, hi4⟩ := info5
  have J1 : Hid (Try.prog.info? 5 = some j) := hi1
  have J2 : Hid (j.zero = some (.int .u8 0)) := hi2
  have J3 : Hid (j.size = 1) := hi3
  have J4 : Hid (j.bytes = 1) := hi4
  have HH : Hid (EncX w x t v m E told least) := h
  have KM : Hid (Calls Try.prog 28 #[.pointer (some ⟨t, 0, none⟩)] w fun e w2 => e = .returned (.int .i64 (m : Int)) ∧ w = w2) := (tMost_in t m _ v w h.tab.at_).mono (fun e w2 ⟨e1, e2⟩ => ⟨e1, e2.symm⟩)
  have HC : Hid (∀ w', Below w.heap.size w w' → w'.cell? ⟨x, 0, none⟩ = some (.pointer (some ⟨t, 0, none⟩)) ∧ w'.cell? ⟨x, 1, none⟩ = some (.int .i64 (told : Int)) ∧ w'.cell? ⟨x, 2, none⟩ = some (.int .i64 (least : Int)) ∧ w'.frozen? ⟨x, 1, none⟩ = false ∧ w'.frozen? ⟨x, 2, none⟩ = false) := fun w' b => by
    have h' := h.below b
    exact ⟨cell_of_heap h'.at_ rfl, cell_of_heap h'.at_ rfl, cell_of_heap h'.at_ rfl, frozen_of_heap h'.at_, frozen_of_heap h'.at_⟩
  have KI : Hid (∀ (s : Nat) w', s ≤ 65536 → Calls Try.prog 29 #[.int .u8 32, .int .i64 5, .int .i64 s] w' fun e w2 => ∃ a c, e = .returned (.slice a (putInt 32 5 s).length c) ∧ Hid (Gath w' w2 (.slice a (putInt 32 5 s).length c) (putInt 32 5 s))) := fun s w' hs => integer_in 32 5 s w' (by decide) (by decide) (by decide) (by decide) (by omega)
  have hm := h.most
  have ht := h.told_
  have hl := h.least_
  obtain ⟨c0, c1, c2, z1, z2⟩ := HC.out w.drew (Below.refl _ w).drew
  obtain ⟨x0, x1, x2, y1, y2⟩ := HC.out w (Below.refl _ w)
  have hmx : Try.prog.follows .mixedOrders = true := by kernel_rfl
  clear h hi1 hi2 hi3 hi4
  by_cases hA : least < told ∧ least < m
  · have a1 : (least : Int) < (told : Int) := by omega
    have a2 : (least : Int) < (m : Int) := by omega
    have HU : Hid (ups (upd told least m) = [] ++ putInt 32 5 least ++ putInt 32 5 m) := by show _ = _; rw [upd, if_pos hA]; simp [ups]
    have HN : Hid (([] ++ putInt 32 5 least).length + (putInt 32 5 m).length ≤ 225179981368371) := by show _ ≤ _; have := putInt_len 32 5 least; have := putInt_len 32 5 m; simp; omega
    have HN0 : Hid (([] : List UInt8).length + (putInt 32 5 least).length ≤ 225179981368371) := by show _ ≤ _; have := putInt_len 32 5 least; simp; omega
    have hleast : least ≤ 65536 := by omega
    clear hA
    go_enter Try.func19, Try.ntmps19
    go_wp2_with (first | (go_at_call 28; refine KM.out.mono ?_; clear KM; rintro e w' ⟨rfl, rfl⟩))
    go_region
    have HG0 : Hid (Gath w w.drew (.slice none 0 0) []) := Gath.ofNil ((Fr.refl _ w).drew)
    clear x0 x1 x2 y1 y2
    go_wp2_with (fail)
    refine (KI.out least _ hleast).mono ?_
    rintro e w1 ⟨a1, c1', rfl, G1⟩
    obtain ⟨x0, x1, x2, y1, y2⟩ := HC.out w1 ((Below.refl _ w).drew.trans G1.out.low)
    have HG1 : Hid (Gath w w1 (.slice none 0 0) []) := HG0.out.fr G1.out.2.2
    have HS1 : Hid (SrcAt w1 a1 (putInt 32 5 least)) := own_src G1.out.1
    go_wp2_with (at_builtin; refine wpList_gather rfl (.tmp 29) (.tmp 34) 35 35 rfl j Try.underlying35 Try.underlying35 J1.out J2.out J3.out J4.out (.slice none 0 0) [] (by go_simp) HG1.out a1 (putInt 32 5 least).length c1' (by go_simp) (putInt 32 5 least) HS1.out rfl HN0.out ?_; intro a2 n2 c2' w2 Hn2 G2 Hf2; obtain ⟨p0, p1, p2, r1, r2⟩ := HC.out w2 G2.low; have HG2 : Hid (Gath w w2 (.slice a2 n2 c2') ([] ++ putInt 32 5 least)) := G2; clear G2 Hf2)
    refine (KI.out m _ hm).mono ?_
    rintro e w3 ⟨a3, c3', rfl, G3⟩
    obtain ⟨u0, u1, u2, s1, s2⟩ := HC.out w3 ((HG2.out.low).trans (G3.out.low.mono HG2.out.2.2.size))
    have HG3 : Hid (Gath w w3 (.slice a2 n2 c2') ([] ++ putInt 32 5 least)) := HG2.out.fr G3.out.2.2
    have HS3 : Hid (SrcAt w3 a3 (putInt 32 5 m)) := own_src G3.out.1
    go_wp2_with (at_builtin; refine wpList_gather rfl (.tmp 45) (.tmp 47) 35 35 rfl j Try.underlying35 Try.underlying35 J1.out J2.out J3.out J4.out (.slice a2 n2 c2') ([] ++ putInt 32 5 least) (by go_simp) HG3.out a3 (putInt 32 5 m).length c3' (by go_simp) (putInt 32 5 m) HS3.out rfl HN.out ?_; intro a4 n4 c4' w4 Hn4 G4 Hf4; obtain ⟨q0, q1, q2, v1, v2⟩ := HC.out w4 G4.low; have HG4 : Hid (Gath w w4 (.slice a4 n4 c4') ([] ++ putInt 32 5 least ++ putInt 32 5 m)) := G4; clear G4 Hf4)
    go_ret
    refine ⟨_, _, _, rfl, ?_⟩
    rw [HU.out]
    exact sizes_end HH.out HG4.out
  · have HNl := putInt_len 32 5 m
    have HN : Hid (([] : List UInt8).length + (putInt 32 5 m).length ≤ 225179981368371) := by show _ ≤ _; simp; omega
    have hsh : (¬ (least : Int) < (told : Int)) ∨ ((least : Int) < (told : Int) ∧ ¬ (least : Int) < (m : Int)) := by omega
    clear HNl
    by_cases hT : m = told
    · have HU : Hid (ups (upd told least m) = []) := by show _ = _; rw [upd, if_neg hA, if_pos hT]; rfl
      have hd : decide (least < told) = false := decide_eq_false (by omega)
      have hd2 : ¬ least < told := by omega
      clear hA hsh
      subst hT
      go_enter Try.func19, Try.ntmps19
      go_wp2_with (first | (go_at_call 28; refine KM.out.mono ?_; clear KM; rintro e w' ⟨rfl, rfl⟩))
      go_region
      have HG0 : Hid (Gath w w.drew (.slice none 0 0) []) := Gath.ofNil ((Fr.refl _ w).drew)
      go_wp2_with (fail)
      go_ret
      refine ⟨_, _, _, rfl, ?_⟩
      rw [HU.out]
      exact sizes_end HH.out HG0.out
    · have HU : Hid (ups (upd told least m) = [] ++ putInt 32 5 m) := by show _ = _; rw [upd, if_neg hA, if_neg hT]; simp [ups]
      have hTi : ¬ (m : Int) = (told : Int) := by omega
      clear hA hT
      rcases hsh with hs1 | ⟨hs1, hs2⟩
      · have hd : decide (least < told) = false := decide_eq_false (by omega)
        have hd2 : ¬ least < told := by omega
        go_enter Try.func19, Try.ntmps19
        go_wp2_with (first | (go_at_call 28; refine KM.out.mono ?_; clear KM; rintro e w' ⟨rfl, rfl⟩))
        go_region
        have HG0 : Hid (Gath w w.drew (.slice none 0 0) []) := Gath.ofNil ((Fr.refl _ w).drew)
        clear x0 x1 x2 y1 y2
        go_wp2_with (first
          | (go_at_call 29; refine (KI.out m _ hm).mono ?_; rintro e w1 ⟨a1, c1', rfl, G1⟩; obtain ⟨x0, x1, x2, y1, y2⟩ := HC.out w1 ((Below.refl _ w).drew.trans G1.out.low); have HG1 : Hid (Gath w w1 (.slice none 0 0) []) := HG0.out.fr G1.out.2.2; have HS1 : Hid (SrcAt w1 a1 (putInt 32 5 m)) := own_src G1.out.1)
          | (at_builtin; refine wpList_gather rfl (.tmp 45) (.tmp 47) 35 35 rfl j Try.underlying35 Try.underlying35 J1.out J2.out J3.out J4.out (.slice none 0 0) [] (by go_simp) HG1.out a1 (putInt 32 5 m).length c1' (by go_simp) (putInt 32 5 m) HS1.out rfl HN.out ?_; intro a2 n2 c2' w2 Hn2 G2 Hf2; obtain ⟨p0, p1, p2, r1, r2⟩ := HC.out w2 G2.low; have HG2 : Hid (Gath w w2 (.slice a2 n2 c2') ([] ++ putInt 32 5 m)) := G2; clear G2 Hf2))
        go_ret
        refine ⟨_, _, _, rfl, ?_⟩
        rw [HU.out]
        exact sizes_end HH.out HG2.out
      · go_enter Try.func19, Try.ntmps19
        go_wp2_with (first | (go_at_call 28; refine KM.out.mono ?_; clear KM; rintro e w' ⟨rfl, rfl⟩))
        go_region
        have HG0 : Hid (Gath w w.drew (.slice none 0 0) []) := Gath.ofNil ((Fr.refl _ w).drew)
        clear x0 x1 x2 y1 y2
        go_wp2_with (first
          | (go_at_call 29; refine (KI.out m _ hm).mono ?_; rintro e w1 ⟨a1, c1', rfl, G1⟩; obtain ⟨x0, x1, x2, y1, y2⟩ := HC.out w1 ((Below.refl _ w).drew.trans G1.out.low); have HG1 : Hid (Gath w w1 (.slice none 0 0) []) := HG0.out.fr G1.out.2.2; have HS1 : Hid (SrcAt w1 a1 (putInt 32 5 m)) := own_src G1.out.1)
          | (at_builtin; refine wpList_gather rfl (.tmp 45) (.tmp 47) 35 35 rfl j Try.underlying35 Try.underlying35 J1.out J2.out J3.out J4.out (.slice none 0 0) [] (by go_simp) HG1.out a1 (putInt 32 5 m).length c1' (by go_simp) (putInt 32 5 m) HS1.out rfl HN.out ?_; intro a2 n2 c2' w2 Hn2 G2 Hf2; obtain ⟨p0, p1, p2, r1, r2⟩ := HC.out w2 G2.low; have HG2 : Hid (Gath w w2 (.slice a2 n2 c2') ([] ++ putInt 32 5 m)) := G2; clear G2 Hf2))
        go_ret
        refine ⟨_, _, _, rfl, ?_⟩
        rw [HU.out]
        exact sizes_end HH.out HG2.out

/-- An encoder. -/
structure Enc (w : World) (e x t : Nat) (v : Value) (m : Nat) (E : List (ByteArray × ByteArray)) (told least : Nat) : Prop where
  at_ : w.heap[e]? = some (.cells #[.pointer (some ⟨x, 0, none⟩)] 53 (0, 0))
  enc : EncX w x t v m E told least
/-- Its blocks. -/
def EncB (e x t : Nat) (v : Value) (k : Nat) : Prop := k = e ∨ k = x ∨ k = t ∨ v.ownBlock = some k
theorem Enc.kept {S : Nat → Prop} {w w' : World} {e x t : Nat} {v : Value} {m told least : Nat} {E : List (ByteArray × ByteArray)} (h : Enc w e x t v m E told least) (f : Fr S w w') (hS : ∀ k, EncB e x t v k → ¬ S k) : Enc w' e x t v m E told least :=
  ⟨by rw [f.block e (lt_of_heap h.at_) (hS e (.inl rfl))]; exact h.at_, h.enc.kept f (fun k hk => hS k (.inr hk))⟩
theorem Enc.below {w w' : World} {e x t : Nat} {v : Value} {m told least : Nat} {E : List (ByteArray × ByteArray)} (h : Enc w e x t v m E told least) (b : Below w.heap.size w w') : Enc w' e x t v m E told least :=
  h.kept (S := fun _ => False) (Fr.of_below b) (fun _ _ => id)
theorem Enc.lt {w : World} {e x t : Nat} {v : Value} {m told least : Nat} {E : List (ByteArray × ByteArray)} (h : Enc w e x t v m E told least) {k : Nat} (hk : EncB e x t v k) : k < w.heap.size := by
  rcases hk with rfl | hk
  · exact lt_of_heap h.at_
  · exact h.enc.lt hk
theorem Enc.ne {w : World} {e x t : Nat} {v : Value} {m told least : Nat} {E : List (ByteArray × ByteArray)} (h : Enc w e x t v m E told least) : ¬ (e = x ∨ e = t ∨ v.ownBlock = some e) := by
  rintro (rfl | rfl | hk)
  · have h2 := h.enc.at_; rw [h.at_] at h2; cases h2
  · have h2 := h.enc.tab.at_; unfold TabAt at h2; rw [h.at_] at h2; cases h2
  · rcases h.enc.tab.row.2 with ⟨rfl, _⟩ | ⟨g, cap, cur, rfl, _, h2, _⟩
    · cases hk
    · cases hk; rw [h.at_] at h2; cases h2
/-- An encoder has turned: its blocks are those that it had, or new ones; nothing else has changed. -/
def EPost (e x t : Nat) (v : Value) (m told least : Nat) (E : List (ByteArray × ByteArray)) (w w' : World) : Prop :=
  ∃ v', Enc w' e x t v' m E told least ∧ Fr (EncB e x t v) w w' ∧ (∀ k, v'.ownBlock = some k → v.ownBlock = some k ∨ w.heap.size ≤ k)

theorem hnone_in (e x t : Nat) (v : Value) (m told least : Nat) (E : List (ByteArray × ByteArray)) (w : World) (h : Enc w e x t v m E told least) :
    Calls Try.prog 15 #[.pointer (some ⟨e, 0, none⟩)] w fun r w' => r = .returned (.bool false) ∧ w = w' := by
  have c0 : w.cell? ⟨e, 0, none⟩ = some (.pointer (some ⟨x, 0, none⟩)) := cell_of_heap h.at_ rfl
  clear h
  go_enter Try.func15, Try.ntmps15
  go_wp2_with (fail)
  go_ret
  exact ⟨rfl, rfl⟩
theorem hBytes_in (e x t : Nat) (v : Value) (m told least : Nat) (E : List (ByteArray × ByteArray)) (w : World) (h : Enc w e x t v m E told least) :
    Calls Try.prog 10 #[.pointer (some ⟨e, 0, none⟩)] w fun r w' => r = .returned (.int .i64 (total E : Int)) ∧ w = w' := by
  have c0 : w.cell? ⟨e, 0, none⟩ = some (.pointer (some ⟨x, 0, none⟩)) := cell_of_heap h.at_ rfl
  have c1 : w.cell? ⟨x, 0, none⟩ = some (.pointer (some ⟨t, 0, none⟩)) := cell_of_heap h.enc.at_ rfl
  have KN : Hid (Calls Try.prog 15 #[.pointer (some ⟨e, 0, none⟩)] w fun r w' => r = .returned (.bool false) ∧ w = w') := hnone_in e x t v m told least E w h
  have KB : Hid (Calls Try.prog 23 #[.pointer (some ⟨t, 0, none⟩)] w fun r w' => r = .returned (.int .i64 (total E : Int)) ∧ w = w') := (tBytes_in t m _ v w h.enc.tab.at_).mono (fun e w2 ⟨e1, e2⟩ => ⟨e1, e2.symm⟩)
  clear h
  go_enter Try.func10, Try.ntmps10
  go_wp2_with (first
    | (go_at_call 15; refine KN.out.mono ?_; rintro e w' ⟨rfl, rfl⟩)
    | (go_at_call 23; refine KB.out.mono ?_; rintro e w' ⟨rfl, rfl⟩))
  go_ret
  exact ⟨rfl, rfl⟩
theorem NewEncoder_in (n : Nat) (w : World) (hn : n ≤ 65536) :
    Calls Try.prog 4 #[.int .i64 (n : Int)] w fun r w' => ∃ e x t, r = .returned (.tuple #[.pointer (some ⟨e, 0, none⟩), .int .i64 0]) ∧ Enc w' e x t (.slice none 0 0) n [] n n ∧ Below w.heap.size w w' ∧ w.heap.size ≤ e ∧ w.heap.size ≤ x ∧ w.heap.size ≤ t := by
  have KN := New_in n w hn
  go_enter Try.func4, Try.ntmps4
  go_wp2_with (go_at_call 13; refine KN.mono ?_; clear KN; rintro e w' ⟨rfl, rfl⟩)
  go_ret2
  have h1 := heap_alloc_new w (.cells #[.bool true, .int .i64 (n : Int), .int .i64 0, .slice none 0 0] 66)
  have h2 := heap_alloc_new (w.alloc (.cells #[.bool true, .int .i64 (n : Int), .int .i64 0, .slice none 0 0] 66)) (.cells #[.pointer (some ⟨w.heap.size, 0, none⟩), .int .i64 (n : Int), .int .i64 (n : Int)] 51)
  have h3 := heap_alloc_new ((w.alloc (.cells #[.bool true, .int .i64 (n : Int), .int .i64 0, .slice none 0 0] 66)).alloc (.cells #[.pointer (some ⟨w.heap.size, 0, none⟩), .int .i64 (n : Int), .int .i64 (n : Int)] 51)) (.cells #[.pointer (some ⟨w.heap.size + 1, 0, none⟩)] 53)
  simp only [World.size_alloc] at h2 h3
  refine ⟨_, w.heap.size + 1, w.heap.size, rfl, ⟨h3, heap_of_alloc h2 _, ⟨heap_of_alloc (heap_of_alloc h1 _) _, rfl, .inl ⟨rfl, rfl⟩⟩, hn, by simp [total], hn, Nat.le_refl _⟩, ?_, by omega, by omega, Nat.le_refl _⟩
  exact (((Below.refl _ w).alloc (Nat.le_refl _) _).alloc (by simp) _).alloc (by simp; omega) _
theorem NewEncoder_bad (n : Int) (w : World) (hn : ¬ (0 ≤ n ∧ n ≤ 65536)) :
    Calls Try.prog 4 #[.int .i64 n] w fun r w' => r = .returned (.tuple #[.pointer none, .int .i64 1]) ∧ w = w' := by
  have KN : Hid (Calls Try.prog 13 #[.int .i64 n] w fun r w' => r = .returned (.tuple #[.pointer none, .int .i64 1]) ∧ w = w') := (New_not n w hn).mono (fun e w2 ⟨e1, e2⟩ => ⟨e1, e2.symm⟩)
  go_enter Try.func4, Try.ntmps4
  go_wp2_with (go_at_call 13; refine KN.out.mono ?_; clear KN; rintro e w' ⟨rfl, rfl⟩)
  go_ret2
  exact ⟨rfl, rfl⟩
theorem limit_in (x t : Nat) (v : Value) (m told least n : Nat) (E : List (ByteArray × ByteArray)) (w : World) (h : EncX w x t v m E told least) (hn : n ≤ 65536) :
    Calls Try.prog 16 #[.pointer (some ⟨x, 0, none⟩), .int .i64 (n : Int)] w fun r w' => r = .returned (.int .i64 0) ∧ ∃ v', EncX w' x t v' n (fallen (n : Int) E) told (min least n) ∧ Fr (fun k => k = x ∨ k = t ∨ v.ownBlock = some k) w w' ∧ v'.ownBlock = v.ownBlock := by
  have c0 : w.cell? ⟨x, 0, none⟩ = some (.pointer (some ⟨t, 0, none⟩)) := cell_of_heap h.at_ rfl
  have KR : Hid (Calls Try.prog 26 #[.pointer (some ⟨t, 0, none⟩), .int .i64 (n : Int)] w fun r w' => r = .returned (.int .i64 0) ∧ ∃ v', Hid (EncX w' x t v' n (fallen (n : Int) E) told least ∧ Fr (fun k => k = t ∨ v.ownBlock = some k) w w' ∧ v'.ownBlock = v.ownBlock)) := by
    refine (Resize_in t m n v E w h.tab hn (by have := h.fits; have := h.most; omega)).mono ?_
    rintro e w' ⟨rfl, v', a1, a2, a3⟩
    have hf := fallen_fits (n : Int) E (by omega)
    exact ⟨rfl, v', ⟨by rw [a3.block x (lt_of_heap h.at_) h.ne]; exact h.at_, a1, hn, by omega, h.told_, h.least_⟩, a3, a2⟩
  obtain ⟨z, hz⟩ : ∃ z, min least n = z := ⟨_, rfl⟩
  rw [hz]
  have hz1 : (if (n : Int) < (least : Int) then (n : Int) else (least : Int)) = (z : Int) := by split <;> omega
  have hz2 : (if (least : Int) < (n : Int) then (least : Int) else (n : Int)) = (z : Int) := by split <;> omega
  have hz3 : (if (least : Int) ≤ (n : Int) then (least : Int) else (n : Int)) = (z : Int) := by split <;> omega
  have hz4 : (if n < least then (n : Int) else (least : Int)) = (z : Int) := by split <;> omega
  have hz5 : (if least < n then (least : Int) else (n : Int)) = (z : Int) := by split <;> omega
  have hz6 : min (least : Int) (n : Int) = (z : Int) := by omega
  have HZ : Hid (z ≤ told) := by show _ ≤ _; have := h.least_; omega
  have HX : Hid (EncX w x t v m E told least) := h
  generalize fallen (n : Int) E = F at KR ⊢
  clear h hz
  go_enter Try.func16, Try.ntmps16
  go_wp2_with (go_at_call 26; refine KR.out.mono ?_; clear KR; rintro e w2 ⟨rfl, v2, H2⟩; have d2 : w2.cell? ⟨x, 2, none⟩ = some (.int .i64 (least : Int)) := cell_of_heap H2.out.1.at_ rfl; have f2 : w2.frozen? ⟨x, 2, none⟩ = false := frozen_of_heap H2.out.1.at_)
  go_ret
  have f1 : Fr (fun k => k = x) w2 (w2.setCell ⟨x, 2, none⟩ (.int .i64 (z : Int))) := (Fr.refl _ w2).setB 2 _
  refine ⟨rfl, v2, ⟨heap_set (i := 2) _ H2.out.1.at_, H2.out.1.tab.kept f1 (fun k hk e => H2.out.1.ne (by subst e; exact hk)), H2.out.1.most, H2.out.1.fits, H2.out.1.told_, HZ.out⟩, ?_, H2.out.2.2⟩
  exact (H2.out.2.1.mono (fun k _ hk => .inr hk)).trans (f1.mono (fun k _ hk => .inl hk))
end Go.Proofs.Ytkipeifkfgbkeaa
/- Contracts of Limit, tooLong, Encode. -/
namespace Go.Proofs.Ytkipeifkfgbkeaa
open Go.RowKit
set_option maxRecDepth 100000
set_option maxHeartbeats 8000000
set_option linter.unusedVariables false

theorem limit_bad (x t : Nat) (v : Value) (m told least : Nat) (n : Int) (E : List (ByteArray × ByteArray)) (w : World) (h : EncX w x t v m E told least) (hn : ¬ (0 ≤ n ∧ n ≤ 65536)) :
    Calls Try.prog 16 #[.pointer (some ⟨x, 0, none⟩), .int .i64 n] w fun r w' => r = .returned (.int .i64 1) ∧ w = w' := by
  have c0 : w.cell? ⟨x, 0, none⟩ = some (.pointer (some ⟨t, 0, none⟩)) := cell_of_heap h.at_ rfl
  have KR : Hid (Calls Try.prog 26 #[.pointer (some ⟨t, 0, none⟩), .int .i64 n] w fun r w' => r = .returned (.int .i64 1) ∧ w = w') := (Resize_bad t m v E n w h.tab hn).mono (fun e w2 ⟨e1, e2⟩ => ⟨e1, e2.symm⟩)
  clear h hn
  go_enter Try.func16, Try.ntmps16
  go_wp2_with (go_at_call 26; refine KR.out.mono ?_; clear KR; rintro e w2 ⟨rfl, rfl⟩)
  go_ret
  exact ⟨rfl, rfl⟩
theorem Limit_in (e x t : Nat) (v : Value) (m told least n : Nat) (E : List (ByteArray × ByteArray)) (w : World) (h : Enc w e x t v m E told least) (hn : n ≤ 65536) :
    Calls Try.prog 6 #[.pointer (some ⟨e, 0, none⟩), .int .i64 (n : Int)] w fun r w' => r = .returned (.int .i64 0) ∧ EPost e x t v n told (min least n) (fallen (n : Int) E) w w' := by
  have c0 : w.cell? ⟨e, 0, none⟩ = some (.pointer (some ⟨x, 0, none⟩)) := cell_of_heap h.at_ rfl
  have KN : Hid (Calls Try.prog 15 #[.pointer (some ⟨e, 0, none⟩)] w fun r w' => r = .returned (.bool false) ∧ w = w') := hnone_in e x t v m told least E w h
  have KL : Hid (Calls Try.prog 16 #[.pointer (some ⟨x, 0, none⟩), .int .i64 (n : Int)] w fun r w' => r = .returned (.int .i64 0) ∧ Hid (EPost e x t v n told (min least n) (fallen (n : Int) E) w w')) := by
    refine (limit_in x t v m told least n E w h.enc hn).mono ?_
    rintro r w' ⟨rfl, v', a1, a2, a3⟩
    refine ⟨rfl, v', ⟨?_, a1⟩, a2.mono (fun k _ hk => .inr hk), fun k hk => .inl (a3 ▸ hk)⟩
    rw [a2.block e (lt_of_heap h.at_) h.ne]
    exact h.at_
  generalize fallen (n : Int) E = F at KL ⊢
  generalize min least n = z at KL ⊢
  clear h hn
  go_enter Try.func6, Try.ntmps6
  go_wp2_with (first
    | (go_at_call 15; refine KN.out.mono ?_; rintro e w' ⟨rfl, rfl⟩)
    | (go_at_call 16; refine KL.out.mono ?_; rintro e w2 ⟨rfl, H2⟩))
  go_ret
  exact ⟨rfl, H2.out⟩
theorem Limit_bad (e x t : Nat) (v : Value) (m told least : Nat) (n : Int) (E : List (ByteArray × ByteArray)) (w : World) (h : Enc w e x t v m E told least) (hn : ¬ (0 ≤ n ∧ n ≤ 65536)) :
    Calls Try.prog 6 #[.pointer (some ⟨e, 0, none⟩), .int .i64 n] w fun r w' => r = .returned (.int .i64 1) ∧ w = w' := by
  have c0 : w.cell? ⟨e, 0, none⟩ = some (.pointer (some ⟨x, 0, none⟩)) := cell_of_heap h.at_ rfl
  have KN : Hid (Calls Try.prog 15 #[.pointer (some ⟨e, 0, none⟩)] w fun r w' => r = .returned (.bool false) ∧ w = w') := hnone_in e x t v m told least E w h
  have KL : Hid (Calls Try.prog 16 #[.pointer (some ⟨x, 0, none⟩), .int .i64 n] w fun r w' => r = .returned (.int .i64 1) ∧ w = w') := limit_bad x t v m told least n E w h.enc hn
  clear h hn
  go_enter Try.func6, Try.ntmps6
  go_wp2_with (first
    | (go_at_call 15; refine KN.out.mono ?_; rintro e w' ⟨rfl, rfl⟩)
    | (go_at_call 16; refine KL.out.mono ?_; rintro e w2 ⟨rfl, rfl⟩))
  go_ret
  exact ⟨rfl, rfl⟩

/-- A list that is refused. -/
def LongL (l : List (ByteArray × ByteArray × Bool)) : Prop := 1024 < l.length ∨ ∃ h ∈ l, ¬ Short h
theorem shortL {l : List (ByteArray × ByteArray × Bool)} (h : ¬ LongL l) : l.length ≤ 1024 ∧ ∀ x ∈ l, Short x := by
  constructor
  · rcases Nat.lt_or_ge 1024 l.length with h1 | h1
    · exact absurd (.inl h1) h
    · exact h1
  · intro x hx
    by_cases hs : Short x
    · exact hs
    · exact absurd (.inr ⟨x, hx, hs⟩) h
theorem tooLong_in (q : Option Addr) (c : Nat) (l : List (ByteArray × ByteArray × Bool)) (b : Bool) (w : World) (h : HL w q c l) (hb : b = true ↔ LongL l) :
    Calls Try.prog 18 #[.slice q l.length c] w fun r w' => r = .returned (.bool b) ∧ Below w.heap.size w w' := by
  have HH : Hid (HL w q c l) := h
  have HB : Hid (b = true ↔ LongL l) := hb
  have hfew := h.few
  obtain ⟨n, hn⟩ : ∃ n, l.length = n := ⟨_, rfl⟩
  have HN : Hid (l.length = n) := hn
  rw [hn] at hfew ⊢
  have hn63 : n ≤ 9223372036854775807 := by omega
  by_cases hlen : 1024 < n
  · have hli : (1024 : Int) < (n : Int) := by omega
    obtain rfl : b = true := hb.2 (.inl (by omega))
    clear h hb hfew hn
    go_enter Try.func18, Try.ntmps18
    go_wp2_with (fail)
    go_ret
    exact ⟨rfl, Below.refl _ _⟩
  · have hli : ¬ (1024 : Int) < (n : Int) := by omega
    clear h hb hfew hn
    go_enter Try.func18, Try.ntmps18
    go_wp2_with (fail)
    go_loopw [10] (fun x10 wr => ∃ i : Nat, x10 = .int .i64 (i : Int) ∧ i ≤ n ∧ Hid (Below w.heap.size w wr ∧ ∀ r x, r < i → l[r]? = some x → Short x)) (fun x10 _ => n - (intOf x10).toNat)
    case atStart => exact ⟨0, rfl, by omega, Below.refl _ _, fun r x hr => by omega⟩
    case round =>
      obtain ⟨i, rfl, hi, HR⟩ := hrel
      by_cases hin : i < n
      · obtain ⟨x, hx⟩ : ∃ x, l[i]? = some x := ⟨l[i]'(by rw [HN.out]; exact hin), List.getElem?_eq_getElem _⟩
        obtain ⟨bb, o, rfl, hbb, c0, c1, c2, s1, s2⟩ := (HH.out.later HR.out.1).cells i x hx
        have HX : Hid (l[i]? = some x) := hx
        obtain ⟨xn, xu, xs⟩ := x
        dsimp only at c0 c1 c2 s1 s2
        have hin2 : (i : Int) < (n : Int) := by omega
        have HM : Hid ((xn, xu, xs) ∈ l) := List.mem_of_getElem? hx
        clear hx hbb
        by_cases h1 : 16384 < xn.size
        · have h1i : (16384 : Int) < (xn.size : Int) := by omega
          have HT : Hid (b = true) := HB.out.2 (.inr ⟨_, HM.out, fun hs => by have := hs.1; simp only at this; omega⟩)
          go_wp2_with (fail)
          go_ret
          exact ⟨by rw [HT.out]; rfl, (HR.out.1.alloc HR.out.1.size _)⟩
        · have h1i : ¬ (16384 : Int) < (xn.size : Int) := by omega
          by_cases h2 : 16384 < xu.size
          · have h2i : (16384 : Int) < (xu.size : Int) := by omega
            have HT : Hid (b = true) := HB.out.2 (.inr ⟨_, HM.out, fun hs => by have := hs.2; simp only at this; omega⟩)
            go_wp2_with (fail)
            go_ret
            exact ⟨by rw [HT.out]; rfl, (HR.out.1.alloc HR.out.1.size _)⟩
          · have h2i : ¬ (16384 : Int) < (xu.size : Int) := by omega
            have HS : Hid (Short (xn, xu, xs)) := ⟨by simp only; omega, by simp only; omega⟩
            go_wp2_with (fail)
            go_roundw
            case rel =>
              refine ⟨i + 1, by go_num, by omega, HR.out.1.alloc HR.out.1.size _, fun r y hr hy => ?_⟩
              rcases Nat.lt_or_ge r i with h3 | h3
              · exact HR.out.2 r y h3 hy
              · obtain rfl : r = i := by omega
                rw [HX.out] at hy
                cases hy
                exact HS.out
            case measure => simp [intOf]; omega
      · obtain rfl : i = n := by omega
        have HT : Hid (b = false) := by
          show _ = _
          cases hbv : b with
          | false => rfl
          | true =>
            rcases HB.out.1 hbv with h3 | ⟨x, hx, hns⟩
            · have := HN.out; omega
            · obtain ⟨r, hr, hxr⟩ := List.getElem_of_mem hx
              exact absurd (HR.out.2 r x (by have := HN.out; omega) (by rw [List.getElem?_eq_getElem hr, hxr])) hns
        go_wp2_with (fail)
        go_ret
        exact ⟨by rw [HT.out]; rfl, HR.out.1⟩
end Go.Proofs.Ytkipeifkfgbkeaa
/- Contract of Encode. -/
namespace Go.Proofs.Ytkipeifkfgbkeaa
open Go.RowKit
set_option maxRecDepth 100000
set_option maxHeartbeats 8000000
set_option linter.unusedVariables false

theorem Fr.go {S T : Nat → Prop} {a b c : World} (h : Fr S a b) (k : Fr T b c) (hT : ∀ i, i < a.heap.size → T i → S i) : Fr S a c :=
  ⟨k.os.trans h.os, k.tape.trans h.tape, k.output.trans h.output, Nat.le_trans h.size k.size, fun i hi hs => (k.block i (Nat.lt_of_lt_of_le hi h.size) (fun ht => hs (hT i hi ht))).trans (h.block i hi hs)⟩
theorem HL.fr {S : Nat → Prop} {w w' : World} {q : Option Addr} {c : Nat} {l : List (ByteArray × ByteArray × Bool)} (h : HL w q c l) (f : Fr S w w') (hs : ∀ a, q = some a → l ≠ [] → ¬ S a.block) : HL w' q c l := by
  refine ⟨h.cap, h.big, h.few, fun r x hr => ?_⟩
  obtain ⟨b, o, hq, hb, h0, h1, h2, h3⟩ := h.cells r x hr
  have hc : ∀ j, w'.cell? ⟨b, j, none⟩ = w.cell? ⟨b, j, none⟩ := fun j => f.cell (p := ⟨b, j, none⟩) hb (hs ⟨b, o, none⟩ hq (fun e => by subst e; simp at hr))
  exact ⟨b, o, hq, Nat.lt_of_lt_of_le hb f.size, (hc _).trans h0, (hc _).trans h1, (hc _).trans h2, h3⟩
/-- No block of an encoder is a row of bytes. -/
theorem Enc.tag {w : World} {e x t : Nat} {v a : Value} {m told least : Nat} {E : List (ByteArray × ByteArray)} {xs : List Value} (h : Enc w e x t v m E told least) (ho : OwnAt w 5 a xs) (k : Nat) (hk : EncB e x t v k) : a.ownBlock ≠ some k := by
  intro hak
  rcases hk with rfl | rfl | rfl | hk
  · exact absurd (ho.fr_tag h.at_ hak) (by decide)
  · exact absurd (ho.fr_tag h.enc.at_ hak) (by decide)
  · exact absurd (ho.fr_tag h.enc.tab.at_ hak) (by decide)
  · rcases h.enc.tab.row.2 with ⟨rfl, _⟩ | ⟨g, cap, cur, rfl, _, h2, _⟩
    · cases hk
    · cases hk; exact absurd (ho.fr_tag h2 hak) (by decide)
/-- On the way through Encode. -/
structure ESt (e x t : Nat) (v0 : Value) (m : Nat) (E : List (ByteArray × ByteArray)) (B : List UInt8) (v a : Value) (w0 w : World) : Prop where
  enc : Enc w e x t v m E m m
  own : OwnAt w 5 a (bv B)
  new : ∀ k, a.ownBlock = some k → w0.heap.size ≤ k
  fr : Fr (EncB e x t v0) w0 w
  vown : ∀ k, v.ownBlock = some k → v0.ownBlock = some k ∨ w0.heap.size ≤ k
theorem ESt.below {e x t : Nat} {v0 v a : Value} {m : Nat} {E : List (ByteArray × ByteArray)} {B : List UInt8} {w0 w w' : World} (h : ESt e x t v0 m E B v a w0 w) (b : Below w.heap.size w w') : ESt e x t v0 m E B v a w0 w' :=
  ⟨h.enc.below b, h.own.fr (S := fun _ => False) (Fr.of_below b) (fun _ _ => id), h.new, h.fr.trans (Fr.of_below b), h.vown⟩
/-- A header's bytes have come. -/
theorem ESt.mid {e x t : Nat} {v0 v a a2 : Value} {m : Nat} {E E2 : List (ByteArray × ByteArray)} {B B2 : List UInt8} {w0 w w' : World} (h : ESt e x t v0 m E B v a w0 w) (p : HPost x t v m m m E2 B2 a2 w w') :
    ∃ v', ESt e x t v0 m E2 B v' a w0 w' ∧ OwnAt w' 5 a2 (bv B2) ∧ (∀ k, a2.ownBlock = some k → w.heap.size ≤ k) ∧ Fr (fun k => k = t ∨ v.ownBlock = some k) w w' := by
  obtain ⟨v', p1, p2, p3, p4, p5⟩ := p
  have hap : ∀ k, (k = t ∨ v.ownBlock = some k) → EncB e x t v k := fun k hk => .inr (.inr hk)
  refine ⟨v', ⟨⟨?_, p1⟩, h.own.fr p4 (fun k hk hs => h.enc.tag h.own k (hap k hs) hk), h.new, h.fr.go p4 (fun i hi ht => ?_), fun k hk => ?_⟩, p2, p3, p4⟩
  · rw [p4.block e (lt_of_heap h.enc.at_) (fun hk => h.enc.ne (.inr hk))]
    exact h.enc.at_
  · rcases ht with ht | ht
    · exact .inr (.inr (.inl ht))
    · rcases h.vown i ht with hv | hv
      · exact .inr (.inr (.inr hv))
      · omega
  · rcases p5 k hk with hv | hv
    · exact h.vown k hv
    · exact .inr (Nat.le_trans h.fr.size hv)
theorem ESt.put {e x t : Nat} {v0 v a a5 : Value} {m : Nat} {E : List (ByteArray × ByteArray)} {B B5 : List UInt8} {w0 w w' : World} (h : ESt e x t v0 m E B v a w0 w) (o : OwnAt w' 5 a5 (bv B5)) (f : Fr (fun k => a.ownBlock = some k) w w') (hk5 : a5.ownBlock = a.ownBlock ∨ ∃ k, a5.ownBlock = some k ∧ w.heap.size ≤ k) :
    ESt e x t v0 m E B5 v a5 w0 w' := by
  refine ⟨h.enc.kept f (fun k hk hs => h.enc.tag h.own k hk hs), o, fun k hk => ?_, h.fr.go f (fun i hi ht => ?_), h.vown⟩
  · rcases hk5 with hk5 | ⟨k', hk5, hk6⟩
    · exact h.new k (hk5 ▸ hk)
    · rw [hk5] at hk
      cases hk
      exact Nat.le_trans h.fr.size hk6
  · have := h.new i ht
    omega
/-- What Encode leaves behind. -/
def EncPost (e x t : Nat) (v0 : Value) (m : Nat) (E : List (ByteArray × ByteArray)) (B : List UInt8) (a : Value) (w w' : World) : Prop :=
  ∃ v, ESt e x t v0 m E B v a w w'
theorem Encode_long (e x t : Nat) (v : Value) (m told least : Nat) (E : List (ByteArray × ByteArray)) (q : Option Addr) (c : Nat) (l : List (ByteArray × ByteArray × Bool)) (w : World) (h : Enc w e x t v m E told least) (hl : HL w q c l) (hlong : LongL l) :
    Calls Try.prog 8 #[.pointer (some ⟨e, 0, none⟩), .slice q l.length c] w fun r w' => r = .returned (.tuple #[.slice none 0 0, .int .i64 2]) ∧ Below w.heap.size w w' := by
  have KN : Hid (Calls Try.prog 15 #[.pointer (some ⟨e, 0, none⟩)] w fun r w' => r = .returned (.bool false) ∧ w = w') := hnone_in e x t v m told least E w h
  have KT : Hid (Calls Try.prog 18 #[.slice q l.length c] w fun r w' => r = .returned (.bool true) ∧ Hid (Below w.heap.size w w')) := tooLong_in q c l true w hl (by simp [hlong])
  clear h hl hlong
  go_enter Try.func8, Try.ntmps8
  go_wp2_with (first
    | (go_at_call 15; refine KN.out.mono ?_; rintro e w' ⟨rfl, rfl⟩)
    | (go_at_call 18; refine KT.out.mono ?_; rintro e w2 ⟨rfl, B2⟩))
  go_ret2
  exact ⟨rfl, B2.out⟩
theorem Encode_in (e x t : Nat) (v : Value) (m told least : Nat) (E : List (ByteArray × ByteArray)) (q : Option Addr) (c : Nat) (l : List (ByteArray × ByteArray × Bool)) (w : World) (h : Enc w e x t v m E told least) (hl : HL w q c l) (hshort : ¬ LongL l) (hq : ∀ a, q = some a → l ≠ [] → ¬ EncB e x t v a.block) :
    Calls Try.prog 8 #[.pointer (some ⟨e, 0, none⟩), .slice q l.length c] w fun r w' => ∃ a n cc, r = .returned (.tuple #[.slice a n cc, .int .i64 0]) ∧ EncPost e x t v m (tabL m E l) (encB m told least E l) (.slice a n cc) w w' := by
  obtain ⟨j, hi1, hi2, hi3, hi4⟩ := info5
  have J1 : Hid (Try.prog.info? 5 = some j) := hi1
  have J2 : Hid (j.zero = some (.int .u8 0)) := hi2
  have J3 : Hid (j.size = 1) := hi3
  have J4 : Hid (j.bytes = 1) := hi4
  obtain ⟨hl1, hl2⟩ := shortL hshort
  have KN : Hid (Calls Try.prog 15 #[.pointer (some ⟨e, 0, none⟩)] w fun r w' => r = .returned (.bool false) ∧ w = w') := hnone_in e x t v m told least E w h
  have KT : Hid (Calls Try.prog 18 #[.slice q l.length c] w fun r w' => r = .returned (.bool false) ∧ Hid (Below w.heap.size w w')) := tooLong_in q c l false w hl (by simp [hshort])
  have KS : Hid (∀ w2, Below w.heap.size w w2 → Calls Try.prog 19 #[.pointer (some ⟨x, 0, none⟩)] w2 fun r w' => ∃ a n cc, r = .returned (.slice a n cc) ∧ Hid (ESt e x t v m E (ups (upd told least m)) v (.slice a n cc) w w')) := fun w2 b2 => by
    have h2 := h.below b2
    refine (sizes_in x t v m told least E w2 h2.enc).mono ?_
    rintro r w' ⟨a, n, cc, rfl, p1, p2, p3, p4⟩
    refine ⟨a, n, cc, rfl, ⟨?_, p1⟩, p2, fun k hk => Nat.le_trans b2.size (p3 k hk), (Fr.of_below b2).go p4 (fun i _ hi => .inr (.inl hi)), fun k hk => .inl hk⟩
    rw [p4.block e (lt_of_heap h2.at_) (fun hk => h.ne (.inl hk))]
    exact h2.at_
  have HLW : Hid (∀ w', Fr (EncB e x t v) w w' → HL w' q c l) := fun w' f => hl.fr f hq
  have KH : Hid (∀ (v' a : Value) (E' : List (ByteArray × ByteArray)) (B : List UInt8) (w' : World) (n u : ByteArray) (s : Bool), Short (n, u, s) → ESt e x t v m E' B v' a w w' → Calls Try.prog 20 #[.pointer (some ⟨x, 0, none⟩), .agg #[.string n, .string u, .bool s]] w' fun r w2 => ∃ a2 n2 c2, r = .returned (.slice a2 n2 c2) ∧ n2 = (encH m E' (n, u, s)).length ∧ ∃ v2, Hid (ESt e x t v m (nextE m E' (n, u, s)) B v2 a w w2 ∧ OwnAt w2 5 (.slice a2 n2 c2) (bv (encH m E' (n, u, s))) ∧ Fr (fun k => k = t ∨ v'.ownBlock = some k) w' w2)) := fun v' a E' B w' n u s hs h' => by
    refine (header_in x t v' m m m E' n u s w' h'.enc.enc hs).mono ?_
    rintro r w2 ⟨a2, rfl, p⟩
    obtain ⟨v2, q1, q2, q3, q4⟩ := h'.mid p
    obtain ⟨a3, c3, rfl, -⟩ := q2.form
    rw [bv_length] at q2 ⊢
    exact ⟨_, _, _, rfl, rfl, v2, q1, q2, q4⟩
  have HSH : Hid (∀ r y, l[r]? = some y → Short y) := fun r y hr => hl2 y (List.mem_of_getElem? hr)
  have HLN : Hid (∀ i, (ups (upd told least m) ++ encL m E (l.take i)).length ≤ 1000000000) := fun i => by
    have h1 := encL_len h.enc.most (l.take i) h.enc.fits (fun y hy => hl2 y (List.mem_of_mem_take hy))
    have h2 := ups_len (upd told least m) (upd_le (b := 65536) (by have := h.enc.least_; have := h.enc.told_; omega) h.enc.most)
    have h3 : (upd told least m).length ≤ 2 := by
      unfold upd
      split
      · simp
      · split <;> simp
    have h4 : (l.take i).length ≤ 1024 := by rw [List.length_take]; omega
    rw [List.length_append]
    omega
  have HEN : Hid (∀ i y, l[i]? = some y → encL m E (l.take (i + 1)) = encL m E (l.take i) ++ encH m (tabL m E (l.take i)) y ∧ tabL m E (l.take (i + 1)) = nextE m (tabL m E (l.take i)) y) := fun i y hy => by
    rw [List.take_add_one, hy]
    exact encL_snoc m (l.take i) E y
  have HE0 : Hid (encB m told least E l = ups (upd told least m) ++ encL m E l) := rfl
  generalize ups (upd told least m) = U at KS HLN HE0
  generalize encB m told least E l = BB at HE0 ⊢
  have hc0 : ∀ w', Below w.heap.size w w' → w'.cell? ⟨e, 0, none⟩ = some (.pointer (some ⟨x, 0, none⟩)) := fun w' b => cell_of_heap (h.below b).at_ rfl
  have c0 := hc0 w (Below.refl _ _)
  have HC0 : Hid (∀ w', Below w.heap.size w w' → w'.cell? ⟨e, 0, none⟩ = some (.pointer (some ⟨x, 0, none⟩))) := hc0
  obtain ⟨n, hn⟩ : ∃ n, l.length = n := ⟨_, rfl⟩
  have HN : Hid (l.length = n) := hn
  rw [hn] at hl1 KT ⊢
  have hmx : Try.prog.follows .mixedOrders = true := by kernel_rfl
  clear h hl hshort hq hl2 hi1 hi2 hi3 hi4 hc0 hn
  go_enter Try.func8, Try.ntmps8
  go_wp2_with (first
    | (go_at_call 15; refine KN.out.mono ?_; rintro e w' ⟨rfl, rfl⟩)
    | (go_at_call 18; refine KT.out.mono ?_; rintro e w2 ⟨rfl, B2⟩; have c2 := HC0.out w2 B2.out)
    | (go_at_call 19; refine (KS.out w2 B2.out).mono ?_; rintro e w3 ⟨a3, n3, c3, rfl, H3⟩))
  go_loopw [6, 20] (fun x6 x20 wr => ∃ (i na ca : Nat) (a : Option Addr) (v' : Value), x6 = .slice a na ca ∧ x20 = .int .i64 (i : Int) ∧ i ≤ n ∧ Hid (ESt e x t v m (tabL m E (l.take i)) (U ++ encL m E (l.take i)) v' (.slice a na ca) w wr)) (fun _ x20 _ => n - (intOf x20).toNat)
  case atStart => exact ⟨0, n3, c3, a3, v, rfl, rfl, by omega, by show ESt e x t v m (tabL m E (l.take 0)) (U ++ encL m E (l.take 0)) v (.slice a3 n3 c3) w w3; simpa [encL, tabL] using H3.out⟩
  case round =>
    obtain ⟨i, na, ca, a, v', rfl, rfl, hi, HR⟩ := hrel
    by_cases hin : i < n
    · obtain ⟨y, hy⟩ : ∃ y, l[i]? = some y := ⟨l[i]'(by rw [HN.out]; exact hin), List.getElem?_eq_getElem _⟩
      obtain ⟨bb, o, rfl, hbb, d0, d1, d2, s1, s2⟩ := (HLW.out wr HR.out.fr).cells i y hy
      have HX : Hid (l[i]? = some y) := hy
      obtain ⟨yn, yu, ys⟩ := y
      dsimp only at d0 d1 d2 s1 s2
      have hin2 : (i : Int) < (n : Int) := by omega
      have HS : Hid (Short (yn, yu, ys)) := HSH.out i _ hy
      have HR1 : Hid (ESt e x t v m (tabL m E (l.take i)) (U ++ encL m E (l.take i)) v' (.slice a na ca) w (wr.alloc (.cells #[.string yn, .string yu, .bool ys] 59)).drew) := HR.out.below ((Below.refl _ wr).alloc (Nat.le_refl _) _).drew
      have e0 : (wr.alloc (.cells #[.string yn, .string yu, .bool ys] 59)).drew.cell? ⟨e, 0, none⟩ = some (.pointer (some ⟨x, 0, none⟩)) := cell_of_heap HR1.out.enc.at_ rfl
      clear hy hbb
      obtain ⟨b0, b1, b2⟩ : (wr.alloc (.cells #[.string yn, .string yu, .bool ys] 59)).drew.cell? ⟨wr.heap.size, 0, none⟩ = some (.string yn) ∧ (wr.alloc (.cells #[.string yn, .string yu, .bool ys] 59)).drew.cell? ⟨wr.heap.size, 1, none⟩ = some (.string yu) ∧ (wr.alloc (.cells #[.string yn, .string yu, .bool ys] 59)).drew.cell? ⟨wr.heap.size, 2, none⟩ = some (.bool ys) := by
        have hb := heap_alloc_new wr (.cells #[.string yn, .string yu, .bool ys] 59)
        exact ⟨cell_of_heap hb rfl, cell_of_heap hb rfl, cell_of_heap hb rfl⟩
      have HBX : Hid (∀ w', Fr (fun k => k = t ∨ v'.ownBlock = some k) (wr.alloc (.cells #[.string yn, .string yu, .bool ys] 59)).drew w' → w'.heap[wr.heap.size]? = some (.cells #[.string yn, .string yu, .bool ys] 59)) := fun w' f => by
        have hb := heap_alloc_new wr (.cells #[.string yn, .string yu, .bool ys] 59)
        rw [f.block wr.heap.size (by simp) (fun hk => by have := HR.out.enc.lt (k := wr.heap.size) (.inr (.inr hk)); omega)]
        exact hb
      have HAX : Hid (Value.ownBlock (.slice a na ca) ≠ some wr.heap.size) := fun hk => by have := HR.out.own.lt _ hk; omega
      have HB4 : Hid ((U ++ encL m E (l.take i)).length + (encH m (tabL m E (l.take i)) (yn, yu, ys)).length ≤ 225179981368371) := by
        have h1 := HLN.out (i + 1)
        have h2 := (HEN.out i _ HX.out).1
        rw [h2, ← List.append_assoc, List.length_append] at h1
        show _ ≤ _
        omega
      go_wp2_with (fail)
      go_region_held_law (fun w' => w'.cell? ⟨e, 0, none⟩ = some (.pointer (some ⟨x, 0, none⟩)) ∧ w'.cell? ⟨wr.heap.size, 0, none⟩ = some (.string yn) ∧ w'.cell? ⟨wr.heap.size, 1, none⟩ = some (.string yu) ∧ w'.cell? ⟨wr.heap.size, 2, none⟩ = some (.bool ys)) (first | exact ⟨e0, b0, b1, b2⟩ | exact ⟨f0, g0, g1, g2⟩ | exact ⟨p0, r0, r1, r2⟩ | go_keep)
        (first
          | (go_at_call 20; refine (KH.out _ _ _ _ _ yn yu ys HS.out HR1.out).mono ?_; rintro r w4 ⟨a4, n4, c4, rfl, hn4, v4, H4⟩; have HN4 : Hid (n4 = (encH m (tabL m E (l.take i)) (yn, yu, ys)).length) := hn4; clear hn4; have f0 : w4.cell? ⟨e, 0, none⟩ = some (.pointer (some ⟨x, 0, none⟩)) := cell_of_heap H4.out.1.enc.at_ rfl; have g0 : w4.cell? ⟨wr.heap.size, 0, none⟩ = some (.string yn) := cell_of_heap (HBX.out w4 H4.out.2.2) rfl; have g1 : w4.cell? ⟨wr.heap.size, 1, none⟩ = some (.string yu) := cell_of_heap (HBX.out w4 H4.out.2.2) rfl; have g2 : w4.cell? ⟨wr.heap.size, 2, none⟩ = some (.bool ys) := cell_of_heap (HBX.out w4 H4.out.2.2) rfl)
          | (refine step_append_bytes rfl (.tmp 24) (.tmp 30) 35 35 rfl 5 j Try.underlying35 Try.underlying35 J1.out J2.out J3.out J4.out (.slice a na ca) (U ++ encL m E (l.take i)) (by go_simp) H4.out.1.own a4 n4 c4 (by go_simp) (encH m (tabL m E (l.take i)) (yn, yu, ys)) (own_src H4.out.2.1) HN4.out.symm (by have := HB4.out; have := HN4.out; omega) ?_; intro a5 n5 c5 w5 Hn5 hown5 hf5 hk5; have H5 : Hid (ESt e x t v m (nextE m (tabL m E (l.take i)) (yn, yu, ys)) (U ++ encL m E (l.take i) ++ encH m (tabL m E (l.take i)) (yn, yu, ys)) v4 (.slice a5 n5 c5) w w5) := H4.out.1.put hown5 hf5.out hk5.out; have HX5 : Hid (w5.heap[wr.heap.size]? = some (.cells #[.string yn, .string yu, .bool ys] 59)) := (show _ = _ from by rw [hf5.out.block wr.heap.size (lt_of_heap (HBX.out w4 H4.out.2.2)) HAX.out]; exact HBX.out w4 H4.out.2.2); have p0 : w5.cell? ⟨e, 0, none⟩ = some (.pointer (some ⟨x, 0, none⟩)) := cell_of_heap H5.out.enc.at_ rfl; have r0 : w5.cell? ⟨wr.heap.size, 0, none⟩ = some (.string yn) := cell_of_heap HX5.out rfl; have r1 : w5.cell? ⟨wr.heap.size, 1, none⟩ = some (.string yu) := cell_of_heap HX5.out rfl; have r2 : w5.cell? ⟨wr.heap.size, 2, none⟩ = some (.bool ys) := cell_of_heap HX5.out rfl))
      clear f0 g0 g1 g2 p0 r0 r1 r2 e0 b0 b1 b2 d0 d1 d2
      go_wp2_with (fail)
      go_roundw
      case rel =>
        refine ⟨i + 1, n5, c5, a5, v4, rfl, by go_num, by omega, ?_⟩
        show ESt e x t v m (tabL m E (l.take (i + 1))) (U ++ encL m E (l.take (i + 1))) v4 (.slice a5 n5 c5) w w5
        rw [(HEN.out i _ HX.out).1, (HEN.out i _ HX.out).2, ← List.append_assoc]
        exact H5.out
      case measure => simp [intOf]; omega
    · obtain rfl : i = n := by omega
      go_wp2_with (fail)
      go_ret2
      refine ⟨a, na, ca, rfl, v', ?_⟩
      have := HR.out
      rw [List.take_of_length_le (Nat.le_of_eq HN.out)] at this
      rw [HE0.out]
      exact this
end Go.Proofs.Ytkipeifkfgbkeaa
