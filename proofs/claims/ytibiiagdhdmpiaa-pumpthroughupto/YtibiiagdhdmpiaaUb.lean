/- The program's pump: made, refuses, New, Len, Room, Open, End, Put. -/
import Derived.Test.YtibiiagdhdmpiaaUa
namespace Go.Proofs.Ytibiiagdhdmpiaa
open Go.RowKit
set_option linter.unusedVariables false
set_option maxRecDepth 100000
set_option maxHeartbeats 4000000

theorem umade_yes (b r : Nat) (w : World) (c0 : w.cell? ⟨b, 0, none⟩ = some (.pointer (some ⟨r, 0, none⟩))) : Calls Try.prog 32 #[.pointer (some ⟨b, 0, none⟩)] w fun e w' => e = .returned (.bool true) ∧ w = w' := by
  go_enter Try.func32, Try.ntmps32
  go_wp2
  go_ret
  exact ⟨rfl, rfl⟩
theorem umade_no (b : Nat) (w : World) (c0 : w.cell? ⟨b, 0, none⟩ = some (.pointer none)) : Calls Try.prog 32 #[.pointer (some ⟨b, 0, none⟩)] w fun e w' => e = .returned (.bool false) ∧ w = w' := by
  go_enter Try.func32, Try.ntmps32
  go_wp2
  go_ret
  exact ⟨rfl, rfl⟩
theorem umade_nil (w : World) : Calls Try.prog 32 #[.pointer none] w fun e w' => e = .returned (.bool false) ∧ w = w' := by
  go_enter Try.func32, Try.ntmps32
  go_wp2
  go_ret
  exact ⟨rfl, rfl⟩
theorem urefuses_yes (b r : Nat) (op : Bool) (w : World) (c0 : w.cell? ⟨b, 0, none⟩ = some (.pointer (some ⟨r, 0, none⟩))) (c3 : w.cell? ⟨b, 3, none⟩ = some (.bool op)) : Calls Try.prog 35 #[.pointer (some ⟨b, 0, none⟩)] w fun e w' => e = .returned (.int .i64 (if op then 0 else 5)) ∧ w = w' := by
  have K := umade_yes b r w c0
  cases op
  · go_enter Try.func35, Try.ntmps35
    go_wp2_with (fail)
    refine K.mono ?_
    rintro e w1 ⟨rfl, rfl⟩
    go_wp2
    go_ret
    exact ⟨rfl, rfl⟩
  · go_enter Try.func35, Try.ntmps35
    go_wp2_with (fail)
    refine K.mono ?_
    rintro e w1 ⟨rfl, rfl⟩
    go_wp2
    go_ret
    exact ⟨rfl, rfl⟩
/-- A pump that nobody made: nil, or its first cell holds no ring. -/
def NoPu (w : World) (p : Option Addr) : Prop := p = none ∨ ∃ b, p = some ⟨b, 0, none⟩ ∧ w.cell? ⟨b, 0, none⟩ = some (.pointer none)
theorem umade_none (p : Option Addr) (w : World) (h : NoPu w p) : Calls Try.prog 32 #[.pointer p] w fun e w' => e = .returned (.bool false) ∧ w = w' := by
  rcases h with rfl | ⟨b, rfl, c0⟩
  · exact umade_nil w
  · exact umade_no b w c0
theorem urefuses_none (p : Option Addr) (w : World) (h : NoPu w p) : Calls Try.prog 35 #[.pointer p] w fun e w' => e = .returned (.int .i64 7) ∧ w = w' := by
  have K := umade_none p w h
  go_enter Try.func35, Try.ntmps35
  go_wp2_with (fail)
  refine K.mono ?_
  rintro e w1 ⟨rfl, rfl⟩
  go_wp2
  go_ret
  exact ⟨rfl, rfl⟩
theorem ring_len (r : Nat) (sv : Value) (L : List UInt8) (lim : Nat) (w : World) (hr : RingIs w r sv L lim) : Calls Try.prog 33 #[.pointer (some ⟨r, 0, none⟩)] w fun e w' => e = .returned (.int .i64 L.length) ∧ w = w' := by
  obtain ⟨-, cur, first, hbk, -⟩ := hr
  refine (len_any r L.length w (cell4 hbk).1).mono ?_
  rintro e w' ⟨rfl, h⟩
  exact ⟨rfl, h.symm⟩
theorem ring_room (r : Nat) (sv : Value) (L : List UInt8) (lim : Nat) (w : World) (hr : RingIs w r sv L lim) : Calls Try.prog 34 #[.pointer (some ⟨r, 0, none⟩)] w fun e w' => e = .returned (.int .i64 ((lim - L.length : Nat) : Int)) ∧ ∃ n, w' = w.drewN n := room_ring r sv L lim _ w hr rfl

theorem uLen_in (O : Nat → Prop) (b : Nat) (L : List UInt8) (lim : Nat) (op : Bool) (T : Option (List Hd)) (w : World) (h : PuAt w O b L lim op T) : Calls Try.prog 10 #[.pointer (some ⟨b, 0, none⟩)] w fun e w' => e = .returned (.int .i64 L.length) ∧ w = w' := by
  obtain ⟨⟨r, sv, tv, hx⟩, -⟩ := h
  obtain ⟨c0, c1, c2, c3⟩ := hx.cells
  have K := umade_yes b r w c0
  have KL := ring_len r sv L lim w hx.2.1
  clear hx
  go_enter Try.func10, Try.ntmps10
  go_wp2_with (fail)
  refine K.mono ?_
  rintro e w1 ⟨rfl, rfl⟩
  go_wp2_with (fail)
  refine KL.mono ?_
  rintro e w1 ⟨rfl, rfl⟩
  go_wp2
  go_ret
  exact ⟨rfl, rfl⟩
theorem uRoom_in (O : Nat → Prop) (b : Nat) (L : List UInt8) (lim : Nat) (op : Bool) (T : Option (List Hd)) (w : World) (h : PuAt w O b L lim op T) : Calls Try.prog 11 #[.pointer (some ⟨b, 0, none⟩)] w fun e w' => e = .returned (.int .i64 ((lim - L.length : Nat) : Int)) ∧ ∃ n, w' = w.drewN n := by
  obtain ⟨⟨r, sv, tv, hx⟩, -⟩ := h
  obtain ⟨c0, c1, c2, c3⟩ := hx.cells
  have K := umade_yes b r w c0
  obtain ⟨rm, hrm⟩ : ∃ rm, lim - L.length = rm := ⟨_, rfl⟩
  have KL := ring_room r sv L lim w hx.2.1
  rw [hrm] at KL ⊢
  clear hx hrm
  go_enter Try.func11, Try.ntmps11
  go_wp2_with (fail)
  refine K.mono ?_
  rintro e w1 ⟨rfl, rfl⟩
  go_wp2_with (fail)
  refine KL.mono ?_
  rintro e w1 ⟨rfl, n, rfl⟩
  go_wp2
  go_ret
  exact ⟨rfl, n, rfl⟩
theorem uOpen_in (O : Nat → Prop) (b : Nat) (L : List UInt8) (lim : Nat) (op : Bool) (T : Option (List Hd)) (w : World) (h : PuAt w O b L lim op T) : Calls Try.prog 13 #[.pointer (some ⟨b, 0, none⟩)] w fun e w' => e = .returned (.bool op) ∧ w = w' := by
  obtain ⟨⟨r, sv, tv, hx⟩, -⟩ := h
  obtain ⟨c0, c1, c2, c3⟩ := hx.cells
  have K := umade_yes b r w c0
  clear hx
  go_enter Try.func13, Try.ntmps13
  go_wp2_with (fail)
  refine K.mono ?_
  rintro e w1 ⟨rfl, rfl⟩
  go_wp2
  go_ret
  exact ⟨rfl, rfl⟩
theorem uNew_bad (n : Int) (w : World) (hn : n < 0 ∨ 65536 < n) : Calls Try.prog 7 #[.int .i64 n] w fun e w' => e = .returned (.tuple #[.pointer none, .int .i64 1]) ∧ w = w' := by
  rcases hn with h | h
  · go_enter Try.func7, Try.ntmps7
    go_wp2
    go_ret2
    exact ⟨rfl, rfl⟩
  · have h' : ¬ n < 0 := by omega
    go_enter Try.func7, Try.ntmps7
    go_wp2
    go_ret2
    exact ⟨rfl, rfl⟩
theorem uNew_in (n : Nat) (w : World) (hn : n ≤ 65536) : Calls Try.prog 7 #[.int .i64 n] w fun e w' => ∃ b, e = .returned (.tuple #[.pointer (some ⟨b, 0, none⟩), .int .i64 0]) ∧ PuAt w' (fun k => w.heap.size ≤ k ∧ k < w'.heap.size) b [] n true none ∧ Fr (fun _ => False) w w' := by
  have h1 : ¬ ((n : Int) < 0) := by omega
  have h2 : ¬ ((65536 : Int) < (n : Int)) := by omega
  have h3 : (n : Int) ≤ 65536 := by omega
  have K := new_ok n w (by omega)
  go_enter Try.func7, Try.ntmps7
  go_wp2_with (fail)
  refine K.mono ?_
  rintro e w1 ⟨rfl, hr, hf⟩
  have HR : Hid (RingIs w1 w.heap.size (.slice none 0 0) [] n) := hr
  have HF : Hid (Fr (fun _ => False) w w1) := hf
  have hlt := hr.lt
  clear hr hf K
  go_wp2
  go_ret2
  have f1 : Fr (fun _ => False) w1 (w1.alloc (.cells #[.pointer (some ⟨w.heap.size, 0, none⟩), .slice none 0 0, .bool false, .bool true] 58)) := (Fr.refl _ _).alloc _
  have hs := HF.out.size
  refine ⟨w1.heap.size, rfl, ⟨⟨w.heap.size, .slice none 0 0, .slice none 0 0, ⟨heap_alloc_new w1 _, HR.out.fr f1 id (fun _ _ => id), rfl, ⟨Nat.le_refl _, by simp; omega⟩, fun g hg => by simp [Value.ownBlock] at hg⟩⟩, ⟨by omega, by simp⟩, fun k hk => hk.2, hn, fun h => by cases h⟩, HF.out.trans f1⟩
theorem uEnd_shut (O : Nat → Prop) (b : Nat) (L : List UInt8) (lim : Nat) (T : Option (List Hd)) (w : World) (h : PuAt w O b L lim false T) : Calls Try.prog 19 #[.pointer (some ⟨b, 0, none⟩)] w fun e w' => e = .returned (.int .i64 5) ∧ w = w' := by
  obtain ⟨⟨r, sv, tv, hx⟩, -⟩ := h
  obtain ⟨c0, c1, c2, c3⟩ := hx.cells
  have K := urefuses_yes b r false w c0 c3
  clear hx
  go_enter Try.func19, Try.ntmps19
  go_wp2_with (fail)
  refine K.mono ?_
  rintro e w1 ⟨rfl, rfl⟩
  go_wp2
  go_ret
  exact ⟨rfl, rfl⟩
theorem no_tail {O : Nat → Prop} {b : Nat} {L : List UInt8} {lim : Nat} {T : Option (List Hd)} {w : World} (h : PuAt w O b L lim true T) : T = none := by
  cases T with
  | none => rfl
  | some l => have := h.tl rfl; cases this
theorem uEnd_in (O : Nat → Prop) (b : Nat) (L : List UInt8) (lim : Nat) (T : Option (List Hd)) (w : World) (h : PuAt w O b L lim true T) : Calls Try.prog 19 #[.pointer (some ⟨b, 0, none⟩)] w fun e w' => e = .returned (.int .i64 0) ∧ PuAt w' O b L lim false none ∧ w'.heap.size = w.heap.size ∧ Fr O w w' := by
  obtain rfl := no_tail h
  obtain ⟨⟨r, sv, tv, hx⟩, ob, lt, few, tl⟩ := h
  obtain ⟨c0, c1, c2, c3⟩ := hx.cells
  have z3 : w.frozen? ⟨b, 3, none⟩ = false := frozen_of_heap hx.1
  have K := urefuses_yes b r true w c0 c3
  have HX : Hid (PuX w O b r sv tv L lim true none) := hx
  clear hx
  go_enter Try.func19, Try.ntmps19
  go_wp2_with (fail)
  refine K.mono ?_
  rintro e w1 ⟨rfl, rfl⟩
  go_wp2
  go_ret
  obtain ⟨n1, n2⟩ := HX.out.ne
  have f : Fr (fun k => k = b) w (w.setCell ⟨b, 3, none⟩ (.bool false)) := Fr.setB (Fr.refl _ _) _ _
  obtain ⟨x1, x2, x3, x4, x5⟩ := HX.out
  refine ⟨rfl, ⟨⟨r, sv, tv, setCell_heap _ x1, x2.fr f (fun e => n1 e.symm) (fun g hg e => n2 (by rw [hg, e])), x3, x4, x5⟩, ob, fun k hk => by simpa [World.setCell] using lt k hk, few, fun h => by cases h⟩, by simp [World.setCell], f.mono (fun k _ e => by subst e; exact ob)⟩
theorem uPut_shut (O : Nat → Prop) (b : Nat) (L : List UInt8) (lim : Nat) (T : Option (List Hd)) (sp : Option Addr) (slen scap : Nat) (w : World) (h : PuAt w O b L lim false T) : Calls Try.prog 15 #[.pointer (some ⟨b, 0, none⟩), .slice sp slen scap] w fun e w' => e = .returned (.int .i64 5) ∧ w = w' := by
  obtain ⟨⟨r, sv, tv, hx⟩, -⟩ := h
  obtain ⟨c0, c1, c2, c3⟩ := hx.cells
  have K := urefuses_yes b r false w c0 c3
  clear hx
  go_enter Try.func15, Try.ntmps15
  go_wp2_with (fail)
  refine K.mono ?_
  rintro e w1 ⟨rfl, rfl⟩
  go_wp2
  go_ret
  exact ⟨rfl, rfl⟩
theorem uPut_full (O : Nat → Prop) (b : Nat) (L : List UInt8) (lim : Nat) (T : Option (List Hd)) (sp : Option Addr) (slen scap : Nat) (w : World) (h : PuAt w O b L lim true T) (hfull : lim - L.length < slen) : Calls Try.prog 15 #[.pointer (some ⟨b, 0, none⟩), .slice sp slen scap] w fun e w' => e = .returned (.int .i64 9) ∧ ∃ n, w' = w.drewN n := by
  obtain ⟨⟨r, sv, tv, hx⟩, -⟩ := h
  obtain ⟨c0, c1, c2, c3⟩ := hx.cells
  have K := urefuses_yes b r true w c0 c3
  obtain ⟨rm, hrm⟩ : ∃ rm, lim - L.length = rm := ⟨_, rfl⟩
  have KL := ring_room r sv L lim w hx.2.1
  rw [hrm] at KL hfull
  have hfi : (rm : Int) < (slen : Int) := by omega
  clear hx hrm
  go_enter Try.func15, Try.ntmps15
  go_wp2_with (fail)
  refine K.mono ?_
  rintro e w1 ⟨rfl, rfl⟩
  go_wp2_with (fail)
  refine KL.mono ?_
  rintro e w1 ⟨rfl, n, rfl⟩
  go_wp2
  go_ret
  exact ⟨rfl, n, rfl⟩
theorem uPut_in (O : Nat → Prop) (b : Nat) (L : List UInt8) (lim : Nat) (T : Option (List Hd)) (sp : Option Addr) (slen scap : Nat) (bs : List UInt8) (w : World) (h : PuAt w O b L lim true T)
    (hs : SrcAt w sp bs) (hlen : bs.length = slen) (hcap : slen ≤ scap) (hap : ∀ a, sp = some a → 0 < slen → a.block < w.heap.size ∧ ¬ O a.block) (hfit : slen ≤ lim - L.length) :
    Calls Try.prog 15 #[.pointer (some ⟨b, 0, none⟩), .slice sp slen scap] w fun e w' => e = .returned (.int .i64 0) ∧ PuAt w' (Grow O w w') b (L ++ bs) lim true T ∧ Fr O w w' := by
  obtain ⟨⟨r, sv, tv, hx⟩, ob, lt, few, tl⟩ := h
  obtain ⟨c0, c1, c2, c3⟩ := hx.cells
  have K := urefuses_yes b r true w c0 c3
  obtain ⟨rm, hrm⟩ : ∃ rm, lim - L.length = rm := ⟨_, rfl⟩
  have KL := ring_room r sv L lim w hx.2.1
  have HP : Hid (∀ n, Calls Try.prog 36 #[.pointer (some ⟨r, 0, none⟩), .slice sp slen scap] (w.drewN n) fun e w' => e = .returned (.int .i64 slen) ∧ ∃ sv', PuX w' (Grow O w w') b r sv' tv (L ++ bs) lim true T ∧ Fr O w w') := by
    intro n
    have hx' : PuX (w.drewN n) O b r sv tv L lim true T := hx.fr (S := fun _ => False) ((Fr.refl _ _).drewN n) id (fun _ _ => id)
    refine (put_any r sv L lim sp slen scap bs (w.drewN n) hx'.2.1 (hs.heap rfl) hlen hcap (fun a e h0 => ⟨(hap a e h0).1, fun e2 => (hap a e h0).2 (by rw [e2]; exact hx.2.2.2.1), fun e2 => (hap a e h0).2 (hx.2.2.2.2 _ e2)⟩) slen (by omega)).mono ?_
    rintro e w' ⟨rfl, sv', hr', f', k'⟩
    rw [List.take_of_length_le (by omega)] at hr'
    obtain ⟨y1, y2⟩ := hx'.ring hr' f' k'
    exact ⟨rfl, sv', y1, (Fr.trans (b := w.drewN n) ((Fr.refl _ _).drewN n) y2)⟩
  rw [hrm] at KL hfit
  have hfi : ¬ (rm : Int) < (slen : Int) := by omega
  have c0' : ∀ n, (w.drewN n).cell? ⟨b, 0, none⟩ = some (.pointer (some ⟨r, 0, none⟩)) := fun n => c0
  clear hx hrm hs hap hlen
  go_enter Try.func15, Try.ntmps15
  go_wp2_with (fail)
  refine K.mono ?_
  rintro e w1 ⟨rfl, rfl⟩
  go_wp2_with (fail)
  refine KL.mono ?_
  rintro e w1 ⟨rfl, n, rfl⟩
  go_wp2_with (fail)
  refine (HP.out n).mono ?_
  rintro e w2 ⟨rfl, sv2, hx2, f2⟩
  have HX2 : Hid (PuX w2 (Grow O w w2) b r sv2 tv (L ++ bs) lim true T) := hx2
  have HF2 : Hid (Fr O w w2) := f2
  clear hx2 f2
  go_wp2
  go_ret
  exact ⟨rfl, ⟨⟨_, _, _, HX2.out⟩, .inl ob, PuAt.grow lt HF2.out.size, few, tl⟩, HF2.out⟩
end Go.Proofs.Ytibiiagdhdmpiaa
