/- The walk of ReaderPlays. -/
import Derived.Test.YtikaefjhmgcidaaZTk
import Derived.Test.YtikaefjhmgcidaaZMPn
import Derived.Test.YtikaefjhmgcidaaZMPl
import Derived.Test.YtikaefjhmgcidaaZML7
namespace Go.Proofs.Ytikaefjhmgcidaa
open Go.RowKit
set_option linter.unusedVariables false
set_option maxRecDepth 100000
set_option maxHeartbeats 4000000

/-- How far a round has come: behind a chunk of m bytes, asked k times. -/
def Went (most : Int) (C : List UInt8) (k : Nat) (B : List UInt8) (X : Flt) : Prop :=
  (X.is = true ∧ X.st = 0 ∧ k = 0) ∨ (X.is = false ∧ ((k = 0 ∧ ∃ B0, Dry most B0 X ∧ B = B0 ++ C) ∨ (1 ≤ k ∧ B.length + 9 * (k - 1) ≤ C.length)))
def Rests (most : Int) (B : List UInt8) (X : Flt) : Prop := (X.is = true ∧ X.st = 0) ∨ (X.is = false ∧ Dry most B X)
theorem Went.few {most : Int} {C B : List UInt8} {k : Nat} {X : Flt} (h : Went most C k B X) : k ≤ C.length + 20 := by
  rcases h with ⟨_, _, h⟩ | ⟨_, ⟨h, _⟩ | ⟨_, h⟩⟩ <;> omega
theorem Went.next {most : Int} {C B : List UInt8} {k : Nat} {X : Flt} (h : Went most C k B X) (ht : told (nextR most B X)) : Went most C (k + 1) (nextR most B X).2.1 (nextR most B X).2.2 := by
  rcases h with ⟨h1, h2, _⟩ | ⟨h1, h2⟩
  · rw [show nextR most B X = ((zeroF, false, X), B, X) from by rw [nextR_eq, if_pos h1]] at ht
    rcases ht with ht | ht
    · simp at ht
    · exact absurd h2 ht.2
  · obtain ⟨g1, g2⟩ := told_less h1 ht
    refine .inr ⟨by rw [g2]; exact h1, .inr ⟨by omega, ?_⟩⟩
    rcases h2 with ⟨rfl, B0, hd, rfl⟩ | ⟨h2, h3⟩
    · have := told_first h1 hd C ht
      omega
    · omega
theorem Went.ends {most : Int} {C B : List UInt8} {k : Nat} {X : Flt} (h : Went most C k B X) (ht : ¬ told (nextR most B X)) : Rests most (nextR most B X).2.1 (nextR most B X).2.2 := by
  rcases untold ht (fun hx => by rcases h with ⟨_, h2, _⟩ | ⟨h1, _⟩; exact h2; rw [h1] at hx; cases hx) with h | h
  · exact .inl h
  · exact .inr h
theorem next_shorter (most : Int) (B : List UInt8) (X : Flt) : (nextR most B X).2.1.length ≤ B.length := by
  cases hX : X.is
  · exact (next_less most (B.length + 1) B X (by omega) hX).1
  · rw [nextR_eq, if_pos hX]
    exact Nat.le_refl _
theorem Rdr.short {w : World} {g : Nat} {most : Int} {B : List UInt8} {X : Flt} {ob : Option Nat} {M : Nat} (h : Rdr w g most B X ob M) (hX : X.is = false) : B.length ≤ M := by
  obtain ⟨a, n, c, at_, D, hr, ho, hat, rfl, hob, hM⟩ := h
  have := hM hX
  rw [List.length_drop]
  omega

theorem Rdr.failed {w : World} {g : Nat} {most : Int} {B : List UInt8} {X : Flt} {ob : Option Nat} {M : Nat} (h : Rdr w g most B X ob M) (hX : X.is = true) (N : Nat) : Rdr w g most B X ob N := by
  obtain ⟨a, n, c, at_, D, hr, ho, hat, rfl, hob, hM⟩ := h
  exact ⟨a, n, c, at_, D, hr, ho, hat, rfl, hob, fun h => by rw [hX] at h; cases h⟩
theorem told_is {gf : Fra} {fi : Bool} {fs fcd : Int} {B : List UInt8} {X : Flt} : told ((gf, true, ⟨fi, fs, fcd⟩), B, X) := .inl rfl
theorem told_fault {gf : Fra} {fs fcd : Int} {B : List UInt8} {X : Flt} (h : (fs == 0) = false) : told ((gf, false, ⟨true, fs, fcd⟩), B, X) := .inr ⟨rfl, by simpa using h⟩
theorem untold_none {gf : Fra} {fs fcd : Int} {B : List UInt8} {X : Flt} : ¬ told ((gf, false, ⟨false, fs, fcd⟩), B, X) := fun h => by
  rcases h with h | h
  · simp at h
  · simp at h
theorem untold_fault {gf : Fra} {fs fcd : Int} {B : List UInt8} {X : Flt} (h : (fs == 0) = true) : ¬ told ((gf, false, ⟨true, fs, fcd⟩), B, X) := fun h' => by
  rcases h' with h' | h'
  · simp at h'
  · exact h'.2 (by simpa using h)
theorem plays_walk (most : Int) (lq : Option Addr) (lc : Nat) (L : List (List UInt8)) (w : World) (hmost : (Lit.int .i64 most).wf = true) (hL : ChunksAt w lq lc L) :
    Calls Try.prog 3 #[.int .i64 most, .slice lq L.length lc] w fun e w' => e = .returned (.bool true) ∧ Below w.heap.size w w' := by
  by_cases hin : 16384 ≤ most ∧ most ≤ 16777215
  case neg =>
    go_enter Try.func3, Try.ntmps3
    go_wp2_with (first
      | (go_at_call 8; refine (nNew_not most _ hin).mono ?_; rintro e w' ⟨rfl, rfl⟩)
      | (go_at_call 9; refine (rnNew_not most _ hin).mono ?_; rintro e w' ⟨rfl, rfl⟩))
    go_loopw [9] (fun v9 wr => wr = w) (fun _ _ => 0)
    case atStart => rfl
    case round =>
      obtain rfl := hrel
      go_wp2_with (go_at_call 17; refine (nawake_in _).mono ?_; rintro e w' ⟨rfl, hf⟩)
      go_ret
      exact ⟨rfl, hf.below (fun _ _ => id)⟩
  case pos =>
    have hm0 : 0 < most := by omega
    have HL : Hid (ChunksAt w lq lc L) := hL
    have hLs : L.length * 24 < 2 ^ 47 := hL.few
    have HMO : Hid ((Lit.int .i64 most).wf = true) := hmost
    have HIN : Hid (16384 ≤ most ∧ most ≤ 16777215) := hin
    clear hL hmost
    go_enter Try.func3, Try.ntmps3
    go_wp2_with (first
      | (go_at_call 8; refine (New_rdr most _ HIN.out.1 HIN.out.2).mono ?_; rintro e w1 ⟨rfl, r1, f1⟩; have R1 : Hid (Rdr w1 w.heap.size most [] ⟨false, 0, 0⟩ none 0 ∧ Fr (fun _ => False) w w1) := ⟨r1, f1⟩; clear r1 f1)
      | (go_at_call 9; refine (rnNew_in most _ HIN.out.1 HIN.out.2).mono ?_; rintro e w2 ⟨rfl, r2, f2⟩; have R2 : Hid (RRd w2 w1.heap.size most [] ⟨false, 0, 0⟩ none ∧ Fr (fun _ => False) w1 w2) := ⟨r2, f2⟩; clear r2 f2))
    obtain ⟨g2, hg2⟩ : ∃ g2, g2 = w1.heap.size := ⟨_, rfl⟩
    have T0 : Hid (Two w w2 w.heap.size g2 most [] ⟨false, 0, 0⟩ none 0 [] ⟨false, 0, 0⟩ none) := by
      have hz := R1.out.1.lt.1
      rw [hg2]
      exact ⟨R1.out.1.later R2.out.2, R2.out.1, by omega, by simp, by simp, fun k e => (by cases e), Nat.le_refl _, by omega, fun k e => (by cases e), fun k e => (by cases e), R1.out.2.trans R2.out.2⟩
    rw [← hg2]
    clear hg2 R1 R2
    go_loopw [9] (fun v9 wr => ∃ (i : Nat) (B : List UInt8) (X : Flt) (ob ob2 : Option Nat), v9 = .int .i64 (i : Int) ∧ i ≤ L.length ∧ Hid (Two w wr w.heap.size g2 most B X ob 33554448 B X ob2 ∧ B.length ≤ 140737521909776 ∧ Rests most B X)) (fun v9 _ => L.length - (intOf v9).toNat)
    case atStart => exact ⟨0, [], ⟨false, 0, 0⟩, none, none, rfl, by omega, { T0.out with p := T0.out.p.mono (by omega) }, by simp, .inr ⟨rfl, next_nil most (by omega) _ rfl⟩⟩
    case round =>
      rename World => wo
      obtain ⟨i, B, X, ob, ob2, rfl, hi, HR⟩ := hrel
      by_cases hlt : i < L.length
      case neg =>
        go_wp2_with (go_at_call 17; refine (nawake_in _).mono ?_; rintro e w' ⟨rfl, hf⟩)
        go_ret
        exact ⟨rfl, (HR.out.1.fr.trans hf).below (fun _ _ => id)⟩
      case pos =>
        have hlti : (i : Int) < (L.length : Int) := by omega
        obtain ⟨C, hC⟩ : ∃ C, L[i]? = some C := ⟨_, List.getElem?_eq_getElem hlt⟩
        obtain ⟨lb, lo, cp0, cd, rfl, hlb, hcell, hsrc, hC47, hCd⟩ := HL.out.cells i C hC
        have HCELL : Hid (∀ w', Fr (fun _ => False) w w' → w'.cell? ⟨lb, lo + i, none⟩ = some (.slice cp0 C.length cd) ∧ SrcAt w' cp0 C) := fun w' hf => ⟨(hf.cell (p := ⟨lb, lo + i, none⟩) hlb id).trans hcell, hsrc.oldF hf⟩
        have HC : Hid (L[i]? = some C) := hC
        obtain ⟨m, hm⟩ : ∃ m, C.length = m := ⟨_, rfl⟩
        have HM : Hid (C.length = m) := hm
        rw [hm] at HCELL hC47 hCd
        clear hC hcell hsrc hm
        obtain ⟨j, j1, j2, j3, j4⟩ := info5
        have J1 : Hid (Try.prog.info? 5 = some j) := j1
        have J2 : Hid (j.zero = some (.int .u8 0)) := j2
        have J3 : Hid (j.size = 1) := j3
        have J4 : Hid (j.bytes = 1) := j4
        clear j1 j2 j3 j4
        have HZ : Hid (X.is = true → X.st = 0) := fun h => by
          rcases HR.out.2.2 with h1 | h1
          · exact h1.2
          · rw [h1.1] at h; cases h
        have HD : Hid (X.is = false → Dry most B X) := fun h => by
          rcases HR.out.2.2 with h1 | h1
          · rw [h1.1] at h; cases h
          · exact h1.2
        have HBS : Hid (X.is = false → B.length ≤ 16777224) := fun h => by
          have := dry_small (most := most) (by omega) h (HD.out h)
          omega
        go_upto_region 8 with (fail)
        go_cut [61] from 37 to 129 (fun s61 wc => s61 = .bool false ∧ ∃ (B1 : List UInt8) (ob1 ob21 : Option Nat), Hid (Two w wc w.heap.size g2 most B1 X ob1 140737521909776 B1 X ob21 ∧ B1.length ≤ 140737521909776 ∧ Went most C 0 B1 X))
        case first =>
          have c0 := (HCELL.out _ HR.out.1.fr).1
          cases hX : X.is
          case true =>
            refine wp_region_held_drew (S := fun w2 => w2.cell? ⟨lb, lo + i, none⟩ = some (.slice cp0 m cd)) (by kernel_rfl) c0 (fun hHeld => ?_)
            refine wpAnyH_take (i := 0) (oi := _) (v := .pointer (some ⟨w.heap.size, 0, none⟩)) rfl (by kernel_rfl) (by kernel_rfl) (by kernel_rfl) (fun _ _ _ h => h) (Or.inl ⟨by kernel_rfl, fun w2 hw => by go_simp⟩) hHeld ?_
            refine wpAnyH_take (i := 2) (oi := _) (v := .slice (some ⟨lb, lo, none⟩) L.length lc) rfl (by kernel_rfl) (by kernel_rfl) (by kernel_rfl) (fun _ _ _ h => h) (Or.inl ⟨by kernel_rfl, fun w2 hw => by go_simp⟩) hHeld ?_
            refine wpAnyH_take (i := 3) (oi := _) (v := .int .i64 (i : Int)) rfl (by kernel_rfl) (by kernel_rfl) (by kernel_rfl) (fun _ _ _ h => h) (Or.inl ⟨by kernel_rfl, fun w2 hw => by go_simp⟩) hHeld ?_
            refine wpAnyH_take (i := 4) (oi := _) (v := .pointer (some ⟨lb, lo + i, none⟩)) rfl (by kernel_rfl) (by kernel_rfl) (by kernel_rfl) (fun _ _ _ h => h) (Or.inl ⟨by kernel_rfl, fun w2 hw => by go_simp⟩) hHeld ?_
            refine wpAnyH_take (i := 5) (oi := _) (v := .slice cp0 m cd) rfl (by kernel_rfl) (by kernel_rfl) (by kernel_rfl) (fun _ _ _ h => h) (Or.inl ⟨by kernel_rfl, fun w2 hw => by go_simp⟩) hHeld ?_
            refine wpAnyH_take (i := 8) (oi := _) (v := .pointer (some ⟨g2, 0, none⟩)) rfl (by kernel_rfl) (by kernel_rfl) (by kernel_rfl) (fun _ _ _ h => h) (Or.inl ⟨by kernel_rfl, fun w2 hw => by go_simp⟩) hHeld ?_
            refine wpAnyH_take (i := 9) (oi := _) (v := .slice (some ⟨lb, lo, none⟩) L.length lc) rfl (by kernel_rfl) (by kernel_rfl) (by kernel_rfl) (fun _ _ _ h => h) (Or.inl ⟨by kernel_rfl, fun w2 hw => by go_simp⟩) hHeld ?_
            refine wpAnyH_take (i := 10) (oi := _) (v := .int .i64 (i : Int)) rfl (by kernel_rfl) (by kernel_rfl) (by kernel_rfl) (fun _ _ _ h => h) (Or.inl ⟨by kernel_rfl, fun w2 hw => by go_simp⟩) hHeld ?_
            refine wpAnyH_take (i := 11) (oi := _) (v := .pointer (some ⟨lb, lo + i, none⟩)) rfl (by kernel_rfl) (by kernel_rfl) (by kernel_rfl) (fun _ _ _ h => h) (Or.inl ⟨by kernel_rfl, fun w2 hw => by go_simp⟩) hHeld ?_
            refine wpAnyH_take (i := 12) (oi := _) (v := .slice cp0 m cd) rfl (by kernel_rfl) (by kernel_rfl) (by kernel_rfl) (fun _ _ _ h => h) (Or.inl ⟨by kernel_rfl, fun w2 hw => by go_simp⟩) hHeld ?_
            simp only [Act.put, List.getElem_toArray, List.getElem_cons_succ, List.getElem_cons_zero, List.setIfInBounds_toArray, List.set_cons_zero, List.set_cons_succ]
            obtain ⟨w0, hw0⟩ : ∃ w0, w0 = wo.drew := ⟨_, rfl⟩
            have F0 : Hid (Fr (fun _ => False) wo w0) := by rw [hw0]; exact (Fr.refl _ _).drew
            rw [← hw0] at hHeld ⊢
            clear hw0
            refine wpAnyH_ready (rs := [1]) (by kernel_rfl) (by simp) ?_
            refine AllReadyH.cons rfl (fun K hK => ?_) AllReadyH.nil
            go_simp
            refine hK.out _ _ ((HCELL.out _ ((HR.out.1.fr.trans F0.out).alloc _)).1) (fun _ => ?_)
            clear hK K
            refine wpAnyH_ready (rs := [6]) (by kernel_rfl) (by simp) ?_
            refine AllReadyH.cons rfl (fun K hK => ?_) AllReadyH.nil
            refine step_append_bytes rfl (.tmp 48) (.tmp 52) 31 31 rfl 5 j Try.underlying31 Try.underlying31 J1.out J2.out J3.out J4.out (.slice (some ⟨w0.heap.size, 0, none⟩) 0 0) [] (by go_simp) (own_empty w0 5) cp0 m cd (by go_simp) C (HCELL.out _ ((HR.out.1.fr.trans F0.out).alloc _)).2 HM.out (by simp; omega) ?_
            intro a' n' c' w1 N1 O1 F1 B1
            obtain rfl : m = n' := by have := N1.out; simp at this; exact this.symm
            have FC1 : Hid (Fr (fun _ => False) w0 w1) := (((Fr.refl (fun k => k = w0.heap.size) _).alloc _).trans (F1.out.mono (fun k _ e => by simp [Value.ownBlock] at e; omega))).mono (fun k hk e => by omega)
            have T1 : Hid (Two w w1 w.heap.size g2 most B X ob 33554448 B X ob2 ∧ SrcAt w1 a' C ∧ SrcAt w1 cp0 C) := ⟨HR.out.1.later (F0.out.trans FC1.out), (by have h1 := own_src O1; rw [List.nil_append] at h1; exact h1), (HCELL.out _ (HR.out.1.fr.trans (F0.out.trans FC1.out))).2⟩
            refine hK.out _ _ ((HCELL.out _ T1.out.1.fr).1) (fun hHeld1 => ?_)
            clear hK K
            refine wpAnyH_ready (rs := [7]) (by kernel_rfl) (by simp) ?_
            refine AllReadyH.cons rfl (fun K hK => ?_) AllReadyH.nil
            go_simp
            refine (Feed_rdr_failed w.heap.size most B X ob 33554448 _ w1 T1.out.1.p hm0 hX).mono ?_
            rintro e w' ⟨rfl, rfl⟩
            refine hK.out _ _ hHeld1 (fun _ => ?_)
            clear hK K
            refine wpAnyH_ready (rs := [13]) (by kernel_rfl) (by simp) ?_
            refine AllReadyH.cons rfl (fun K hK => ?_) AllReadyH.nil
            go_simp
            refine (rnFeed_failed g2 most B X ob2 _ w1 T1.out.1.d hX).mono ?_
            rintro e w' ⟨rfl, rfl⟩
            refine hK.out _ _ hHeld1 (fun _ => ?_)
            clear hK K
            refine wpAnyH_take (i := 14) (oi := _) (v := .bool false) rfl (by kernel_rfl) (by kernel_rfl) (by kernel_rfl) (fun _ _ _ h => h) (Or.inl ⟨by kernel_rfl, fun w2 hw => by go_simp⟩) hHeld1 ?_
            simp only [Act.put, List.getElem_toArray, List.getElem_cons_succ, List.getElem_cons_zero, List.setIfInBounds_toArray, List.set_cons_zero, List.set_cons_succ]
            refine wpAnyH_done (by kernel_rfl) ?_ _
            go_wp2_with (fail)
            go_meet
            case rel => exact ⟨rfl, B, ob, ob2, { T1.out.1 with p := T1.out.1.p.mono (by omega) }, HR.out.2.1, .inl ⟨hX, HZ.out hX, rfl⟩⟩
          case false =>
            refine wp_region_held_drew (S := fun w2 => w2.cell? ⟨lb, lo + i, none⟩ = some (.slice cp0 m cd)) (by kernel_rfl) c0 (fun hHeld => ?_)
            refine wpAnyH_take (i := 0) (oi := _) (v := .pointer (some ⟨w.heap.size, 0, none⟩)) rfl (by kernel_rfl) (by kernel_rfl) (by kernel_rfl) (fun _ _ _ h => h) (Or.inl ⟨by kernel_rfl, fun w2 hw => by go_simp⟩) hHeld ?_
            refine wpAnyH_take (i := 2) (oi := _) (v := .slice (some ⟨lb, lo, none⟩) L.length lc) rfl (by kernel_rfl) (by kernel_rfl) (by kernel_rfl) (fun _ _ _ h => h) (Or.inl ⟨by kernel_rfl, fun w2 hw => by go_simp⟩) hHeld ?_
            refine wpAnyH_take (i := 3) (oi := _) (v := .int .i64 (i : Int)) rfl (by kernel_rfl) (by kernel_rfl) (by kernel_rfl) (fun _ _ _ h => h) (Or.inl ⟨by kernel_rfl, fun w2 hw => by go_simp⟩) hHeld ?_
            refine wpAnyH_take (i := 4) (oi := _) (v := .pointer (some ⟨lb, lo + i, none⟩)) rfl (by kernel_rfl) (by kernel_rfl) (by kernel_rfl) (fun _ _ _ h => h) (Or.inl ⟨by kernel_rfl, fun w2 hw => by go_simp⟩) hHeld ?_
            refine wpAnyH_take (i := 5) (oi := _) (v := .slice cp0 m cd) rfl (by kernel_rfl) (by kernel_rfl) (by kernel_rfl) (fun _ _ _ h => h) (Or.inl ⟨by kernel_rfl, fun w2 hw => by go_simp⟩) hHeld ?_
            refine wpAnyH_take (i := 8) (oi := _) (v := .pointer (some ⟨g2, 0, none⟩)) rfl (by kernel_rfl) (by kernel_rfl) (by kernel_rfl) (fun _ _ _ h => h) (Or.inl ⟨by kernel_rfl, fun w2 hw => by go_simp⟩) hHeld ?_
            refine wpAnyH_take (i := 9) (oi := _) (v := .slice (some ⟨lb, lo, none⟩) L.length lc) rfl (by kernel_rfl) (by kernel_rfl) (by kernel_rfl) (fun _ _ _ h => h) (Or.inl ⟨by kernel_rfl, fun w2 hw => by go_simp⟩) hHeld ?_
            refine wpAnyH_take (i := 10) (oi := _) (v := .int .i64 (i : Int)) rfl (by kernel_rfl) (by kernel_rfl) (by kernel_rfl) (fun _ _ _ h => h) (Or.inl ⟨by kernel_rfl, fun w2 hw => by go_simp⟩) hHeld ?_
            refine wpAnyH_take (i := 11) (oi := _) (v := .pointer (some ⟨lb, lo + i, none⟩)) rfl (by kernel_rfl) (by kernel_rfl) (by kernel_rfl) (fun _ _ _ h => h) (Or.inl ⟨by kernel_rfl, fun w2 hw => by go_simp⟩) hHeld ?_
            refine wpAnyH_take (i := 12) (oi := _) (v := .slice cp0 m cd) rfl (by kernel_rfl) (by kernel_rfl) (by kernel_rfl) (fun _ _ _ h => h) (Or.inl ⟨by kernel_rfl, fun w2 hw => by go_simp⟩) hHeld ?_
            simp only [Act.put, List.getElem_toArray, List.getElem_cons_succ, List.getElem_cons_zero, List.setIfInBounds_toArray, List.set_cons_zero, List.set_cons_succ]
            obtain ⟨w0, hw0⟩ : ∃ w0, w0 = wo.drew := ⟨_, rfl⟩
            have F0 : Hid (Fr (fun _ => False) wo w0) := by rw [hw0]; exact (Fr.refl _ _).drew
            rw [← hw0] at hHeld ⊢
            clear hw0
            refine wpAnyH_ready (rs := [1]) (by kernel_rfl) (by simp) ?_
            refine AllReadyH.cons rfl (fun K hK => ?_) AllReadyH.nil
            go_simp
            refine hK.out _ _ ((HCELL.out _ ((HR.out.1.fr.trans F0.out).alloc _)).1) (fun _ => ?_)
            clear hK K
            refine wpAnyH_ready (rs := [6]) (by kernel_rfl) (by simp) ?_
            refine AllReadyH.cons rfl (fun K hK => ?_) AllReadyH.nil
            refine step_append_bytes rfl (.tmp 48) (.tmp 52) 31 31 rfl 5 j Try.underlying31 Try.underlying31 J1.out J2.out J3.out J4.out (.slice (some ⟨w0.heap.size, 0, none⟩) 0 0) [] (by go_simp) (own_empty w0 5) cp0 m cd (by go_simp) C (HCELL.out _ ((HR.out.1.fr.trans F0.out).alloc _)).2 HM.out (by simp; omega) ?_
            intro a' n' c' w1 N1 O1 F1 B1
            obtain rfl : m = n' := by have := N1.out; simp at this; exact this.symm
            have FC1 : Hid (Fr (fun _ => False) w0 w1) := (((Fr.refl (fun k => k = w0.heap.size) _).alloc _).trans (F1.out.mono (fun k _ e => by simp [Value.ownBlock] at e; omega))).mono (fun k hk e => by omega)
            have T1 : Hid (Two w w1 w.heap.size g2 most B X ob 33554448 B X ob2 ∧ SrcAt w1 a' C ∧ SrcAt w1 cp0 C) := ⟨HR.out.1.later (F0.out.trans FC1.out), (by have h1 := own_src O1; rw [List.nil_append] at h1; exact h1), (HCELL.out _ (HR.out.1.fr.trans (F0.out.trans FC1.out))).2⟩
            refine hK.out _ _ ((HCELL.out _ T1.out.1.fr).1) (fun hHeld1 => ?_)
            clear hK K
            refine wpAnyH_ready (rs := [7]) (by kernel_rfl) (by simp) ?_
            refine AllReadyH.cons rfl (fun K hK => ?_) AllReadyH.nil
            go_simp
            refine (Feed_rdr w.heap.size most B X ob 33554448 a' m c' C w1 T1.out.1.p hm0 hX T1.out.2.1 HM.out (by omega)).mono ?_
            rintro e w3 ⟨rfl, ob3, r3, f3, o3⟩
            have T3 : Hid (Two w w3 w.heap.size g2 most (B ++ C) X ob3 (33554448 + m) B X ob2) := T1.out.1.stepP r3 f3 o3
            refine hK.out _ _ ((HCELL.out _ T3.out.fr).1) (fun hHeld3 => ?_)
            clear r3 f3 o3
            clear hK K
            refine wpAnyH_ready (rs := [13]) (by kernel_rfl) (by simp) ?_
            refine AllReadyH.cons rfl (fun K hK => ?_) AllReadyH.nil
            go_simp
            refine (rnFeed_in g2 most B X ob2 cp0 m cd C w3 T3.out.d hX (HCELL.out _ T3.out.fr).2 HM.out (by have := HR.out.2.1; have := HBS.out hX; omega)).mono ?_
            rintro e w4 ⟨rfl, ob4, r4, f4, o4⟩
            have T4 : Hid (Two w w4 w.heap.size g2 most (B ++ C) X ob3 (33554448 + m) (B ++ C) X ob4) := T3.out.stepD r4 f4 o4
            refine hK.out _ _ ((HCELL.out _ T4.out.fr).1) (fun hHeld4 => ?_)
            clear r4 f4 o4
            clear hK K
            refine wpAnyH_take (i := 14) (oi := _) (v := .bool false) rfl (by kernel_rfl) (by kernel_rfl) (by kernel_rfl) (fun _ _ _ h => h) (Or.inl ⟨by kernel_rfl, fun w2 hw => by go_simp⟩) hHeld4 ?_
            simp only [Act.put, List.getElem_toArray, List.getElem_cons_succ, List.getElem_cons_zero, List.setIfInBounds_toArray, List.set_cons_zero, List.set_cons_succ]
            refine wpAnyH_done (by kernel_rfl) ?_ _
            go_wp2_with (fail)
            go_meet
            case rel => exact ⟨rfl, B ++ C, ob3, ob4, { T4.out with p := T4.out.p.mono (by omega) }, by rw [List.length_append, HM.out]; have := HBS.out hX; omega, .inr ⟨hX, .inl ⟨rfl, B, HD.out hX, rfl⟩⟩⟩
        case rest =>
          obtain ⟨rfl, B1, ob1, ob21, HT⟩ := hcut
          clear HR HZ HBS HD
          go_wp2_with (fail)
          go_loopw [10] (fun v10 wr => ∃ (k : Nat) (B2 : List UInt8) (X2 : Flt) (oa od : Option Nat), v10 = .int .i64 (k : Int) ∧ Hid (Two w wr w.heap.size g2 most B2 X2 oa 140737521909776 B2 X2 od ∧ B2.length ≤ 140737521909776 ∧ Went most C k B2 X2)) (fun v10 _ => (m + 21) - (intOf v10).toNat)
          case atStart => exact ⟨0, B1, X, ob1, ob21, rfl, HT.out⟩
          case round =>
            obtain ⟨k, B2, X2, oa, od, rfl, HK⟩ := hrel
            have hk : k ≤ m + 20 := by have := HK.out.2.2.few; rw [HM.out] at this; exact this
            have hki : (k : Int) ≤ (m : Int) + 20 := by omega
            have cc := (HCELL.out _ HK.out.1.fr).1
            have KN := Next_in w.heap.size most B2 X2 oa 140737521909776 wr HK.out.1.p (by omega) hm0 HMO.out
            have HNU : Hid (Nums (nextR most B2 X2).1.1) := next_nums most (B2.length + 1) B2 X2 (by omega)
            have HWT : Hid (told (nextR most B2 X2) → Went most C (k + 1) (nextR most B2 X2).2.1 (nextR most B2 X2).2.2) := fun ht => HK.out.2.2.next ht
            have HWE : Hid (¬ told (nextR most B2 X2) → Rests most (nextR most B2 X2).2.1 (nextR most B2 X2).2.2) := fun ht => HK.out.2.2.ends ht
            have HLB : Hid ((nextR most B2 X2).2.1.length ≤ B2.length) := next_shorter most B2 X2
            obtain ⟨⟨⟨gf, is, ⟨fi, fs, fcd⟩⟩, B', X'⟩, hr⟩ : ∃ r, nextR most B2 X2 = r := ⟨_, rfl⟩
            have HRR : Hid (nextR most B2 X2 = ((gf, is, ⟨fi, fs, fcd⟩), B', X')) := hr
            rw [hr] at KN HNU HWT HWE HLB
            clear hr
            have HG2 : Hid (g2 < wr.heap.size ∧ w.heap.size < wr.heap.size) := ⟨HK.out.1.d.lt.1, HK.out.1.p.lt.1⟩
            go_upto_region 14 with (first
              | (go_at_call 12; refine KN.mono ?_; clear KN; rintro e y1 ⟨p, cp, q, cq, o1, rfl, hs1, hy1, hp1, hq1, r1, f1, n1⟩; have T1 : Hid (Two w y1 w.heap.size g2 most B' X' o1 (min 140737521909776 (2 * B'.length)) B2 X2 od) := HK.out.1.stepP r1 (f1.mono (fun _ _ e => .inl e)) n1; have P1 : Hid (SrcAt y1 p gf.X ∧ SetsAt y1 q cq gf.Y ∧ (∀ ad, p = some ad → 0 < gf.X.length → wr.heap.size ≤ ad.block) ∧ (∀ ad, q = some ad → 0 < gf.Y.length → wr.heap.size ≤ ad.block)) := ⟨hs1, hy1, fun ad e hl => (hp1 ad e hl).1, fun ad e hl => (hq1 ad e hl).1⟩; have Z1 : Hid (wr.heap.size ≤ y1.heap.size) := f1.size; clear hs1 hy1 hp1 hq1 r1 f1 n1)
              | (refine wpList_storeB rfl 36 (.tmp 11) (.tmp 75) rfl y1.heap.size #[.int .i64 0, .int .i64 0, .int .i64 0, .slice none 0 0, .int .i64 0, .int .u32 0, .int .i64 0, .int .i64 0, .int .i64 0, .bool false, .int .i64 0, .slice none 0 0] #[.int .i64 gf.k, .int .i64 gf.fl, .int .i64 gf.st, .slice p gf.X.length cp, .int .i64 gf.pad, .int .u32 gf.code, .int .i64 gf.last, .int .i64 gf.inc, .int .i64 gf.dep, .bool gf.only, .int .i64 gf.wt, .slice q gf.Y.length cq] 36 rfl rfl (past_at _ (heap_alloc_new y1 _)) rfl (by kernel_rfl) (by simp [Value.oneCell']) ?_; intro y2 H2 G2)
              | (refine wpList_storeB rfl 38 (.tmp 13) (.tmp 77) rfl (y1.heap.size + 1) #[.bool false, .int .i64 0, .int .i64 0] #[.bool fi, .int .i64 fs, .int .i64 fcd] 38 rfl rfl ((G2.out.block _ (by simp) (by omega)).trans (last_at _ (by simp))) rfl (by kernel_rfl) (by simp [Value.oneCell']) ?_; intro y3 H3 G3))
            have FF3 : Hid (Fr (fun _ => False) y1 y3) := ((((Fr.refl (fun k => k = y1.heap.size ∨ k = y1.heap.size + 1) _).alloc _).alloc _).trans ((G2.out.mono (fun _ _ e => .inl e)).trans (G3.out.mono (fun _ _ e => .inr e)))).mono (fun k hk e => by omega)
            have A3 : Hid (FAt y3 y1.heap.size gf p cp q cq) := (G3.out.block _ (lt_of_heap H2.out) (by omega)).trans H2.out
            have B3 : Hid (y3.heap[y1.heap.size + 1]? = some (.cells #[.bool fi, .int .i64 fs, .int .i64 fcd] 38 (0, 0))) := H3.out
            have T3 : Hid (Two w y3 w.heap.size g2 most B' X' o1 (min 140737521909776 (2 * B'.length)) B2 X2 od) := T1.out.later FF3.out
            clear H2 G2 H3 G3
            have KD := rnNext_in g2 most B2 X2 od y3 T3.out.d (by have := HK.out.2.1; omega) HMO.out
            rw [HRR.out] at KD
            go_upto_region 15 with (first
              | (go_at_call 13; refine KD.mono ?_; clear KD; rintro e z1 ⟨p', cp', q', cq', o2, rfl, hs2, hy2, r2, f2, n2⟩; have T4 : Hid (Two w z1 w.heap.size g2 most B' X' o1 (min 140737521909776 (2 * B'.length)) B' X' o2) := T3.out.stepD r2 (f2.mono (fun _ _ e => .inl e)) n2; have P4 : Hid (SrcAt z1 p' gf.X ∧ SetsAt z1 q' cq' gf.Y ∧ Fr (fun k => k = g2) y3 z1) := ⟨hs2, hy2, f2⟩; clear hs2 hy2 r2 f2 n2)
              | (refine wpList_storeB rfl 36 (.tmp 14) (.tmp 81) rfl z1.heap.size #[.int .i64 0, .int .i64 0, .int .i64 0, .slice none 0 0, .int .i64 0, .int .u32 0, .int .i64 0, .int .i64 0, .int .i64 0, .bool false, .int .i64 0, .slice none 0 0] #[.int .i64 gf.k, .int .i64 gf.fl, .int .i64 gf.st, .slice p' gf.X.length cp', .int .i64 gf.pad, .int .u32 gf.code, .int .i64 gf.last, .int .i64 gf.inc, .int .i64 gf.dep, .bool gf.only, .int .i64 gf.wt, .slice q' gf.Y.length cq'] 36 rfl rfl (past_at _ (heap_alloc_new z1 _)) rfl (by kernel_rfl) (by simp [Value.oneCell']) ?_; intro z2 H2 G2)
              | (refine wpList_storeB rfl 38 (.tmp 16) (.tmp 83) rfl (z1.heap.size + 1) #[.bool false, .int .i64 0, .int .i64 0] #[.bool fi, .int .i64 fs, .int .i64 fcd] 38 rfl rfl ((G2.out.block _ (by simp) (by omega)).trans (last_at _ (by simp))) rfl (by kernel_rfl) (by simp [Value.oneCell']) ?_; intro z3 H3 G3))
            have FF5 : Hid (Fr (fun _ => False) z1 z3) := ((((Fr.refl (fun k => k = z1.heap.size ∨ k = z1.heap.size + 1) _).alloc _).alloc _).trans ((G2.out.mono (fun _ _ e => .inl e)).trans (G3.out.mono (fun _ _ e => .inr e)))).mono (fun k hk e => by omega)
            have F35 : Hid (Fr (fun k => k = g2) y3 z3) := P4.out.2.2.trans (FF5.out.mono (fun _ _ e => e.elim))
            have F15 : Hid (Fr (fun k => k = g2) y1 z3) := (FF3.out.mono (fun _ _ e => e.elim)).trans F35.out
            have T5 : Hid (Two w z3 w.heap.size g2 most B' X' o1 (min 140737521909776 (2 * B'.length)) B' X' o2) := T4.out.later FF5.out
            obtain ⟨ra, rn, rc, hrc, hro, hrob⟩ := T5.out.d
            have HRN : Hid (rn = B'.length) := (own_len hro).1
            obtain ⟨HS, hHS⟩ : ∃ HS : World → Prop, HS = fun w2 => FAt w2 y1.heap.size gf p cp q cq ∧ w2.heap[y1.heap.size + 1]? = some (.cells #[.bool fi, .int .i64 fs, .int .i64 fcd] 38 (0, 0)) ∧ FAt w2 z1.heap.size gf p' cp' q' cq' ∧ w2.heap[z1.heap.size + 1]? = some (.cells #[.bool fi, .int .i64 fs, .int .i64 fcd] 38 (0, 0)) ∧ RC2 w2 g2 most (.slice ra rn rc) X' := ⟨_, rfl⟩
            have HSD : Hid (∀ w2, HS w2 = (FAt w2 y1.heap.size gf p cp q cq ∧ w2.heap[y1.heap.size + 1]? = some (.cells #[.bool fi, .int .i64 fs, .int .i64 fcd] 38 (0, 0)) ∧ FAt w2 z1.heap.size gf p' cp' q' cq' ∧ w2.heap[z1.heap.size + 1]? = some (.cells #[.bool fi, .int .i64 fs, .int .i64 fcd] 38 (0, 0)) ∧ RC2 w2 g2 most (.slice ra rn rc) X')) := fun w2 => by rw [hHS]
            have hS0 : HS z3 := by
              rw [HSD.out]
              have hz := HG2.out; have hz1 := Z1.out
              exact ⟨(F35.out.block _ (lt_of_heap A3.out) (by omega)).trans A3.out, (F35.out.block _ (lt_of_heap B3.out) (by omega)).trans B3.out, (G3.out.block _ (lt_of_heap H2.out) (by omega)).trans H2.out, H3.out, hrc⟩
            have HKE : Hid (∀ w2 w3, HS w2 → Fr (fun _ => False) w2 w3 → HS w3) := fun w2 w3 hs hf => by
              rw [HSD.out] at hs ⊢
              exact ⟨hs.1.later hf, (hf.block _ (lt_of_heap hs.2.1) id).trans hs.2.1, hs.2.2.1.later hf, (hf.block _ (lt_of_heap hs.2.2.2.1) id).trans hs.2.2.2.1, hs.2.2.2.2.fr hf id⟩
            have P5 : Hid (SrcAt z3 p gf.X ∧ SetsAt z3 q cq gf.Y ∧ SrcAt z3 p' gf.X ∧ SetsAt z3 q' cq' gf.Y) := ⟨P1.out.1.fr F15.out (fun ad e hl e2 => by have := P1.out.2.2.1 ad e hl; have := HG2.out; omega), P1.out.2.1.fr F15.out (fun ad e hl e2 => by have := P1.out.2.2.2 ad e hl; have := HG2.out; omega), P4.out.1.oldF FF5.out, P4.out.2.1.later FF5.out⟩
            clear H2 G2 H3 G3 hrc hro hrob hHS
            refine wp_region_held_drew (S := HS) (by kernel_rfl) (HKE.out _ _ hS0 ((Fr.refl _ _).drew)) (fun hHeld => ?_)
            refine wpAnyH_take (i := 0) (oi := _) (v := .agg #[.int .i64 gf.k, .int .i64 gf.fl, .int .i64 gf.st, .slice p gf.X.length cp, .int .i64 gf.pad, .int .u32 gf.code, .int .i64 gf.last, .int .i64 gf.inc, .int .i64 gf.dep, .bool gf.only, .int .i64 gf.wt, .slice q gf.Y.length cq]) rfl (by kernel_rfl) (by kernel_rfl) (by kernel_rfl) (fun _ _ _ h => h) (Or.inl ⟨by kernel_rfl, fun w2 hw => by rw [HSD.out] at hw; obtain ⟨c0, c1, c2, c3, c4, c5, c6, c7, c8, c9, c10, c11⟩ := fcells hw.1; go_simp⟩) hHeld ?_
            refine wpAnyH_take (i := 1) (oi := _) (v := .agg #[.int .i64 gf.k, .int .i64 gf.fl, .int .i64 gf.st, .slice p' gf.X.length cp', .int .i64 gf.pad, .int .u32 gf.code, .int .i64 gf.last, .int .i64 gf.inc, .int .i64 gf.dep, .bool gf.only, .int .i64 gf.wt, .slice q' gf.Y.length cq']) rfl (by kernel_rfl) (by kernel_rfl) (by kernel_rfl) (fun _ _ _ h => h) (Or.inl ⟨by kernel_rfl, fun w2 hw => by rw [HSD.out] at hw; obtain ⟨c0, c1, c2, c3, c4, c5, c6, c7, c8, c9, c10, c11⟩ := fcells hw.2.2.1; go_simp⟩) hHeld ?_
            simp only [Act.put, List.getElem_toArray, List.getElem_cons_succ, List.getElem_cons_zero, List.setIfInBounds_toArray, List.set_cons_zero, List.set_cons_succ]
            refine wpAnyH_ready (rs := [2]) (by kernel_rfl) (by simp) ?_
            refine AllReadyH.cons rfl (fun K hK => ?_) AllReadyH.nil
            go_simp
            refine (nsame_in gf p q p' q' cp cq cp' cq' _ HNU.out (P5.out.1.oldF ((Fr.refl _ _).drew)) (P5.out.2.2.1.oldF ((Fr.refl _ _).drew)) (P5.out.2.1.later ((Fr.refl _ _).drew)) (P5.out.2.2.2.later ((Fr.refl _ _).drew))).mono ?_
            rintro e u1 ⟨rfl, fu⟩
            have FU : Hid (Fr (fun _ => False) z3 u1) := ((Fr.refl _ _).drew).trans fu
            refine hK.out _ _ (HKE.out _ _ hS0 FU.out) (fun hH1 => ?_)
            clear fu
            clear hK K
            refine wpAnyH_take (i := 3) (oi := _) (v := .bool false) rfl (by kernel_rfl) (by kernel_rfl) (by kernel_rfl) (fun _ _ _ h => h) (Or.inl ⟨by kernel_rfl, fun w2 hw => by go_simp⟩) hH1 ?_
            refine wpAnyH_take (i := 4) (oi := _) (v := .bool false) rfl (by kernel_rfl) (by kernel_rfl) (by kernel_rfl) (fun _ _ _ h => h) (Or.inl ⟨by kernel_rfl, fun w2 hw => by go_simp⟩) hH1 ?_
            refine wpAnyH_take (i := 5) (oi := _) (v := .bool is) rfl (by kernel_rfl) (by kernel_rfl) (by kernel_rfl) (fun _ _ _ h => h) (Or.inl ⟨by kernel_rfl, fun w2 hw => by go_simp⟩) hH1 ?_
            refine wpAnyH_take (i := 6) (oi := _) (v := .bool is) rfl (by kernel_rfl) (by kernel_rfl) (by kernel_rfl) (fun _ _ _ h => h) (Or.inl ⟨by kernel_rfl, fun w2 hw => by go_simp⟩) hH1 ?_
            refine wpAnyH_take (i := 7) (oi := _) (v := .bool false) rfl (by kernel_rfl) (by kernel_rfl) (by kernel_rfl) (fun _ _ _ h => h) (Or.inl ⟨by kernel_rfl, fun w2 hw => by go_simp⟩) hH1 ?_
            refine wpAnyH_take (i := 8) (oi := _) (v := .bool false) rfl (by kernel_rfl) (by kernel_rfl) (by kernel_rfl) (fun _ _ _ h => h) (Or.inl ⟨by kernel_rfl, fun w2 hw => by go_simp⟩) hH1 ?_
            refine wpAnyH_take (i := 9) (oi := _) (v := .bool false) rfl (by kernel_rfl) (by kernel_rfl) (by kernel_rfl) (fun _ _ _ h => h) (Or.inl ⟨by kernel_rfl, fun w2 hw => by go_simp⟩) hH1 ?_
            refine wpAnyH_take (i := 10) (oi := _) (v := .agg #[.bool fi, .int .i64 fs, .int .i64 fcd]) rfl (by kernel_rfl) (by kernel_rfl) (by kernel_rfl) (fun _ _ _ h => h) (Or.inl ⟨by kernel_rfl, fun w2 hw => by rw [HSD.out] at hw; obtain ⟨d0, d1, d2⟩ := cells3 hw.2.1; go_simp⟩) hH1 ?_
            refine wpAnyH_take (i := 11) (oi := _) (v := .agg #[.bool fi, .int .i64 fs, .int .i64 fcd]) rfl (by kernel_rfl) (by kernel_rfl) (by kernel_rfl) (fun _ _ _ h => h) (Or.inl ⟨by kernel_rfl, fun w2 hw => by rw [HSD.out] at hw; obtain ⟨d0, d1, d2⟩ := cells3 hw.2.2.2.1; go_simp⟩) hH1 ?_
            refine wpAnyH_take (i := 12) (oi := _) (v := .bool false) rfl (by kernel_rfl) (by kernel_rfl) (by kernel_rfl) (fun _ _ _ h => h) (Or.inl ⟨by kernel_rfl, fun w2 hw => by go_simp⟩) hH1 ?_
            refine wpAnyH_take (i := 13) (oi := _) (v := .bool false) rfl (by kernel_rfl) (by kernel_rfl) (by kernel_rfl) (fun _ _ _ h => h) (Or.inl ⟨by kernel_rfl, fun w2 hw => by go_simp⟩) hH1 ?_
            refine wpAnyH_take (i := 14) (oi := _) (v := .bool false) rfl (by kernel_rfl) (by kernel_rfl) (by kernel_rfl) (fun _ _ _ h => h) (Or.inl ⟨by kernel_rfl, fun w2 hw => by go_simp⟩) hH1 ?_
            refine wpAnyH_take (i := 15) (oi := _) (v := .pointer (some ⟨w.heap.size, 0, none⟩)) rfl (by kernel_rfl) (by kernel_rfl) (by kernel_rfl) (fun _ _ _ h => h) (Or.inl ⟨by kernel_rfl, fun w2 hw => by go_simp⟩) hH1 ?_
            refine wpAnyH_take (i := 17) (oi := _) (v := .pointer (some ⟨g2, 0, none⟩)) rfl (by kernel_rfl) (by kernel_rfl) (by kernel_rfl) (fun _ _ _ h => h) (Or.inl ⟨by kernel_rfl, fun w2 hw => by go_simp⟩) hH1 ?_
            refine wpAnyH_take (i := 18) (oi := _) (v := .pointer (some ⟨g2, 0, none⟩)) rfl (by kernel_rfl) (by kernel_rfl) (by kernel_rfl) (fun _ _ _ h => h) (Or.inl ⟨by kernel_rfl, fun w2 hw => by go_simp⟩) hH1 ?_
            refine wpAnyH_take (i := 19) (oi := _) (v := .pointer (some ⟨g2, 2, none⟩)) rfl (by kernel_rfl) (by kernel_rfl) (by kernel_rfl) (fun _ _ _ h => h) (Or.inl ⟨by kernel_rfl, fun w2 hw => by go_simp⟩) hH1 ?_
            refine wpAnyH_take (i := 20) (oi := _) (v := .pointer (some ⟨g2, 2, none⟩)) rfl (by kernel_rfl) (by kernel_rfl) (by kernel_rfl) (fun _ _ _ h => h) (Or.inl ⟨by kernel_rfl, fun w2 hw => by go_simp⟩) hH1 ?_
            refine wpAnyH_take (i := 21) (oi := _) (v := .bool X'.is) rfl (by kernel_rfl) (by kernel_rfl) (by kernel_rfl) (fun _ _ _ h => h) (Or.inl ⟨by kernel_rfl, fun w2 hw => by rw [HSD.out] at hw; obtain ⟨d0, d1, d2, d3, d4⟩ := r2cells hw.2.2.2.2; go_simp⟩) hH1 ?_
            simp only [Act.put, List.getElem_toArray, List.getElem_cons_succ, List.getElem_cons_zero, List.setIfInBounds_toArray, List.set_cons_zero, List.set_cons_succ]
            refine wpAnyH_ready (rs := [16]) (by kernel_rfl) (by simp) ?_
            refine AllReadyH.cons rfl (fun K hK => ?_) AllReadyH.nil
            go_simp
            refine (Failed_rdr w.heap.size most B' X' o1 _ u1 (T5.out.p.later FU.out) hm0).mono ?_
            rintro e w' ⟨rfl, rfl⟩
            refine hK.out _ _ hH1 (fun _ => ?_)
            clear hK K
            refine wpAnyH_take (i := 22) (oi := _) (v := .bool false) rfl (by kernel_rfl) (by kernel_rfl) (by kernel_rfl) (fun _ _ _ h => h) (Or.inl ⟨by kernel_rfl, fun w2 hw => by go_simp⟩) hH1 ?_
            refine wpAnyH_take (i := 23) (oi := _) (v := .bool false) rfl (by kernel_rfl) (by kernel_rfl) (by kernel_rfl) (fun _ _ _ h => h) (Or.inl ⟨by kernel_rfl, fun w2 hw => by go_simp⟩) hH1 ?_
            refine wpAnyH_take (i := 24) (oi := _) (v := .bool false) rfl (by kernel_rfl) (by kernel_rfl) (by kernel_rfl) (fun _ _ _ h => h) (Or.inl ⟨by kernel_rfl, fun w2 hw => by go_simp⟩) hH1 ?_
            refine wpAnyH_take (i := 25) (oi := _) (v := .pointer (some ⟨w.heap.size, 0, none⟩)) rfl (by kernel_rfl) (by kernel_rfl) (by kernel_rfl) (fun _ _ _ h => h) (Or.inl ⟨by kernel_rfl, fun w2 hw => by go_simp⟩) hH1 ?_
            refine wpAnyH_take (i := 27) (oi := _) (v := .pointer (some ⟨g2, 0, none⟩)) rfl (by kernel_rfl) (by kernel_rfl) (by kernel_rfl) (fun _ _ _ h => h) (Or.inl ⟨by kernel_rfl, fun w2 hw => by go_simp⟩) hH1 ?_
            refine wpAnyH_take (i := 28) (oi := _) (v := .pointer (some ⟨g2, 0, none⟩)) rfl (by kernel_rfl) (by kernel_rfl) (by kernel_rfl) (fun _ _ _ h => h) (Or.inl ⟨by kernel_rfl, fun w2 hw => by go_simp⟩) hH1 ?_
            refine wpAnyH_take (i := 29) (oi := _) (v := .pointer (some ⟨g2, 1, none⟩)) rfl (by kernel_rfl) (by kernel_rfl) (by kernel_rfl) (fun _ _ _ h => h) (Or.inl ⟨by kernel_rfl, fun w2 hw => by go_simp⟩) hH1 ?_
            refine wpAnyH_take (i := 30) (oi := _) (v := .slice ra rn rc) rfl (by kernel_rfl) (by kernel_rfl) (by kernel_rfl) (fun _ _ _ h => h) (Or.inl ⟨by kernel_rfl, fun w2 hw => by rw [HSD.out] at hw; obtain ⟨d0, d1, d2, d3, d4⟩ := r2cells hw.2.2.2.2; go_simp⟩) hH1 ?_
            refine wpAnyH_take (i := 31) (oi := _) (v := .int .i64 (rn : Int)) rfl (by kernel_rfl) (by kernel_rfl) (by kernel_rfl) (fun _ _ _ h => h) (Or.inl ⟨by kernel_rfl, fun w2 hw => by go_simp⟩) hH1 ?_
            simp only [Act.put, List.getElem_toArray, List.getElem_cons_succ, List.getElem_cons_zero, List.setIfInBounds_toArray, List.set_cons_zero, List.set_cons_succ]
            refine wpAnyH_ready (rs := [26]) (by kernel_rfl) (by simp) ?_
            refine AllReadyH.cons rfl (fun K hK => ?_) AllReadyH.nil
            go_simp
            refine (Rest_rdr w.heap.size most B' X' o1 _ u1 (T5.out.p.later FU.out) hm0).mono ?_
            rintro e u2 ⟨rfl, fu2⟩
            have FU2 : Hid (Fr (fun _ => False) z3 u2) := FU.out.trans fu2
            refine hK.out _ _ (HKE.out _ _ hS0 FU2.out) (fun hH2 => ?_)
            rw [← HRN.out]
            clear fu2
            clear hK K
            refine wpAnyH_take (i := 32) (oi := _) (v := .bool false) rfl (by kernel_rfl) (by kernel_rfl) (by kernel_rfl) (fun _ _ _ h => h) (Or.inl ⟨by kernel_rfl, fun w2 hw => by go_simp⟩) hH2 ?_
            refine wpAnyH_take (i := 33) (oi := _) (v := .bool false) rfl (by kernel_rfl) (by kernel_rfl) (by kernel_rfl) (fun _ _ _ h => h) (Or.inl ⟨by kernel_rfl, fun w2 hw => by go_simp⟩) hH2 ?_
            simp only [Act.put, List.getElem_toArray, List.getElem_cons_succ, List.getElem_cons_zero, List.setIfInBounds_toArray, List.set_cons_zero, List.set_cons_succ]
            refine wpAnyH_done (by kernel_rfl) ?_ _
            have T6 : Hid (Two w u2 w.heap.size g2 most B' X' o1 (min 140737521909776 (2 * B'.length)) B' X' o2) := T5.out.later FU2.out
            have hBB : B'.length ≤ 140737521909776 := by have h1 : B'.length ≤ B2.length := HLB.out; have := HK.out.2.1; omega
            have HH2 := hH2
            rw [HSD.out] at HH2
            obtain ⟨d0, d1, d2⟩ := cells3 HH2.2.1
            clear HH2 hH1 hH2 hHeld hS0 cc
            cases is
            case true =>
              go_wp2_with (fail)
              go_roundw
              case rel => exact ⟨k + 1, B', X', o1, o2, by go_num, { T6.out with p := T6.out.p.mono (Nat.min_le_left _ _) }, hBB, HWT.out told_is⟩
              case measure => simp [intOf]; omega
            case false =>
              cases fi
              case false =>
                have HRS : Hid (Rests most B' X') := HWE.out untold_none
                have T7 : Hid (Two w u2 w.heap.size g2 most B' X' o1 33554448 B' X' o2) := { T6.out with p := (by
                  rcases HRS.out with h | h
                  · exact T6.out.p.failed h.1 _
                  · have := dry_small (most := most) (by omega) h.1 h.2
                    exact T6.out.p.mono (Nat.le_trans (Nat.min_le_right _ _) (by omega))) }
                go_wp2_with (fail)
                go_roundw
                case rel => exact ⟨i + 1, B', X', o1, o2, by go_num, by omega, T7.out, hBB, HRS.out⟩
                case measure => simp [intOf]; omega
              case true =>
                cases hs : (fs == 0)
                case false =>
                  go_wp2_with (fail)
                  go_roundw
                  case rel => exact ⟨k + 1, B', X', o1, o2, by go_num, { T6.out with p := T6.out.p.mono (Nat.min_le_left _ _) }, hBB, HWT.out (told_fault hs)⟩
                  case measure => simp [intOf]; omega
                case true =>
                  have HRS : Hid (Rests most B' X') := HWE.out (untold_fault hs)
                  have T7 : Hid (Two w u2 w.heap.size g2 most B' X' o1 33554448 B' X' o2) := { T6.out with p := (by
                    rcases HRS.out with h | h
                    · exact T6.out.p.failed h.1 _
                    · have := dry_small (most := most) (by omega) h.1 h.2
                      exact T6.out.p.mono (Nat.le_trans (Nat.min_le_right _ _) (by omega))) }
                  go_wp2_with (fail)
                  go_roundw
                  case rel => exact ⟨i + 1, B', X', o1, o2, by go_num, by omega, T7.out, hBB, HRS.out⟩
                  case measure => simp [intOf]; omega
end Go.Proofs.Ytikaefjhmgcidaa
