/- One call of a script, on both tables. -/
import Derived.Test.YtpnbpglmcaglfaaY5
namespace Go.Proofs.Ytpnbpglmcaglfaa
open Go.RowKit
set_option maxRecDepth 100000
set_option maxHeartbeats 8000000
set_option linter.unusedVariables false

theorem bAdd1 {w0 w wb : World} {t r m : Nat} {v u : Value} {E : List (ByteArray × ByteArray)} {o : Obj} (nm vl : ByteArray) (sc : Bool) (h : Both w0 wb t v m E r u m E) (hbox : wb.heap[w.heap.size]? = some o) (hr : r < w.heap.size) (s1 : nm.size < 2 ^ 47) (s2 : vl.size < 2 ^ 47) :
    Calls Try.prog 28 #[.pointer (some ⟨r, 0, none⟩), .agg #[.string nm, .string vl, .bool sc]] wb fun e w' => e = .returned (.tuple #[]) ∧ ∃ u', Hid (Both w0 w' t v m E r u' m (added m E (nm, vl)) ∧ w'.heap[w.heap.size]? = some o) := by
  refine (rAdd_in r m u E nm vl sc wb h.ref h.tab.most (Nat.le_trans h.tab.fits h.tab.most) s1 s2).mono ?_
  rintro e w' ⟨rfl, hp⟩
  obtain ⟨u', h1, h2⟩ := h.ref_turn hp
  exact ⟨rfl, u', h1, (h2.block _ (lt_of_heap hbox) (fun e => by omega)).trans hbox⟩
theorem bAdd2 {w0 w : World} {t r m m' : Nat} {v u : Value} {E D : List (ByteArray × ByteArray)} (nm vl : ByteArray) (sc : Bool) (h : Both w0 w t v m E r u m' D) (s1 : nm.size < 2 ^ 47) (s2 : vl.size < 2 ^ 47) :
    Calls Try.prog 18 #[.pointer (some ⟨t, 0, none⟩), .agg #[.string nm, .string vl, .bool sc]] w fun e w' => e = .returned (.int .i64 0) ∧ ∃ v', Hid (Both w0 w' t v' m (added m E (nm, vl)) r u m' D) := by
  refine (Add0 h.tab nm vl sc s1 s2).mono ?_
  rintro e w' ⟨rfl, v', h1, h2, h3⟩
  exact ⟨rfl, v', h.tab_turn h1 h2 h3⟩
def rsC (N : Int) : Int := if 0 ≤ N ∧ N ≤ 65536 then 0 else 1
def rsM (N : Int) (m : Nat) : Nat := if 0 ≤ N ∧ N ≤ 65536 then N.toNat else m
def rsE (N : Int) (E : List (ByteArray × ByteArray)) : List (ByteArray × ByteArray) := if 0 ≤ N ∧ N ≤ 65536 then fallen N E else E
theorem bRes1 {w0 w wb : World} {t r m m' : Nat} {v u : Value} {E D : List (ByteArray × ByteArray)} {o : Obj} (N : Int) (h : Both w0 wb t v m E r u m' D) (hbox : wb.heap[w.heap.size]? = some o) (ht : ∀ k, (k = t ∨ v.ownBlock = some k) → k < w.heap.size) :
    Calls Try.prog 21 #[.pointer (some ⟨t, 0, none⟩), .int .i64 N] wb fun e w' => e = .returned (.int .i64 (rsC N)) ∧ ∃ v', Hid (Both w0 w' t v' (rsM N m) (rsE N E) r u m' D ∧ w'.heap[w.heap.size]? = some o) := by
  refine (Resize0 h.tab N).mono ?_
  rintro e w' ⟨rfl, v', h1, h2, h3⟩
  exact ⟨rfl, v', h.tab_turn h1 h2 (fun k hk => .inl (by rw [← h3]; exact hk)), (h2.block _ (lt_of_heap hbox) (fun hk => by have := ht _ hk; omega)).trans hbox⟩
theorem bRes2 {w0 w : World} {t r m m2 : Nat} {v u : Value} {E E2 : List (ByteArray × ByteArray)} (N : Int) (h : Both w0 w t v m2 E2 r u m E) (hm : m ≤ 65536) (hT : total E ≤ 65536) {bx : Nat} {o : Obj} (hbox : w.heap[bx]? = some o) (hne : r < bx) :
    Calls Try.prog 29 #[.pointer (some ⟨r, 0, none⟩), .int .i64 N] w fun e w' => e = .returned (.int .i64 (rsC N)) ∧ ∃ u', Hid (Both w0 w' t v m2 E2 r u' (rsM N m) (rsE N E) ∧ w'.heap[bx]? = some o) := by
  by_cases hN : 0 ≤ N ∧ N ≤ 65536
  · obtain ⟨k, rfl⟩ : ∃ k : Nat, N = (k : Int) := ⟨N.toNat, by omega⟩
    simp only [rsC, rsM, rsE, if_pos hN]
    refine (rResize_in r m k u E w h.ref (by omega) hT).mono ?_
    rintro e w' ⟨rfl, hp⟩
    obtain ⟨u', h1, h2⟩ := h.ref_turn hp
    exact ⟨rfl, u', h1, (h2.block _ (lt_of_heap hbox) (fun e => by omega)).trans hbox⟩
  · simp only [rsC, rsM, rsE, if_neg hN]
    refine (rResize_bad r N w hN).mono ?_
    rintro e w' ⟨rfl, rfl⟩
    exact ⟨rfl, u, h, hbox⟩
/-- Behind a call. -/
def PlayPost (w0 : World) (t r : Nat) (w' : World) : Prop := ∃ v' u' m' E', Both w0 w' t v' m' E' r u' m' E'
theorem play_in (wh N : Int) (nm vl : ByteArray) (sc : Bool) (t r m : Nat) (v u : Value) (E : List (ByteArray × ByteArray)) (w0 w : World) (h : Both w0 w t v m E r u m E) (hN : N < 2 ^ 63) (s1 : nm.size < 2 ^ 47) (s2 : vl.size < 2 ^ 47) :
    Calls Try.prog 16 #[.pointer (some ⟨t, 0, none⟩), .pointer (some ⟨r, 0, none⟩), .agg #[.int .i64 wh, .int .i64 N, .string nm, .string vl, .bool sc]] w fun e w' => e = .returned (.bool true) ∧ PlayPost w0 t r w' := by
  obtain ⟨wb, hwb⟩ : ∃ wb, w.alloc (.cells #[.int .i64 wh, .int .i64 N, .string nm, .string vl, .bool sc] 42) = wb := ⟨_, rfl⟩
  have HB : Hid (Both w0 wb t v m E r u m E) := by rw [← hwb]; exact h.alloc _
  have HX : Hid (wb.heap[w.heap.size]? = some (.cells #[.int .i64 wh, .int .i64 N, .string nm, .string vl, .bool sc] 42)) := by rw [← hwb]; exact heap_alloc_new w _
  have hlt : Hid (∀ k, (k = t ∨ v.ownBlock = some k) → k < w.heap.size) := fun k hk => h.tab.tab.own_lt hk
  have hrl : Hid (r < w.heap.size) := h.ref.own_lt (.inl rfl)
  have HM : Hid (m ≤ 65536 ∧ total E ≤ 65536) := ⟨h.tab.most, Nat.le_trans h.tab.fits h.tab.most⟩
  have HL : Hid (E.length ≤ 2048) := h.tab.len
  clear h
  have x0 : wb.cell? ⟨w.heap.size, 0, none⟩ = some (.int .i64 wh) := cell_of_heap HX.out rfl
  have x1 : wb.cell? ⟨w.heap.size, 1, none⟩ = some (.int .i64 N) := cell_of_heap HX.out rfl
  have x2 : wb.cell? ⟨w.heap.size, 2, none⟩ = some (.string nm) := cell_of_heap HX.out rfl
  have x3 : wb.cell? ⟨w.heap.size, 3, none⟩ = some (.string vl) := cell_of_heap HX.out rfl
  have x4 : wb.cell? ⟨w.heap.size, 4, none⟩ = some (.bool sc) := cell_of_heap HX.out rfl
  by_cases h0 : wh = 0
  · subst h0
    have KA := bAdd1 (w := w) nm vl sc HB.out HX.out hrl.out s1 s2
    have KT : Hid (∀ w2 u', Both w0 w2 t v m E r u' m (added m E (nm, vl)) → Calls Try.prog 18 #[.pointer (some ⟨t, 0, none⟩), .agg #[.string nm, .string vl, .bool sc]] w2 fun e w' => e = .returned (.int .i64 0) ∧ ∃ v', Hid (Both w0 w' t v' m (added m E (nm, vl)) r u' m (added m E (nm, vl)))) := fun w2 u' h2 => bAdd2 nm vl sc h2 s1 s2
    generalize added m E (nm, vl) = E2 at KA KT
    go_enter Try.func16, Try.ntmps16
    go_wp2_with (first
      | (go_at_call 28; refine KA.mono ?_; clear KA; rintro e w2 ⟨rfl, u2, H2⟩; have y2 : w2.cell? ⟨w.heap.size, 2, none⟩ = some (.string nm) := cell_of_heap H2.out.2 rfl; have y3 : w2.cell? ⟨w.heap.size, 3, none⟩ = some (.string vl) := cell_of_heap H2.out.2 rfl; have y4 : w2.cell? ⟨w.heap.size, 4, none⟩ = some (.bool sc) := cell_of_heap H2.out.2 rfl)
      | (go_at_call 18; refine (KT.out w2 u2 H2.out.1).mono ?_; clear KT; rintro e w3 ⟨rfl, v3, H3⟩))
    go_ret
    exact ⟨rfl, v3, u2, m, E2, H3.out⟩
  · have h02 : (wh == 0) = false := by rw [beq_eq_false_iff_ne]; exact h0
    by_cases h1 : wh = 1
    · subst h1
      have KA := bRes1 (w := w) (wb := wb.drew) N (HB.out.below (Below.refl _ wb).drew) HX.out hlt.out
      have KT : Hid (∀ w2 v' m2 E2, Both w0 w2 t v' m2 E2 r u m E ∧ w2.heap[w.heap.size]? = some (.cells #[.int .i64 1, .int .i64 N, .string nm, .string vl, .bool sc] 42) → Calls Try.prog 29 #[.pointer (some ⟨r, 0, none⟩), .int .i64 N] w2 fun e w' => e = .returned (.int .i64 (rsC N)) ∧ ∃ u', Hid (Both w0 w' t v' m2 E2 r u' (rsM N m) (rsE N E) ∧ w'.heap[w.heap.size]? = some (.cells #[.int .i64 1, .int .i64 N, .string nm, .string vl, .bool sc] 42))) := fun w2 v' m2 E2 h2 => bRes2 N h2.1 HM.out.1 HM.out.2 h2.2 hrl.out
      generalize rsC N = rc at KA KT
      generalize rsM N m = m2 at KA KT
      generalize rsE N E = E2 at KA KT
      have hmx : Try.prog.follows .mixedOrders = true := by kernel_rfl
      go_enter Try.func16, Try.ntmps16
      go_wp2_with (fail)
      go_region_held_law (fun w' => w'.cell? ⟨w.heap.size, 1, none⟩ = some (.int .i64 N)) (first | exact x1 | exact y1 | exact z1 | go_keep)
        (first
          | (go_at_call 21; refine KA.mono ?_; rintro e w2 ⟨rfl, v2, H2⟩; have y1 : w2.cell? ⟨w.heap.size, 1, none⟩ = some (.int .i64 N) := cell_of_heap H2.out.2 rfl)
          | (go_at_call 29; refine (KT.out w2 v2 m2 E2 H2.out).mono ?_; rintro e w3 ⟨rfl, u3, H3⟩; have z1 : w3.cell? ⟨w.heap.size, 1, none⟩ = some (.int .i64 N) := cell_of_heap H3.out.2 rfl))
      all_goals go_wp2_with (fail)
      all_goals go_ret
      all_goals exact ⟨rfl, v2, u3, m2, E2, H3.out.1⟩
    · have h12 : (wh == 1) = false := by rw [beq_eq_false_iff_ne]; exact h1
      by_cases h2 : wh = 2
      · subst h2
        have KF := Find_in t m v E nm vl sc wb HB.out.tab.tab HL.out
        have KR : Hid (∀ w2, Below wb.heap.size wb w2 → Calls Try.prog 30 #[.pointer (some ⟨r, 0, none⟩), .agg #[.string nm, .string vl, .bool sc]] w2 fun e w' => (∃ (at_ : Nat) (b : Bool), e = .returned (.tuple #[.int .i64 (at_ : Int), .bool b]) ∧ FindOut E nm vl at_ b) ∧ Below w2.heap.size w2 w') := fun w2 b2 => rFind_in r m u E nm vl sc w2 (HB.out.ref.below b2) HL.out
        go_enter Try.func16, Try.ntmps16
        go_wp2_with (first
          | (go_at_call 24; refine KF.mono ?_; clear KF; rintro e w2 ⟨⟨a1, b1, rfl, hF1⟩, bl⟩; have HF1 : Hid (FindOut E nm vl a1 b1) := hF1; have B2 : Hid (Below wb.heap.size wb w2) := bl; clear hF1 bl; have y2 : w2.cell? ⟨w.heap.size, 2, none⟩ = some (.string nm) := (B2.out.cell (p := ⟨w.heap.size, 2, none⟩) (lt_of_heap HX.out)).trans x2; have y3 : w2.cell? ⟨w.heap.size, 3, none⟩ = some (.string vl) := (B2.out.cell (p := ⟨w.heap.size, 3, none⟩) (lt_of_heap HX.out)).trans x3; have y4 : w2.cell? ⟨w.heap.size, 4, none⟩ = some (.bool sc) := (B2.out.cell (p := ⟨w.heap.size, 4, none⟩) (lt_of_heap HX.out)).trans x4)
          | (go_at_call 30; refine (KR.out w2 B2.out).mono ?_; clear KR; rintro e w3 ⟨⟨a2, b2, rfl, hF2⟩, bl⟩; obtain ⟨rfl, rfl⟩ := FindOut.unique HF1.out hF2; have B3 : Hid (Below wb.heap.size wb w3) := B2.out.trans (bl.mono B2.out.size); clear hF2 bl))
        all_goals go_ret
        all_goals exact ⟨rfl, v, u, m, E, HB.out.below B3.out⟩
      · have h22 : (wh == 2) = false := by rw [beq_eq_false_iff_ne]; exact h2
        have KG := Get_any HB.out.tab N hN
        have KR : Hid (∀ w', Below wb.heap.size wb w' → Calls Try.prog 31 #[.pointer (some ⟨r, 0, none⟩), .int .i64 N] w' fun e w'' => e = .returned (.tuple #[.agg #[.string (gN E N), .string (gV E N), .bool false], .int .i64 (gE E N)]) ∧ Below w'.heap.size w' w'') := fun w' b => rGet_in r m u E N w' (HB.out.ref.below b) HL.out
        generalize gN E N = gn at KG KR
        generalize gV E N = gv at KG KR
        generalize gE E N = ge at KG KR
        go_enter Try.func16, Try.ntmps16
        go_wp2_with (first
          | (go_at_call 19; refine KG.mono ?_; clear KG; rintro e w8 ⟨rfl, b8⟩; have B8 : Hid (Below wb.heap.size wb w8) := b8; clear b8; have y1 : ∀ o, (w8.alloc o).cell? ⟨w.heap.size, 1, none⟩ = some (.int .i64 N) := (fun o => cell_of_heap (heap_of_alloc (heap_below B8.out (lt_of_heap HX.out) HX.out) o) rfl))
          | (go_at_call 31; refine (KR.out _ (B8.out.alloc B8.out.size _)).mono ?_; clear KR; rintro e w9 ⟨rfl, b9⟩; have B9 : Hid (Below wb.heap.size wb w9) := (B8.out.alloc B8.out.size _).trans (b9.mono (Nat.le_trans B8.out.size (by simp))); have A9 : Hid (w9.heap[w8.heap.size]? = some (.cells #[.string gn, .string gv, .bool false] 23)) := heap_below b9 (by simp) (heap_alloc_new w8 _); clear b9; have p0 : ∀ o, (w9.alloc o).cell? ⟨w8.heap.size, 0, none⟩ = some (.string gn) := (fun o => cell_of_heap (heap_of_alloc A9.out o) rfl); have p1 : ∀ o, (w9.alloc o).cell? ⟨w8.heap.size, 1, none⟩ = some (.string gv) := (fun o => cell_of_heap (heap_of_alloc A9.out o) rfl); have p2 : ∀ o, (w9.alloc o).cell? ⟨w8.heap.size, 2, none⟩ = some (.bool false) := (fun o => cell_of_heap (heap_of_alloc A9.out o) rfl)))
        all_goals go_ret
        all_goals exact ⟨rfl, v, u, m, E, HB.out.below (B9.out.alloc B9.out.size _)⟩
end Go.Proofs.Ytpnbpglmcaglfaa
