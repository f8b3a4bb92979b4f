/- The document's side: contracts of NewEncoder, Limit, Encode. -/
import Derived.Test.YtkipeifkfgbkeaaMZg
namespace Go.Proofs.Ytkipeifkfgbkeaa
open Go.RowKit
set_option maxRecDepth 100000
set_option maxHeartbeats 8000000
set_option linter.unusedVariables false

theorem rNewE_in (n : Nat) (w : World) (hn : n ≤ 65536) :
    Calls Try.prog 5 #[.int .i64 (n : Int)] w fun e w' => ∃ r t, e = .returned (.tuple #[.pointer (some ⟨r, 0, none⟩), .int .i64 0]) ∧ REnc w' r t (.slice none 0 0) n [] n 65537 ∧ Below w.heap.size w w' ∧ w.heap.size ≤ r ∧ w.heap.size ≤ t := by
  have KN := rNew_in n w hn
  go_enter Try.func5, Try.ntmps5
  go_wp2_with (go_at_call 14; refine KN.mono ?_; clear KN; rintro e w' ⟨rfl, rfl⟩)
  go_ret2
  have h1 := heap_alloc_new w (.cells #[.int .i64 (n : Int), .slice none 0 0] 62)
  have h2 := heap_alloc_new (w.alloc (.cells #[.int .i64 (n : Int), .slice none 0 0] 62)) (.cells #[.pointer (some ⟨w.heap.size, 0, none⟩), .int .i64 (n : Int), .int .i64 65537] 43)
  simp only [World.size_alloc] at h2
  refine ⟨_, w.heap.size, rfl, ⟨h2, ⟨heap_of_alloc h1 _, rfl, .inl ⟨rfl, rfl⟩⟩, hn, by simp [total], hn⟩, ?_, by omega, Nat.le_refl _⟩
  exact ((Below.refl _ w).alloc (Nat.le_refl _) _).alloc (by simp) _
theorem rNewE_bad (n : Int) (w : World) (hn : ¬ (0 ≤ n ∧ n ≤ 65536)) :
    Calls Try.prog 5 #[.int .i64 n] w fun e w' => e = .returned (.tuple #[.pointer none, .int .i64 1]) ∧ w = w' := by
  have KN : Hid (Calls Try.prog 14 #[.int .i64 n] w fun r w' => r = .returned (.tuple #[.pointer none, .int .i64 1]) ∧ w = w') := (rNew_bad n w hn).mono (fun e w2 ⟨e1, e2⟩ => ⟨e1, e2.symm⟩)
  go_enter Try.func5, Try.ntmps5
  go_wp2_with (go_at_call 14; refine KN.out.mono ?_; clear KN; rintro e w' ⟨rfl, rfl⟩)
  go_ret2
  exact ⟨rfl, rfl⟩
/-- The document's encoder has turned. -/
def REPost (r t : Nat) (u : Value) (m told least : Nat) (E : List (ByteArray × ByteArray)) (w w' : World) : Prop :=
  ∃ u', REnc w' r t u' m E told least ∧ Fr (fun k => k = r ∨ k = t) w w' ∧ (∀ k, u'.ownBlock = some k → u.ownBlock = some k ∨ w.heap.size ≤ k)
theorem rLimit_in (r t : Nat) (u : Value) (m told least n : Nat) (E : List (ByteArray × ByteArray)) (w : World) (h : REnc w r t u m E told least) (hn : n ≤ 65536) :
    Calls Try.prog 7 #[.pointer (some ⟨r, 0, none⟩), .int .i64 (n : Int)] w fun e w' => e = .returned (.int .i64 0) ∧ REPost r t u n told (min least n) (fallen (n : Int) E) w w' := by
  have c0 : w.cell? ⟨r, 0, none⟩ = some (.pointer (some ⟨t, 0, none⟩)) := cell_of_heap h.at_ rfl
  have KR : Hid (Calls Try.prog 17 #[.pointer (some ⟨t, 0, none⟩), .int .i64 (n : Int)] w fun e w' => e = .returned (.int .i64 0) ∧ ∃ u', Hid (REnc w' r t u' n (fallen (n : Int) E) told least ∧ Fr (fun k => k = t) w w' ∧ (∀ k, u'.ownBlock = some k → u.ownBlock = some k ∨ w.heap.size ≤ k))) := by
    refine (rResize_in t m n u E w h.tab hn (Nat.le_trans h.fits h.most)).mono ?_
    rintro e w' ⟨rfl, u', a1, a2, a3⟩
    have hf := fallen_fits (n : Int) E (by omega)
    exact ⟨rfl, u', ⟨by rw [a3.block r (lt_of_heap h.at_) (fun e => h.ne (.inl e))]; exact h.at_, a1, hn, by omega, h.told_⟩, a3, a2⟩
  obtain ⟨z, hz⟩ : ∃ z, min least n = z := ⟨_, rfl⟩
  rw [hz]
  have hz1 : (if (n : Int) < (least : Int) then (n : Int) else (least : Int)) = (z : Int) := by split <;> omega
  have hz2 : (if (least : Int) < (n : Int) then (least : Int) else (n : Int)) = (z : Int) := by split <;> omega
  have hz3 : (if (least : Int) ≤ (n : Int) then (least : Int) else (n : Int)) = (z : Int) := by split <;> omega
  have hz4 : (if n < least then (n : Int) else (least : Int)) = (z : Int) := by split <;> omega
  have hz5 : (if least < n then (least : Int) else (n : Int)) = (z : Int) := by split <;> omega
  have hz6 : min (least : Int) (n : Int) = (z : Int) := by omega
  generalize fallen (n : Int) E = F at KR ⊢
  clear h hz
  go_enter Try.func7, Try.ntmps7
  go_wp2_with (go_at_call 17; refine KR.out.mono ?_; clear KR; rintro e w2 ⟨rfl, u2, H2⟩; have d2 : w2.cell? ⟨r, 2, none⟩ = some (.int .i64 (least : Int)) := cell_of_heap H2.out.1.at_ rfl; have f2 : w2.frozen? ⟨r, 2, none⟩ = false := frozen_of_heap H2.out.1.at_)
  go_ret
  have f1 : Fr (fun k => k = r) w2 (w2.setCell ⟨r, 2, none⟩ (.int .i64 (z : Int))) := (Fr.refl _ w2).setB 2 _
  refine ⟨rfl, u2, ⟨heap_set (i := 2) _ H2.out.1.at_, H2.out.1.tab.kept f1 (fun k hk e => H2.out.1.ne (by subst e; exact hk)), H2.out.1.most, H2.out.1.fits, H2.out.1.told_⟩, ?_, H2.out.2.2⟩
  exact (H2.out.2.1.mono (fun k _ hk => .inr hk)).trans (f1.mono (fun k _ hk => .inl hk))
theorem rLimit_bad (r t : Nat) (u : Value) (m told least : Nat) (n : Int) (E : List (ByteArray × ByteArray)) (w : World) (h : REnc w r t u m E told least) (hn : ¬ (0 ≤ n ∧ n ≤ 65536)) :
    Calls Try.prog 7 #[.pointer (some ⟨r, 0, none⟩), .int .i64 n] w fun e w' => e = .returned (.int .i64 1) ∧ w = w' := by
  have c0 : w.cell? ⟨r, 0, none⟩ = some (.pointer (some ⟨t, 0, none⟩)) := cell_of_heap h.at_ rfl
  have KR : Hid (Calls Try.prog 17 #[.pointer (some ⟨t, 0, none⟩), .int .i64 n] w fun e w' => e = .returned (.int .i64 1) ∧ w = w') := (rResize_bad t n w hn).mono (fun e w2 ⟨e1, e2⟩ => ⟨e1, e2.symm⟩)
  clear h hn
  go_enter Try.func7, Try.ntmps7
  go_wp2_with (go_at_call 17; refine KR.out.mono ?_; clear KR; rintro e w2 ⟨rfl, rfl⟩)
  go_ret
  exact ⟨rfl, rfl⟩

/-- On the way through the document's Encode. -/
structure ERt (r t : Nat) (u0 : Value) (m : Nat) (E : List (ByteArray × ByteArray)) (B : List UInt8) (u a : Value) (w0 w : World) : Prop where
  enc : REnc w r t u m E m 65537
  own : OwnAt w 5 a (bv B)
  new : ∀ k, a.ownBlock = some k → w0.heap.size ≤ k
  fr : Fr (fun k => k = r ∨ k = t) w0 w
  uown : ∀ k, u.ownBlock = some k → u0.ownBlock = some k ∨ w0.heap.size ≤ k
theorem REnc.tag {w : World} {r t : Nat} {u a : Value} {m told least : Nat} {E : List (ByteArray × ByteArray)} {xs : List Value} (h : REnc w r t u m E told least) (ho : OwnAt w 5 a xs) (k : Nat) (hk : k = r ∨ k = t ∨ u.ownBlock = some k) : a.ownBlock ≠ some k := by
  intro hak
  rcases hk with rfl | rfl | hk
  · exact absurd (ho.fr_tag h.at_ hak) (by decide)
  · exact absurd (ho.fr_tag h.tab.at_ hak) (by decide)
  · rcases h.tab.row.2 with ⟨rfl, _⟩ | ⟨g, cap, cur, rfl, _, h2, _⟩
    · cases hk
    · cases hk; exact absurd (ho.fr_tag h2 hak) (by decide)
theorem ERt.mid {r t : Nat} {u0 u a a2 : Value} {m : Nat} {E E2 : List (ByteArray × ByteArray)} {B B2 : List UInt8} {w0 w w' : World} (h : ERt r t u0 m E B u a w0 w) (p : OPost r t u m m 65537 E2 B2 a2 w w') :
    ∃ u', ERt r t u0 m E2 B u' a w0 w' ∧ OwnAt w' 5 a2 (bv B2) := by
  obtain ⟨u', p1, p2, p3, p4, p5⟩ := p
  refine ⟨u', ⟨p1, h.own.fr p4 (fun k hk hs => h.enc.tag h.own k (.inr (.inl hs)) hk), h.new, h.fr.go p4 (fun i hi ht => .inr ht), fun k hk => ?_⟩, p2⟩
  rcases p5 k hk with hv | hv
  · exact h.uown k hv
  · exact .inr (Nat.le_trans h.fr.size hv)
theorem ERt.put {r t : Nat} {u0 u a a5 : Value} {m : Nat} {E : List (ByteArray × ByteArray)} {B B5 : List UInt8} {w0 w w' : World} (h : ERt r t u0 m E B u a w0 w) (o : OwnAt w' 5 a5 (bv B5)) (f : Fr (fun k => a.ownBlock = some k) w w') (hk5 : a5.ownBlock = a.ownBlock ∨ ∃ k, a5.ownBlock = some k ∧ w.heap.size ≤ k) :
    ERt r t u0 m E B5 u a5 w0 w' := by
  refine ⟨h.enc.kept f (fun k hk hs => h.enc.tag h.own k hk hs), o, fun k hk => ?_, h.fr.go f (fun i hi ht => ?_), h.uown⟩
  · rcases hk5 with hk5 | ⟨k', hk5, hk6⟩
    · exact h.new k (hk5 ▸ hk)
    · rw [hk5] at hk
      cases hk
      exact Nat.le_trans h.fr.size hk6
  · have := h.new i ht
    omega
def REncPost (r t : Nat) (u0 : Value) (m : Nat) (E : List (ByteArray × ByteArray)) (B : List UInt8) (a : Value) (w w' : World) : Prop :=
  ∃ u, ERt r t u0 m E B u a w w'
theorem rEncode_long (r t : Nat) (u : Value) (m told least : Nat) (E : List (ByteArray × ByteArray)) (q : Option Addr) (c : Nat) (l : List (ByteArray × ByteArray × Bool)) (w : World) (hl : HL w q c l) (hlong : LongL l) :
    Calls Try.prog 9 #[.pointer (some ⟨r, 0, none⟩), .slice q l.length c] w fun e w' => e = .returned (.tuple #[.slice none 0 0, .int .i64 2]) ∧ w = w' := by
  have HH : Hid (HL w q c l) := hl
  have HB : Hid (LongL l) := hlong
  have hfew := hl.few
  obtain ⟨n, hn⟩ : ∃ n, l.length = n := ⟨_, rfl⟩
  have HN : Hid (l.length = n) := hn
  rw [hn] at hfew ⊢
  have hn63 : n ≤ 9223372036854775807 := by omega
  by_cases hlen : 1024 < n
  · have hli : (1024 : Int) < (n : Int) := by omega
    clear hl hlong hfew hn
    go_enter Try.func9, Try.ntmps9
    go_wp2_with (fail)
    go_ret2
    exact ⟨rfl, rfl⟩
  · have hli : ¬ (1024 : Int) < (n : Int) := by omega
    clear hl hlong hfew hn
    go_enter Try.func9, Try.ntmps9
    go_wp2_with (fail)
    go_loop [6] (fun x6 => ∃ i : Nat, x6 = .int .i64 (i : Int) ∧ i ≤ n ∧ Hid (∀ r x, r < i → l[r]? = some x → Short x)) (fun x6 => n - (intOf x6).toNat)
    case atStart => exact ⟨0, rfl, by omega, fun r x hr => by omega⟩
    case round =>
      obtain ⟨i, rfl, hi, HR⟩ := hrel
      by_cases hin : i < n
      · obtain ⟨x, hx⟩ : ∃ x, l[i]? = some x := ⟨l[i]'(by rw [HN.out]; exact hin), List.getElem?_eq_getElem _⟩
        obtain ⟨bb, o, rfl, hbb, c0, c1, c2, s1, s2⟩ := HH.out.cells i x hx
        have HX : Hid (l[i]? = some x) := hx
        obtain ⟨xn, xu, xs⟩ := x
        dsimp only at c0 c1 c2 s1 s2
        have hin2 : (i : Int) < (n : Int) := by omega
        clear hx hbb
        by_cases h1 : 16384 < xn.size
        · have h1i : (16384 : Int) < (xn.size : Int) := by omega
          go_wp2_with (fail)
          go_ret2
          exact ⟨rfl, rfl⟩
        · have h1i : ¬ (16384 : Int) < (xn.size : Int) := by omega
          by_cases h2 : 16384 < xu.size
          · have h2i : (16384 : Int) < (xu.size : Int) := by omega
            go_wp2_with (fail)
            go_ret2
            exact ⟨rfl, rfl⟩
          · have h2i : ¬ (16384 : Int) < (xu.size : Int) := by omega
            have HS : Hid (Short (xn, xu, xs)) := ⟨by simp only; omega, by simp only; omega⟩
            go_wp2_with (fail)
            go_round
            case rel =>
              refine ⟨i + 1, by go_num, by omega, fun r y hr hy => ?_⟩
              rcases Nat.lt_or_ge r i with h3 | h3
              · exact HR.out r y h3 hy
              · obtain rfl : r = i := by omega
                rw [HX.out] at hy
                cases hy
                exact HS.out
            case measure => simp [intOf]; omega
      · exfalso
        obtain rfl : i = n := by omega
        rcases HB.out with h3 | ⟨x, hx, hns⟩
        · have := HN.out; omega
        · obtain ⟨r, hr, hxr⟩ := List.getElem_of_mem hx
          exact absurd (HR.out r x (by have := HN.out; omega) (by rw [List.getElem?_eq_getElem hr, hxr])) hns
theorem rEncode_in (r t : Nat) (u : Value) (m told least : Nat) (E : List (ByteArray × ByteArray)) (q : Option Addr) (c : Nat) (l : List (ByteArray × ByteArray × Bool)) (w : World) (h : REnc w r t u m E told least) (hl : HL w q c l) (hshort : ¬ LongL l) (hq : ∀ a, q = some a → l ≠ [] → ¬ (a.block = r ∨ a.block = t)) :
    Calls Try.prog 9 #[.pointer (some ⟨r, 0, none⟩), .slice q l.length c] w fun e w' => ∃ a n cc, e = .returned (.tuple #[.slice a n cc, .int .i64 0]) ∧ REncPost r t u m (tabL m E l) (encB m told least E l) (.slice a n cc) w w' := by
  obtain ⟨j, hi1, hi2, hi3, hi4⟩ := info5
  have J1 : Hid (Try.prog.info? 5 = some j) := hi1
  have J2 : Hid (j.zero = some (.int .u8 0)) := hi2
  have J3 : Hid (j.size = 1) := hi3
  have J4 : Hid (j.bytes = 1) := hi4
  obtain ⟨hl1, hl2⟩ := shortL hshort
  have KS : Hid (Calls Try.prog 21 #[.pointer (some ⟨r, 0, none⟩)] w fun e w' => ∃ a n cc, e = .returned (.slice a n cc) ∧ Hid (ERt r t u m E (ups (upd told least m)) u (.slice a n cc) w w')) := by
    refine (updates_in r t u m told least E w h).mono ?_
    rintro e w' ⟨a, n, cc, rfl, p1, p2, p3, p4⟩
    exact ⟨a, n, cc, rfl, p1, p2, p3, p4.mono (fun k _ hk => .inl hk), fun k hk => .inl hk⟩
  have HLW : Hid (∀ w', Fr (fun k => k = r ∨ k = t) w w' → HL w' q c l) := fun w' f => hl.fr f hq
  have KH : Hid (∀ (u' a : Value) (E' : List (ByteArray × ByteArray)) (B : List UInt8) (w' : World) (n v : ByteArray) (s : Bool), Short (n, v, s) → ERt r t u m E' B u' a w w' → Calls Try.prog 22 #[.pointer (some ⟨r, 0, none⟩), .agg #[.string n, .string v, .bool s]] w' fun e w2 => ∃ a2 n2 c2, e = .returned (.slice a2 n2 c2) ∧ n2 = (encH m E' (n, v, s)).length ∧ ∃ u2, Hid (ERt r t u m (nextE m E' (n, v, s)) B u2 a w w2 ∧ OwnAt w2 5 (.slice a2 n2 c2) (bv (encH m E' (n, v, s))))) := fun u' a E' B w' n v s hs h' => by
    refine (one_in r t u' m m 65537 E' n v s w' h'.enc hs).mono ?_
    rintro e w2 ⟨a2, rfl, p⟩
    obtain ⟨u2, q1, q2⟩ := h'.mid p
    obtain ⟨a3, c3, rfl, -⟩ := q2.form
    rw [bv_length] at q2 ⊢
    exact ⟨_, _, _, rfl, rfl, u2, q1, q2⟩
  have HSH : Hid (∀ r y, l[r]? = some y → Short y) := fun r y hr => hl2 y (List.mem_of_getElem? hr)
  have HLN : Hid (∀ i, (ups (upd told least m) ++ encL m E (l.take i)).length ≤ 1000000000) := fun i => by
    have h1 := encL_len h.most (l.take i) h.fits (fun y hy => hl2 y (List.mem_of_mem_take hy))
    have h2 := ups_len (upd told least m) (by
      intro s hs
      unfold upd at hs
      have := h.most
      have := h.told_
      split at hs
      · rename_i hA
        simp at hs
        omega
      · split at hs
        · simp at hs
        · simp at hs
          omega)
    have h3 : (upd told least m).length ≤ 2 := by
      unfold upd
      split
      · simp
      · split <;> simp
    have h4 : (l.take i).length ≤ 1024 := by rw [List.length_take]; omega
    rw [List.length_append]
    omega
  have HEN : Hid (∀ i y, l[i]? = some y → encL m E (l.take (i + 1)) = encL m E (l.take i) ++ encH m (tabL m E (l.take i)) y ∧ tabL m E (l.take (i + 1)) = nextE m (tabL m E (l.take i)) y) := fun i y hy => by
    rw [List.take_add_one, hy]
    exact encL_snoc m (l.take i) E y
  have HE0 : Hid (encB m told least E l = ups (upd told least m) ++ encL m E l) := rfl
  generalize ups (upd told least m) = U at KS HLN HE0
  generalize encB m told least E l = BB at HE0 ⊢
  have HH : Hid (HL w q c l) := hl
  obtain ⟨n, hn⟩ : ∃ n, l.length = n := ⟨_, rfl⟩
  have HN : Hid (l.length = n) := hn
  rw [hn] at hl1 ⊢
  have hli : ¬ (1024 : Int) < (n : Int) := by omega
  clear h hl hshort hq hl2 hi1 hi2 hi3 hi4 hn
  go_enter Try.func9, Try.ntmps9
  go_wp2_with (fail)
  go_loop [6] (fun x6 => ∃ i : Nat, x6 = .int .i64 (i : Int) ∧ i ≤ n) (fun x6 => n - (intOf x6).toNat)
  case atStart => exact ⟨0, rfl, by omega⟩
  case round =>
    obtain ⟨i, rfl, hi⟩ := hrel
    by_cases hin : i < n
    · obtain ⟨x, hx⟩ : ∃ x, l[i]? = some x := ⟨l[i]'(by rw [HN.out]; exact hin), List.getElem?_eq_getElem _⟩
      obtain ⟨bb, o, rfl, hbb, c0, c1, c2, s1, s2⟩ := HH.out.cells i x hx
      have hs := HSH.out i x hx
      obtain ⟨xn, xu, xs⟩ := x
      dsimp only at c0 c1 c2 s1 s2
      have hin2 : (i : Int) < (n : Int) := by omega
      have h1i : ¬ (16384 : Int) < (xn.size : Int) := by have := hs.1; simp only at this; omega
      have h2i : ¬ (16384 : Int) < (xu.size : Int) := by have := hs.2; simp only at this; omega
      clear hx hbb hs
      go_wp2_with (fail)
      go_round
      case rel => exact ⟨i + 1, by go_num, by omega⟩
      case measure => simp [intOf]; omega
    · obtain rfl : i = n := by omega
      go_wp2_with (first
        | (go_at_call 21; refine KS.out.mono ?_; rintro e w3 ⟨a3, n3, c3, rfl, H3⟩))
      go_loopw [7, 8] (fun x7 x8 wr => ∃ (k na ca : Nat) (a : Option Addr) (u' : Value), x7 = .slice a na ca ∧ x8 = .int .i64 (k : Int) ∧ k ≤ i ∧ Hid (ERt r t u m (tabL m E (l.take k)) (U ++ encL m E (l.take k)) u' (.slice a na ca) w wr)) (fun _ x8 _ => i - (intOf x8).toNat)
      case atStart => exact ⟨0, n3, c3, a3, u, rfl, rfl, by omega, by show ERt r t u m (tabL m E (l.take 0)) (U ++ encL m E (l.take 0)) u (.slice a3 n3 c3) w w3; simpa [encL, tabL] using H3.out⟩
      case round =>
        obtain ⟨k, na, ca, a, u', rfl, rfl, hk, HR⟩ := hrel
        by_cases hkn : k < i
        · obtain ⟨y, hy⟩ : ∃ y, l[k]? = some y := ⟨l[k]'(by rw [HN.out]; exact hkn), List.getElem?_eq_getElem _⟩
          obtain ⟨bb, o, rfl, hbb, d0, d1, d2, s1, s2⟩ := (HLW.out wr HR.out.fr).cells k y hy
          have HX : Hid (l[k]? = some y) := hy
          obtain ⟨yn, yu, ys⟩ := y
          dsimp only at d0 d1 d2 s1 s2
          have hkn2 : (k : Int) < (i : Int) := by omega
          have HS : Hid (Short (yn, yu, ys)) := HSH.out k _ hy
          have HB4 : Hid ((U ++ encL m E (l.take k)).length + (encH m (tabL m E (l.take k)) (yn, yu, ys)).length ≤ 225179981368371) := by
            have h1 := HLN.out (k + 1)
            have h2 := (HEN.out k _ HX.out).1
            rw [h2, ← List.append_assoc, List.length_append] at h1
            show _ ≤ _
            omega
          clear hy hbb
          go_wp2_with (first
            | (go_at_call 22; refine (KH.out _ _ _ _ _ yn yu ys HS.out HR.out).mono ?_; rintro e w4 ⟨a4, n4, c4, rfl, hn4, u4, H4⟩; have HN4 : Hid (n4 = (encH m (tabL m E (l.take k)) (yn, yu, ys)).length) := hn4; clear hn4)
            | (at_builtin; refine wpList_append_bytes rfl (.tmp 42) (.tmp 48) 35 35 rfl 5 j Try.underlying35 Try.underlying35 J1.out J2.out J3.out J4.out (.slice a na ca) (U ++ encL m E (l.take k)) (by go_simp) H4.out.1.own a4 n4 c4 (by go_simp) (encH m (tabL m E (l.take k)) (yn, yu, ys)) (own_src H4.out.2) HN4.out.symm (by have := HB4.out; have := HN4.out; omega) ?_; intro a5 n5 c5 w5 Hn5 hown5 hf5 hk5; have H5 : Hid (ERt r t u m (nextE m (tabL m E (l.take k)) (yn, yu, ys)) (U ++ encL m E (l.take k) ++ encH m (tabL m E (l.take k)) (yn, yu, ys)) u4 (.slice a5 n5 c5) w w5) := H4.out.1.put hown5 hf5.out hk5.out; clear hown5 hf5 hk5))
          go_roundw
          case rel =>
            refine ⟨k + 1, n5, c5, a5, u4, rfl, by go_num, by omega, ?_⟩
            show ERt r t u m (tabL m E (l.take (k + 1))) (U ++ encL m E (l.take (k + 1))) u4 (.slice a5 n5 c5) w w5
            rw [(HEN.out k _ HX.out).1, (HEN.out k _ HX.out).2, ← List.append_assoc]
            exact H5.out
          case measure => simp [intOf]; omega
        · obtain rfl : k = i := by omega
          go_wp2_with (fail)
          go_ret2
          refine ⟨a, na, ca, rfl, u', ?_⟩
          have := HR.out
          rw [List.take_of_length_le (Nat.le_of_eq HN.out)] at this
          rw [HE0.out]
          exact this
end Go.Proofs.Ytkipeifkfgbkeaa
/- A copy of a list of headers; the law's awake. -/
namespace Go.Proofs.Ytkipeifkfgbkeaa
open Go.RowKit
set_option maxRecDepth 100000
set_option maxHeartbeats 8000000
set_option linter.unusedVariables false

/-- Headers, as cells. -/
def cellsH : List (ByteArray × ByteArray × Bool) → List Value
  | [] => []
  | h :: l => .string h.1 :: .string h.2.1 :: .bool h.2.2 :: cellsH l
theorem cellsH_length (l : List (ByteArray × ByteArray × Bool)) : (cellsH l).length = l.length * 3 := by
  induction l with
  | nil => rfl
  | cons a l ih => simp only [cellsH, List.length_cons, ih]; omega
theorem cellsH_one (l : List (ByteArray × ByteArray × Bool)) : ∀ u ∈ cellsH l, u.oneCell' = true := by
  induction l with
  | nil => intro u hu; cases hu
  | cons a l ih =>
    intro u hu
    simp only [cellsH, List.mem_cons] at hu
    rcases hu with rfl | rfl | rfl | hu
    · rfl
    · rfl
    · rfl
    · exact ih u hu
theorem cellsH_get : ∀ {l : List (ByteArray × ByteArray × Bool)} {j : Nat} {u : Value}, (cellsH l)[j]? = some u → ∃ r y, l[r]? = some y ∧ ((j = r * 3 ∧ u = .string y.1) ∨ (j = r * 3 + 1 ∧ u = .string y.2.1) ∨ (j = r * 3 + 2 ∧ u = .bool y.2.2))
  | [], j, u, h => by simp [cellsH] at h
  | a :: l, 0, u, h => ⟨0, a, rfl, .inl ⟨rfl, by simp [cellsH] at h; exact h.symm⟩⟩
  | a :: l, 1, u, h => ⟨0, a, rfl, .inr (.inl ⟨rfl, by simp [cellsH] at h; exact h.symm⟩)⟩
  | a :: l, 2, u, h => ⟨0, a, rfl, .inr (.inr ⟨rfl, by simp [cellsH] at h; exact h.symm⟩)⟩
  | a :: l, j + 3, u, h => by
    have h' : (cellsH l)[j]? = some u := by simpa [cellsH] using h
    obtain ⟨r, y, h1, h2⟩ := cellsH_get h'
    refine ⟨r + 1, y, by simpa using h1, ?_⟩
    rcases h2 with h2 | h2 | h2
    · exact .inl ⟨by omega, h2.2⟩
    · exact .inr (.inl ⟨by omega, h2.2⟩)
    · exact .inr (.inr ⟨by omega, h2.2⟩)
theorem cellsH_at : ∀ {l : List (ByteArray × ByteArray × Bool)} {r : Nat} {y : ByteArray × ByteArray × Bool}, l[r]? = some y → (cellsH l)[r * 3]? = some (.string y.1) ∧ (cellsH l)[r * 3 + 1]? = some (.string y.2.1) ∧ (cellsH l)[r * 3 + 2]? = some (.bool y.2.2)
  | [], r, y, h => by simp at h
  | a :: l, 0, y, h => by
    simp at h
    subst h
    exact ⟨rfl, rfl, rfl⟩
  | a :: l, r + 1, y, h => by
    have h' : l[r]? = some y := by simpa using h
    obtain ⟨h1, h2, h3⟩ := cellsH_at h'
    have e : (r + 1) * 3 = r * 3 + 3 := by omega
    rw [e]
    exact ⟨by simpa [cellsH] using h1, by simpa [cellsH] using h2, by simpa [cellsH] using h3⟩
/-- A row of one's own as a list of headers. -/
theorem hl_row {w : World} {g cap : Nat} {l : List (ByteArray × ByteArray × Bool)} (ho : w.ownsRow 0 59 3 (.slice (some ⟨g, 0, none⟩) l.length cap) l.length (cellsH l)) (hf : l.length * 40 < 2 ^ 47) (hs : ∀ y ∈ l, y.1.size < 2 ^ 47 ∧ y.2.1.size < 2 ^ 47) : HL w (some ⟨g, 0, none⟩) cap l := by
  rcases ho.2 with ⟨e, _⟩ | ⟨g', cap', cur, e, h1, h2, h3, h4, h5, h6⟩
  · cases e
  · cases e
    refine ⟨h3, h4, hf, fun r y hr => ⟨g, 0, rfl, lt_of_heap h2, ?_⟩⟩
    obtain ⟨c1, c2, c3⟩ := cellsH_at hr
    have hrl := (List.getElem?_eq_some_iff.1 hr).1
    have key : ∀ j u, (cellsH l)[j]? = some u → w.cell? ⟨g, 0 + j, none⟩ = some u := fun j u hj => by
      have hjl := (List.getElem?_eq_some_iff.1 hj).1
      rw [cellsH_length] at hjl
      rw [Nat.zero_add]
      refine cell_of_heap h2 ?_
      rw [← h6, List.getElem?_take, if_pos hjl] at hj
      rw [← Array.getElem?_toList]
      exact hj
    exact ⟨key _ _ c1, key _ _ c2, key _ _ c3, hs y (List.mem_of_getElem? hr)⟩
theorem copy_run {w : World} {q : Option Addr} {c : Nat} {l : List (ByteArray × ByteArray × Bool)} (h : HL w q c l) :
    ∃ (q' : Option Addr) (c' : Nat) (w' : World), (Builtin.append_ #[30, 30] 30 #[.slice (some ⟨w.heap.size, 0, none⟩) 0 0, .slice q l.length c]).run Try.prog (w.alloc (.cells #[] 59)) = .ok (.slice q' l.length c') w' ∧ HL w' q' c' l ∧ Below w.heap.size w w' ∧ (∀ a, q' = some a → w.heap.size ≤ a.block) := by
  obtain ⟨i, hi, hz0, hz1, hz2⟩ := info_parts info_hdr
  have hb0 : Below w.heap.size w (w.alloc (.cells #[] 59)) := (Below.refl _ w).alloc (Nat.le_refl _) _
  have hlit := World.ownsRow_lit (base := 0) (e := 59) (size := 3) w #[] 0 (Nat.zero_le _) (by decide) rfl
  have h0 := h.later hb0
  have hfew := h.few
  by_cases hl0 : l = []
  · subst hl0
    have hs : Src Try.prog i.size 30 (.slice q 0 c) 0 [] (w.alloc (.cells #[] 59)) := by
      cases q with
      | none => exact Src.ofNil _ Try.underlying30 c
      | some a => exact Src.ofSlice _ Try.underlying30 a 0 c [] (by simp) (fun j u hj => by simp at hj) (fun u hu => by cases hu)
    exact ⟨_, _, _, run_append_nothing _ 30 30 30 59 i Try.underlying30 hi _ 0 0 (Nat.le_refl _) _ hs, ⟨by simp, by simp [maxLen], by simp, fun r h hr => by simp at hr⟩, hb0, fun a ha => by cases ha; exact Nat.le_refl _⟩
  · have hpos : 0 < l.length := List.length_pos_iff.2 hl0
    obtain ⟨b, o, rfl, -⟩ := h0.cells 0 l[0] (List.getElem?_eq_getElem hpos)
    have hnews : ∀ (j : Nat) (x : Value), (cellsH l)[j]? = some x → (w.alloc (.cells #[] 59)).cell? ((⟨b, o, none⟩ : Addr).add j) = some x := fun j x hj => by
      rw [add_none]
      obtain ⟨r, y, hr, hx⟩ := cellsH_get hj
      obtain ⟨b', o', e, -, k0, k1, k2, -⟩ := h0.cells r y hr
      cases e
      rcases hx with ⟨rfl, rfl⟩ | ⟨rfl, rfl⟩ | ⟨rfl, rfl⟩
      · exact k0
      · rw [← Nat.add_assoc]; exact k1
      · rw [← Nat.add_assoc]; exact k2
    have hby : ((0 + l.length) + (0 + l.length) / 4 + 192) * 40 ≤ 281474976710656 := by omega
    obtain ⟨v', w', hr, ho, hg, hiff⟩ := run_append_own_wide (P := Try.prog) _ 0 30 30 59 i (.agg #[.string ⟨#[]⟩, .string ⟨#[]⟩, .bool false]) 3 40 Try.underlying30 hi hz0 hz1 hz2 rfl (by decide) _ 0 _ hlit ⟨b, o, none⟩ l.length c (cellsH l) (by rw [cellsH_length]) hnews (cellsH_one l) (by simp only [maxLen]; omega) hby (Nat.zero_le _)
    have hlit' := hlit
    rw [← hz1] at hlit'
    have hwh := append_where (P := Try.prog) _ 30 30 59 i (.agg #[.string ⟨#[]⟩, .string ⟨#[]⟩, .bool false]) Try.underlying30 hi hz0 _ 0 _ hlit' ⟨b, o, none⟩ l.length c (cellsH l) (by rw [cellsH_length, hz1]) hnews (cellsH_one l) hpos (by omega) (by rw [hz2]; exact hby) v' w' hr
    rw [Nat.zero_add] at ho
    obtain ⟨n1, hn1⟩ : ∃ n1, l.length = n1 + 1 := ⟨l.length - 1, by omega⟩
    have ho' := ho
    rw [hn1] at ho'
    obtain ⟨g7, cap7, rfl⟩ := ownsRow_succ ho'
    rw [← hn1] at hr ho hwh hiff
    have hg7 : w.heap.size ≤ g7 := by
      rcases hwh with e | e
      · cases e; exact Nat.le_refl _
      · cases e; simp
    refine ⟨_, cap7, w', hr, ?_, hb0.grown hg (by simp) (fun k e => by cases e; exact Nat.le_refl _), fun a ha => by cases ha; exact hg7⟩
    exact hl_row (by simpa using ho) hfew (fun y hy => by
      obtain ⟨r, hr', hxr⟩ := List.getElem_of_mem hy
      obtain ⟨_, _, _, _, _, _, _, s1, s2⟩ := h.cells r y (by rw [List.getElem?_eq_getElem hr', hxr])
      exact ⟨s1, s2⟩)
theorem wpList_append_run {P : Program} {ops : Array Oper} {rest : List Oper} {o : Oper} {a : Act} {w w' : World} {Q : Exit → Act → World → Prop} (hgd : o.guard = none) (s x : Operand) (t : TypeId)
    (ho : o.op = .call { callee := .builtin .append, args := #[s, x], argTypes := #[t, t] }) (vs vx v' : Value) (hs : a.eval s = vs) (hx : a.eval x = vx)
    (hr : (Builtin.append_ #[t, t] o.type #[vs, vx]).run P w = .ok v' w') (h : wpList P ops Q rest (a.put o.dst v') w') : wpList P ops Q (o :: rest) a w :=
  wpList_plain hgd fun _ hK => by
    unfold Oper.wp execOp
    simp only [ho, resolve, invoke, builtin, Sem.run_bind, Sem.run_pure, Result.andThen_ok, List.map_toArray, List.map_cons, List.map_nil, hs, hx, hr]
    exact hK _ _ h

/-- ':method', 'GET'. -/
def mName : ByteArray := ⟨#[58, 109, 101, 116, 104, 111, 100]⟩
def mValue : ByteArray := ⟨#[71, 69, 84]⟩
theorem find_get : FindOut [] mName mValue 2 true := by
  refine .inl ⟨rfl, by omega, by simp, ?_, ?_⟩
  · show (sName 1, sValue 1) = _
    decide +kernel
  · intro j hj
    obtain rfl : j = 0 := by omega
    show (sName 0, sValue 0) ≠ _
    decide +kernel
theorem enc_get : encB 100 100 100 [] [(mName, mValue, false)] = [130] := by
  have h : findF [] mName mValue = (2, true) := findF_of find_get
  have h1 : encH 100 [] (mName, mValue, false) = putInt 128 7 2 := by simp only [encH, h]; rfl
  simp only [encB, encL, h1, List.append_nil]
  rfl
theorem below_fr {n : Nat} {S : Nat → Prop} {w w1 w2 : World} (h : Below n w w1) (hn : n ≤ w1.heap.size) (f : Fr S w1 w2) (hs : ∀ k, k < n → ¬ S k) : Below n w w2 :=
  ⟨f.os.trans h.os, f.tape.trans h.tape, f.output.trans h.output, Nat.le_trans h.size f.size, fun k hk => (f.block k (Nat.lt_of_lt_of_le hk hn) (hs k hk)).trans (h.block k hk)⟩
theorem awake_in (w : World) : Calls Try.prog 12 #[] w fun e w' => e = .returned (.bool true) ∧ Below w.heap.size w w' := by
  have KN : Hid (Calls Try.prog 4 #[.int .i64 100] w fun r w' => ∃ e x t, r = .returned (.tuple #[.pointer (some ⟨e, 0, none⟩), .int .i64 0]) ∧ Hid (Enc w' e x t (.slice none 0 0) 100 [] 100 100 ∧ Below w.heap.size w w' ∧ w.heap.size ≤ e ∧ w.heap.size ≤ x ∧ w.heap.size ≤ t)) :=
    (NewEncoder_in 100 w (by decide)).mono (fun r w' ⟨e, x, t, h1, h2⟩ => ⟨e, x, t, h1, h2⟩)
  have hnot : ¬ LongL [(mName, mValue, false)] := by
    rintro (h | ⟨y, hy, hs⟩)
    · simp at h
    · simp at hy
      subst hy
      exact hs ⟨by decide, by decide⟩
  have KE : Hid (∀ e x t w1, Enc w1 e x t (.slice none 0 0) 100 [] 100 100 ∧ Below w.heap.size w w1 ∧ w.heap.size ≤ e ∧ w.heap.size ≤ x ∧ w.heap.size ≤ t → Calls Try.prog 8 #[.pointer (some ⟨e, 0, none⟩), .slice (some ⟨w1.heap.size, 0, none⟩) 1 1] (w1.alloc (.cells #[.string mName, .string mValue, .bool false] 59)) fun r w' => ∃ g off c, r = .returned (.tuple #[.slice (some ⟨g, off, none⟩) 1 c, .int .i64 0]) ∧ w'.cell? ⟨g, off, none⟩ = some (.int .u8 130) ∧ Hid (Below w.heap.size w w')) := fun e x t w1 ⟨h1, h2, h3, h4, h5⟩ => by
    have hb : Below w1.heap.size w1 (w1.alloc (.cells #[.string mName, .string mValue, .bool false] 59)) := (Below.refl _ w1).alloc (Nat.le_refl _) _
    have hb2 : Below w.heap.size w (w1.alloc (.cells #[.string mName, .string mValue, .bool false] 59)) := h2.alloc h2.size _
    have hrow := World.ownsRow_lit (base := 0) (e := 59) (size := 3) w1 #[.string mName, .string mValue, .bool false] 1 (Nat.zero_le _) (by decide) rfl
    have hl : HL (w1.alloc (.cells #[.string mName, .string mValue, .bool false] 59)) (some ⟨w1.heap.size, 0, none⟩) 1 [(mName, mValue, false)] := hl_row hrow (by decide) (fun y hy => by simp at hy; subst hy; exact ⟨by decide, by decide⟩)
    have he := h1.below hb
    refine (Encode_in e x t (.slice none 0 0) 100 100 100 [] _ 1 _ _ he hl hnot (fun a ha _ hk => ?_)).mono ?_
    · cases ha
      have := h1.lt hk
      simp only at this
      omega
    · rintro r w' ⟨a, n, cc, rfl, v', p⟩
      have ho := p.own
      rw [enc_get] at ho
      obtain ⟨g, off, cap, e1, hc, -⟩ := ho.cells 0 (.int .u8 130) rfl
      cases e1
      refine ⟨g, off, cc, rfl, by simpa using hc, below_fr hb2 hb2.size p.fr (fun k hk hs => ?_)⟩
      rcases hs with hs | hs | hs | hs
      · omega
      · omega
      · omega
      · cases hs
  clear hnot
  go_enter Try.func12, Try.ntmps12
  go_wp2_with (first
    | (go_at_call 4; refine KN.out.mono ?_; rintro r w1 ⟨e, x, t, rfl, H1⟩)
    | (go_at_call 8; refine (KE.out e x t w1 H1.out).mono ?_; rintro r w2 ⟨g, off, c, rfl, hc, H2⟩))
  go_ret
  exact ⟨rfl, H2.out⟩
end Go.Proofs.Ytkipeifkfgbkeaa
/- The walk of HpackWrites. -/
namespace Go.Proofs.Ytkipeifkfgbkeaa
open Go.RowKit
set_option maxRecDepth 100000
set_option maxHeartbeats 8000000
set_option linter.unusedVariables false

/-- Both encoders, made since w0, apart. -/
structure Two (w0 w : World) (e x t : Nat) (v : Value) (r s : Nat) (u : Value) (m : Nat) (E : List (ByteArray × ByteArray)) (told least rleast : Nat) : Prop where
  enc : Enc w e x t v m E told least
  ref : REnc w r s u m E told rleast
  same : least = min told rleast
  lo : ∀ k, (EncB e x t v k ∨ k = r ∨ k = s ∨ u.ownBlock = some k) → w0.heap.size ≤ k
  apart : ∀ k, EncB e x t v k → ¬ (k = r ∨ k = s ∨ u.ownBlock = some k)
  fr : Below w0.heap.size w0 w
theorem Two.below {w0 w w' : World} {e x t r s : Nat} {v u : Value} {m told least rleast : Nat} {E : List (ByteArray × ByteArray)} (h : Two w0 w e x t v r s u m E told least rleast) (b : Below w.heap.size w w') : Two w0 w' e x t v r s u m E told least rleast :=
  ⟨h.enc.below b, h.ref.below b, h.same, h.lo, h.apart, h.fr.trans (b.mono h.fr.size)⟩
/-- The program's encoder has turned. -/
theorem Two.turn1 {w0 w w' : World} {e x t r s : Nat} {v v' u : Value} {m told least rleast m2 told2 least2 : Nat} {E E2 : List (ByteArray × ByteArray)} (h : Two w0 w e x t v r s u m E told least rleast) (h1 : Enc w' e x t v' m2 E2 told2 least2) (f : Fr (EncB e x t v) w w') (o : ∀ k, v'.ownBlock = some k → v.ownBlock = some k ∨ w.heap.size ≤ k) :
    REnc w' r s u m E told rleast ∧ (∀ k, (EncB e x t v' k ∨ k = r ∨ k = s ∨ u.ownBlock = some k) → w0.heap.size ≤ k) ∧ (∀ k, EncB e x t v' k → ¬ (k = r ∨ k = s ∨ u.ownBlock = some k)) ∧ Below w0.heap.size w0 w' := by
  have hB : ∀ k, EncB e x t v' k → EncB e x t v k ∨ w.heap.size ≤ k := fun k hk => by
    rcases hk with hk | hk | hk | hk
    · exact .inl (.inl hk)
    · exact .inl (.inr (.inl hk))
    · exact .inl (.inr (.inr (.inl hk)))
    · rcases o k hk with hv | hv
      · exact .inl (.inr (.inr (.inr hv)))
      · exact .inr hv
  refine ⟨h.ref.kept f (fun k hk hs => h.apart k hs hk), fun k hk => ?_, fun k hk hr => ?_, below_fr h.fr h.fr.size f (fun k hk hs => by have := h.lo k (.inl hs); omega)⟩
  · rcases hk with hk | hk
    · rcases hB k hk with hv | hv
      · exact h.lo k (.inl hv)
      · exact Nat.le_trans h.fr.size hv
    · exact h.lo k (.inr hk)
  · rcases hB k hk with hv | hv
    · exact h.apart k hv hr
    · have := h.ref.lt hr
      omega
/-- Then the document's. -/
theorem Two.turn2 {w0 w w1 w2 : World} {e x t r s : Nat} {v v' u u' : Value} {m told least rleast m2 told2 least2 rleast2 : Nat} {E E2 : List (ByteArray × ByteArray)} (h : Two w0 w e x t v r s u m E told least rleast) (h1 : Enc w1 e x t v' m2 E2 told2 least2) (f : Fr (EncB e x t v) w w1) (o : ∀ k, v'.ownBlock = some k → v.ownBlock = some k ∨ w.heap.size ≤ k)
    (h2 : REnc w2 r s u' m2 E2 told2 rleast2) (f2 : Fr (fun k => k = r ∨ k = s) w1 w2) (o2 : ∀ k, u'.ownBlock = some k → u.ownBlock = some k ∨ w1.heap.size ≤ k) (hs : least2 = min told2 rleast2) :
    Two w0 w2 e x t v' r s u' m2 E2 told2 least2 rleast2 := by
  obtain ⟨a1, a2, a3, a4⟩ := h.turn1 h1 f o
  refine ⟨h1.kept f2 (fun k hk hs => a3 k hk (by rcases hs with hs | hs; exact .inl hs; exact .inr (.inl hs))), h2, hs, fun k hk => ?_, fun k hk hr => ?_, below_fr a4 a4.size f2 (fun k hk hs => ?_)⟩
  · rcases hk with hk | hk | hk | hk
    · exact a2 k (.inl hk)
    · exact a2 k (.inr (.inl hk))
    · exact a2 k (.inr (.inr (.inl hk)))
    · rcases o2 k hk with hv | hv
      · exact a2 k (.inr (.inr (.inr hv)))
      · exact Nat.le_trans a4.size hv
  · rcases hr with hr | hr | hr
    · exact a3 k hk (.inl hr)
    · exact a3 k hk (.inr (.inl hr))
    · rcases o2 k hr with hv | hv
      · exact a3 k hk (.inr (.inr hv))
      · have := h1.lt hk
        omega
  · rcases hs with hs | hs
    · have := a2 k (.inr (.inl hs)); omega
    · have := a2 k (.inr (.inr (.inl hs))); omega
theorem upd_same (told rleast m : Nat) : upd told (min told rleast) m = upd told rleast m := by
  unfold upd
  by_cases h : rleast < told
  · rw [show min told rleast = rleast by omega]
  · rw [if_neg (show ¬ (min told rleast < told ∧ min told rleast < m) by omega), if_neg (show ¬ (rleast < told ∧ rleast < m) by omega)]
theorem encB_same {m told least rleast : Nat} (h : least = min told rleast) (E : List (ByteArray × ByteArray)) (l : List (ByteArray × ByteArray × Bool)) : encB m told least E l = encB m told rleast E l := by
  rw [encB, encB, h, upd_same]
theorem own_str {w : World} {a : Option Addr} {n c : Nat} {B : List UInt8} (h : OwnAt w 5 (.slice a n c) (bv B)) : (convert 35 9 (.slice a n c)).run Try.prog w = .ok (.string ⟨B.toArray⟩) w :=
  SrcAt.str (own_src h) (own_len h).1.symm c

/-- The program's encoder has made a step, the document's has not yet. -/
structure Mid (w0 w w1 : World) (e x t : Nat) (v v' : Value) (r s : Nat) (u : Value) (m : Nat) (E : List (ByteArray × ByteArray)) (told least rleast m2 : Nat) (E2 : List (ByteArray × ByteArray)) (told2 least2 : Nat) : Prop where
  two : Two w0 w e x t v r s u m E told least rleast
  enc : Enc w1 e x t v' m2 E2 told2 least2
  fr : Fr (EncB e x t v) w w1
  own : ∀ k, v'.ownBlock = some k → v.ownBlock = some k ∨ w.heap.size ≤ k
theorem Mid.ref {w0 w w1 : World} {e x t r s : Nat} {v v' u : Value} {m told least rleast m2 told2 least2 : Nat} {E E2 : List (ByteArray × ByteArray)} (h : Mid w0 w w1 e x t v v' r s u m E told least rleast m2 E2 told2 least2) : REnc w1 r s u m E told rleast := (h.two.turn1 h.enc h.fr h.own).1
theorem Mid.low {w0 w w1 : World} {e x t r s : Nat} {v v' u : Value} {m told least rleast m2 told2 least2 : Nat} {E E2 : List (ByteArray × ByteArray)} (h : Mid w0 w w1 e x t v v' r s u m E told least rleast m2 E2 told2 least2) : Below w0.heap.size w0 w1 := (h.two.turn1 h.enc h.fr h.own).2.2.2
theorem tLim1 {w0 w : World} {e x t r s : Nat} {v u : Value} {m told least rleast : Nat} {E : List (ByteArray × ByteArray)} (h : Two w0 w e x t v r s u m E told least rleast) (n : Nat) (hn : n ≤ 65536) :
    Calls Try.prog 6 #[.pointer (some ⟨e, 0, none⟩), .int .i64 (n : Int)] w fun q w1 => q = .returned (.int .i64 0) ∧ ∃ v', Hid (Mid w0 w w1 e x t v v' r s u m E told least rleast n (fallen (n : Int) E) told (min least n)) := by
  refine (Limit_in e x t v m told least n E w h.enc hn).mono ?_
  rintro q w1 ⟨rfl, v', a1, a2, a3⟩
  exact ⟨rfl, v', h, a1, a2, a3⟩
theorem tLim2 {w0 w w1 : World} {e x t r s : Nat} {v v' u : Value} {m told least rleast n : Nat} {E : List (ByteArray × ByteArray)} (h : Mid w0 w w1 e x t v v' r s u m E told least rleast n (fallen (n : Int) E) told (min least n)) (hn : n ≤ 65536) :
    Calls Try.prog 7 #[.pointer (some ⟨r, 0, none⟩), .int .i64 (n : Int)] w1 fun q w2 => q = .returned (.int .i64 0) ∧ ∃ u', Hid (Two w0 w2 e x t v' r s u' n (fallen (n : Int) E) told (min least n) (min rleast n)) := by
  refine (rLimit_in r s u m told rleast n E w1 h.ref hn).mono ?_
  rintro q w2 ⟨rfl, u', a1, a2, a3⟩
  exact ⟨rfl, u', h.two.turn2 h.enc h.fr h.own a1 a2 a3 (by have := h.two.same; omega)⟩
theorem tEnc1 {w0 w : World} {e x t r s : Nat} {v u : Value} {m told least rleast : Nat} {E : List (ByteArray × ByteArray)} {q : Option Addr} {c : Nat} {l : List (ByteArray × ByteArray × Bool)} (h : Two w0 w e x t v r s u m E told least rleast) (hl : HL w q c l) (hs : ¬ LongL l) (hq : ∀ a, q = some a → l ≠ [] → ¬ EncB e x t v a.block) :
    Calls Try.prog 8 #[.pointer (some ⟨e, 0, none⟩), .slice q l.length c] w fun z w1 => ∃ a n cc, z = .returned (.tuple #[.slice a n cc, .int .i64 0]) ∧ ∃ v', Hid (Mid w0 w w1 e x t v v' r s u m E told least rleast m (tabL m E l) m m ∧ OwnAt w1 5 (.slice a n cc) (bv (encB m told least E l))) := by
  refine (Encode_in e x t v m told least E q c l w h.enc hl hs hq).mono ?_
  rintro z w1 ⟨a, n, cc, rfl, v', p⟩
  exact ⟨a, n, cc, rfl, v', ⟨h, p.enc, p.fr, p.vown⟩, p.own⟩
theorem tEnc2 {w0 w w1 : World} {e x t r s : Nat} {v v' u : Value} {m told least rleast : Nat} {E : List (ByteArray × ByteArray)} {q : Option Addr} {c : Nat} {l : List (ByteArray × ByteArray × Bool)} {a : Option Addr} {n cc : Nat} {B : List UInt8} (h : Mid w0 w w1 e x t v v' r s u m E told least rleast m (tabL m E l) m m) (ho : OwnAt w1 5 (.slice a n cc) (bv B)) (hB : B = encB m told least E l) (hl : HL w1 q c l) (hs : ¬ LongL l) (hq : ∀ a, q = some a → l ≠ [] → a.block < w0.heap.size) :
    Calls Try.prog 9 #[.pointer (some ⟨r, 0, none⟩), .slice q l.length c] w1 fun z w2 => ∃ a2 n2 c2, z = .returned (.tuple #[.slice a2 n2 c2, .int .i64 0]) ∧ (convert 35 9 (.slice a n cc)).run Try.prog w2 = .ok (.string ⟨B.toArray⟩) w2 ∧ (convert 35 9 (.slice a2 n2 c2)).run Try.prog w2 = .ok (.string ⟨B.toArray⟩) w2 ∧ ∃ u', Hid (Two w0 w2 e x t v' r s u' m (tabL m E l) m m 65537) := by
  have hlo := h.two.lo
  refine (rEncode_in r s u m told rleast E q c l w1 h.ref hl hs (fun a ha hne hk => ?_)).mono ?_
  · have h1 := hq a ha hne
    rcases hk with hk | hk
    · have := hlo _ (.inr (.inl hk)); omega
    · have := hlo _ (.inr (.inr (.inl hk))); omega
  · rintro z w2 ⟨a2, n2, c2, rfl, u', p⟩
    have h3 : OwnAt w2 5 (.slice a n cc) (bv B) := ho.fr p.fr (fun k hk hs => h.ref.tag ho k (by rcases hs with hs | hs; exact .inl hs; exact .inr (.inl hs)) hk)
    have h4 := p.own
    rw [← encB_same h.two.same, ← hB] at h4
    exact ⟨a2, n2, c2, rfl, own_str h3, own_str h4, u', h.two.turn2 h.enc h.fr h.own p.enc p.fr p.uown (by have := p.enc.most; omega)⟩
theorem tBytes1 {w0 w : World} {e x t r s : Nat} {v u : Value} {m told least rleast : Nat} {E : List (ByteArray × ByteArray)} (h : Two w0 w e x t v r s u m E told least rleast) :
    Calls Try.prog 10 #[.pointer (some ⟨e, 0, none⟩)] w fun q w1 => q = .returned (.int .i64 (total E : Int)) ∧ w = w1 := hBytes_in e x t v m told least E w h.enc
theorem tBytes2 {w0 w : World} {e x t r s : Nat} {v u : Value} {m told least rleast : Nat} {E : List (ByteArray × ByteArray)} (h : Two w0 w e x t v r s u m E told least rleast) :
    Calls Try.prog 11 #[.pointer (some ⟨s, 0, none⟩)] w fun q w1 => q = .returned (.int .i64 (total E : Int)) ∧ Hid (Two w0 w1 e x t v r s u m E told least rleast) := by
  refine (rBytes_in s m u E.reverse w h.ref.tab (by rw [total_reverse]; have := h.ref.fits; have := h.ref.most; omega)).mono ?_
  rintro q w1 ⟨rfl, b⟩
  rw [total_reverse]
  exact ⟨rfl, h.below b⟩
end Go.Proofs.Ytkipeifkfgbkeaa
