/- Contracts of package chunk's Ring: Put. -/
import Derived.Test.YtibiiagdhdmpiaaCe
namespace Go.Proofs.Ytibiiagdhdmpiaa
open Go.RowKit
set_option linter.unusedVariables false

theorem add_add (a : Addr) (k j : Nat) : (a.add k).add j = a.add (k + j) := by
  unfold Addr.add
  by_cases h1 : k = 0
  · subst h1; simp
  · by_cases h2 : j = 0
    · subst h2; simp
    · simp [h1, h2, Nat.add_assoc]

theorem room_ring (b : Nat) (sv : Value) (L : List UInt8) (lim rm : Nat) (w : World) (hr : RingIs w b sv L lim) (hrm : rm = lim - L.length) :
    Calls Try.prog 34 #[.pointer (some ⟨b, 0, none⟩)] w fun e w' => e = .returned (.int .i64 rm) ∧ ∃ n, w' = w.drewN n := by
  have hle := hr.le
  obtain ⟨hlim, cur, first, hbk, -⟩ := hr
  obtain ⟨c0, c1, c2, c3⟩ := cell4 hbk
  refine (room_any b L.length lim w c0 c3 (by omega) (by omega) (by omega)).mono ?_
  rintro e w' ⟨rfl, h⟩
  exact ⟨ret_int (by omega), h⟩

/-- A slice cut to its first n: it lies where it lay. -/
theorem cut_to (P : Program) (t e : TypeId) (ht : P.underlying t = some (.slice e)) (hsz : (P.info? e).map (·.size) = some 1) (a : Option Addr) (len cap n : Nat) (k : IntKind) (hn : n ≤ cap) :
    ∀ w, (Instr.slice t (.slice a len cap) none (some (.int k (n : Int))) none).run P w = .ok (.slice a n cap) w := by
  intro w
  have hb := run_sliceBound (P := P) (w := w) k (n : Int) cap .sliceAcap (by omega) (by omega)
  cases hi : P.info? e with
  | none => simp [hi] at hsz
  | some i =>
  have hadd : ∀ x : Addr, x.add 0 = x := by intro x; cases x; simp [Addr.add]
  cases a <;> simp [Instr.slice, run_underlying ht, Instr.sliceBounds, hb, sizeOf, typeInfo, hi, hadd]

/-- A slice cut from l to h. -/
theorem cut_mid (P : Program) (t e : TypeId) (ht : P.underlying t = some (.slice e)) (hsz : (P.info? e).map (·.size) = some 1) (a : Option Addr) (len cap l h : Nat) (k k' : IntKind) (hl : l ≤ h) (hn : h ≤ cap) :
    ∃ dp : Option Addr, (∀ w, (Instr.slice t (.slice a len cap) (some (.int k (l : Int))) (some (.int k' (h : Int))) none).run P w = .ok (.slice dp (h - l) (cap - l)) w) ∧ (l < cap → dp = a.map (·.add l)) := by
  refine ⟨if cap = l then a else a.map (·.add l), fun w => ?_, fun h => by rw [if_neg (by omega)]⟩
  have hb := run_sliceBound (P := P) (w := w) k' (h : Int) cap .sliceAcap (by omega) (by omega)
  have hb2 := run_sliceBound (P := P) (w := w) k (l : Int) h .sliceB (by omega) (by omega)
  cases hi : P.info? e with
  | none => simp [hi] at hsz
  | some i =>
  have h1 : i.size = 1 := by simpa [hi] using hsz
  simp [Instr.slice, run_underlying ht, Instr.sliceBounds, hb, hb2, sizeOf, typeInfo, hi, h1]

theorem put_any (b : Nat) (sv : Value) (L : List UInt8) (lim : Nat) (sp : Option Addr) (slen scap : Nat) (bs : List UInt8) (w : World) (hr : RingIs w b sv L lim)
    (hs : SrcAt w sp bs) (hlen : bs.length = slen) (hcap : slen ≤ scap) (hap : ∀ a, sp = some a → 0 < slen → a.block < w.heap.size ∧ a.block ≠ b ∧ sv.ownBlock ≠ some a.block) (n : Nat) (hn : n = min slen (lim - L.length)):
    Calls Try.prog 36 #[.pointer (some ⟨b, 0, none⟩), .slice sp slen scap] w fun e w' => e = .returned (.int .i64 n) ∧
      ∃ sv', RingIs w' b sv' (L ++ bs.take n) lim ∧ Fr (fun k => k = b ∨ sv.ownBlock = some k) w w' ∧ (sv'.ownBlock = sv.ownBlock ∨ ∃ k, sv'.ownBlock = some k ∧ w.heap.size ≤ k) := by
  have hle := hr.le
  obtain ⟨rm, hrm⟩ : ∃ rm, rm = lim - L.length := ⟨_, rfl⟩
  have hroom := room_ring b sv L lim rm w hr hrm
  have hq : (if rm < slen then (rm : Int) else (slen : Int)) = (n : Int) := by rw [← hrm] at hn; split <;> omega
  have HN : Hid (L.length + n ≤ lim ∧ n ≤ slen) := ⟨by omega, by omega⟩
  have HR : Hid (RingIs w b sv L lim) := hr
  have HROOM : Hid (Calls Try.prog 34 #[.pointer (some ⟨b, 0, none⟩)] w fun e w' => e = .returned (.int .i64 rm) ∧ ∃ n, w' = w.drewN n) := hroom
  have hbs := hr.lt
  obtain ⟨hlim, cur, first, hbk, -⟩ := hr
  obtain ⟨c0, c1, c2, c3⟩ := cell4 hbk
  have hh2 : (lim : Int) ≤ 1048576 := by omega
  have hh3 : (n : Int) ≤ 1048576 := by omega
  have hh4 : (L.length : Int) ≤ 1048576 := by omega
  have HAP : Hid (∀ a, sp = some a → 0 < slen → a.block < w.heap.size ∧ a.block ≠ b ∧ sv.ownBlock ≠ some a.block) := hap
  have HLEN : Hid (bs.length = slen) := hlen
  clear hrm hroom hn hbk hap hlen
  go_enter Try.func36, Try.ntmps36
  go_wp2_with fail
  refine HROOM.out.mono ?_
  rintro e w1 ⟨rfl, nq, rfl⟩
  go_wp2_with fail
  rw [show ((L.length : Int) + (n : Int)) = ((L.length + n : Nat) : Int) from by omega]
  refine (widen_any b (L.length + n) sv L lim _ (by exact HR.out.fr (S := fun _ => False) ((Fr.refl _ _).drewN _) id (fun _ _ => id)) HN.out.1).mono ?_
  rintro e w2 ⟨rfl, a, len, hlen2, hr2, hf2, hown⟩
  have hf2 : Fr (fun k => k = b) w w2 := Fr.trans (b := w.drewN nq) ((Fr.refl _ _).drewN _) hf2
  have hown : (Value.slice a len len).ownBlock = sv.ownBlock ∨ ∃ k, (Value.slice a len len).ownBlock = some k ∧ w.heap.size ≤ k := hown
  clear c0 c1 c2 c3 first cur
  have HF2 : Hid (Fr (fun k => k = b) w w2) := hf2
  have HOWN : Hid ((Value.slice a len len).ownBlock = sv.ownBlock ∨ ∃ k, (Value.slice a len len).ownBlock = some k ∧ w.heap.size ≤ k) := hown
  have HR2 : Hid (RingIs w2 b (.slice a len len) L lim) := hr2
  obtain ⟨-, cur, first, hbk, hcl, hLc, hfst, hL, hrow⟩ := hr2
  obtain ⟨c0, c1, c2, c3⟩ := cell4 hbk
  have z0 : w2.frozen? ⟨b, 0, none⟩ = false := frozen_of_heap hbk
  rcases hrow with ⟨e, rfl⟩ | ⟨g, e, hgb, hpos, hg⟩
  · cases e
    obtain rfl : L = [] := List.eq_nil_of_length_eq_zero (by simpa using hLc)
    obtain rfl : n = 0 := by simpa using hlen2
    obtain rfl : first = 0 := by rcases hfst with h | h; · simp at h
                                 · exact h.1
    have hpl := place_any b 0 0 none 0 0 w2 c2 c1 (by omega) (by omega) (by omega)
    have HPL : Hid (Calls Try.prog 45 #[.pointer (some ⟨b, 0, none⟩), .int .i64 0] w2 fun e w' => e = .returned (.int .i64 0) ∧ w' = w2) := hpl
    have hp1 : ∀ w, (Instr.slice 31 (.slice sp slen scap) none (some (.int .i64 0)) none).run Try.prog w = .ok (.slice sp 0 scap) w := cut_to Try.prog 31 5 Try.underlying31 (by kernel_rfl) sp slen scap 0 .i64 (by omega)
    obtain ⟨dp, hp2, -⟩ := cut_mid Try.prog 31 5 Try.underlying31 (by kernel_rfl) sp slen scap 0 0 .i64 .i64 (by omega) (by omega)
    have hp2 : ∀ w, (Instr.slice 31 (.slice sp slen scap) (some (.int .i64 0)) (some (.int .i64 0)) none).run Try.prog w = .ok (.slice dp 0 scap) w := hp2
    have HBK : Hid (w2.heap[b]? = some (.cells #[.int .i64 0, .slice none 0 0, .int .i64 0, .int .i64 lim] 75 (0, 0))) := hbk
    clear hpl hfst hL hLc hcl hlen2 hq hbk
    go_wp2_with fail
    refine HPL.out.mono ?_
    rintro e w3 ⟨rfl, rfl⟩
    go_wp2
    go_region_law (refine step_copy_nothing rfl (.tmp 36) (.tmp 39) 31 31 rfl 5 Try.underlying31 (by kernel_rfl) _ _ _ _ _ _ rfl rfl (by simp) ?_)
    go_wp2
    go_region_law (refine step_copy_nothing rfl (.tmp 44) (.tmp 48) 31 31 rfl 5 Try.underlying31 (by kernel_rfl) _ _ _ _ _ _ rfl rfl (by simp) ?_)
    go_wp2
    go_ret
    refine ⟨rfl, .slice none 0 0, ⟨hlim, [], 0, ?_, Nat.zero_le _, Nat.le_refl _, .inr ⟨rfl, rfl⟩, rfl, .inl ⟨rfl, rfl⟩⟩, ?_, HOWN.out⟩
    · exact setCell_heap _ HBK.out
    · exact ((HF2.out.mono (fun k _ e => .inl e)).setS (c := b) (.inl rfl) _ _).drewN 2
  · cases e
    have hf : first < cur.length := by rcases hfst with h | h; · exact h
                                       · rw [h.2] at hpos; simp at hpos
    obtain ⟨q, hq'⟩ : ∃ q, q = placeOf first L.length cur.length := ⟨_, rfl⟩
    obtain ⟨k, hk⟩ : ∃ k, k = min (cur.length - q) n := ⟨_, rfl⟩
    have hql : q < cur.length := by have := placeOf_spec first L.length cur.length; omega
    have hpl := place_any b L.length first (some ⟨g, 0, none⟩) cur.length cur.length w2 c2 c1 (by omega) (by omega) (by omega)
    rw [← hq'] at hpl
    have HPL : Hid (Calls Try.prog 45 #[.pointer (some ⟨b, 0, none⟩), .int .i64 L.length] w2 fun e w' => e = .returned (.int .i64 q) ∧ w' = w2) := hpl
    have hn2 := HN.out
    have hp0 := cut_from_lt Try.prog 31 5 Try.underlying31 (by kernel_rfl) g 0 cur.length cur.length q .i64 (by omega) hql
    rw [Nat.zero_add] at hp0
    have hp1 := cut_to Try.prog 31 5 Try.underlying31 (by kernel_rfl) sp slen scap n .i64 (by omega)
    obtain ⟨dp, hp2, hdp⟩ := cut_mid Try.prog 31 5 Try.underlying31 (by kernel_rfl) sp slen scap k n .i64 .i64 (by omega) (by omega)
    have hsl := HLEN.out
    have l1 : (bs.take k).length = k := by simp; omega
    have l2 : ((bs.take n).drop k).length = n - k := by simp; omega
    have hput := ring_put cur L bs first n k q hf hL (by omega) (by omega) hq' hk
    have s1 : (splice cur q (bs.take k)).length = cur.length := length_splice _ _ _ (by omega)
    have s2 : (splice (splice cur q (bs.take k)) 0 ((bs.take n).drop k)).length = cur.length := by rw [length_splice _ _ _ (by rw [l2, s1]; omega), s1]
    have far : ∀ ad, sp = some ad → 0 < slen → ad.block < w2.heap.size ∧ ad.block ≠ b ∧ ad.block ≠ g := by
      intro ad e h0
      obtain ⟨x1, x2, x3⟩ := HAP.out ad e h0
      refine ⟨Nat.lt_of_lt_of_le x1 hf2.size, x2, fun e => ?_⟩
      rcases hown with h | ⟨k, h, hk⟩
      · exact x3 (by rw [← h, e]; rfl)
      · simp [Value.ownBlock] at h; omega
    have hs2 : SrcAt w2 sp bs := by
      intro j c hj
      obtain ⟨ad, e, hc⟩ := hs j c hj
      have hj' : j < bs.length := by have := (List.getElem?_eq_some_iff.1 hj).1; exact this
      have hbl : (ad.add j).block = ad.block := by cases ad; simp [Addr.add]; split <;> simp
      have x := HAP.out ad e (by omega)
      exact ⟨ad, e, by rw [hf2.cell (by rw [hbl]; exact x.1) (by rw [hbl]; exact x.2.1)]; exact hc⟩
    have hs3 : ∀ w3, Fr (fun x => x = g) w2 w3 → SrcAt w3 dp ((bs.take n).drop k) := by
      intro w3 hf3 j c hj
      rw [List.getElem?_drop, List.getElem?_take] at hj
      split at hj
      · obtain ⟨ad, e, hc⟩ := hs2 _ c hj
        have hj' : k + j < bs.length := (List.getElem?_eq_some_iff.1 hj).1
        refine ⟨ad.add k, by rw [hdp (by omega), e]; rfl, ?_⟩
        have hadd : (ad.add k).add j = ad.add (k + j) := add_add ad k j
        have hbl : (ad.add (k + j)).block = ad.block := by cases ad; simp [Addr.add]; split <;> simp
        have x := far ad e (by omega)
        rw [hadd, hf3.cell (by rw [hbl]; exact x.1) (by rw [hbl]; exact x.2.2)]
        exact hc
      · cases hj
    obtain ⟨X, hX⟩ : ∃ X, X = bs.take k := ⟨_, rfl⟩
    obtain ⟨Y, hY⟩ : ∃ Y, Y = (bs.take n).drop k := ⟨_, rfl⟩
    have hsX : SrcAt w2 sp X := by rw [hX]; exact hs2.take k
    rw [← hX] at l1 hput s1 s2
    rw [← hY] at l2 hput s2 hs3
    have HL1 : Hid (X.length = k) := l1
    have HL2 : Hid (Y.length = n - k) := l2
    have HM1 : Hid (X.length = Nat.min n (cur.length - q)) := by rw [l1, hk]; exact Nat.min_comm _ _
    have HM2 : Hid (Y.length = Nat.min (n - k) cur.length) := by rw [l2]; exact (Nat.min_eq_left (by omega)).symm
    have hf0 : q + X.length ≤ cur.length := by omega
    have hf1 : 0 + Y.length ≤ (splice cur q X).length := by omega
    have HPUT : Hid (L ++ bs.take n = (rot (splice (splice cur q X) 0 Y) first).take (L.length + n)) := hput
    have HS2 : Hid ((splice (splice cur q X) 0 Y).length = cur.length) := s2
    have HS3 : Hid (∀ w3, Fr (fun x => x = g) w2 w3 → SrcAt w3 dp Y) := hs3
    have HBK : Hid (w2.heap[b]? = some (.cells #[.int .i64 L.length, .slice (some ⟨g, 0, none⟩) cur.length cur.length, .int .i64 first, .int .i64 lim] 75 (0, 0))) := hbk
    have hbs2 := lt_of_heap hbk
    have HTN : Hid ((bs.take n).length = n) := by show _ = _; simp; omega
    have HBD : Hid (cur.length ≤ lim ∧ L.length + n ≤ cur.length) := ⟨hcl, hlen2⟩
    clear hX hY l1 l2 s1 s2 hput hs3 far hdp hq' hk hq hfst hL hbk hpl hs2 hs hown hsl
    go_wp2_with fail
    refine HPL.out.mono ?_
    rintro e w3 ⟨rfl, rfl⟩
    go_wp2
    go_region_law (refine step_copy_row rfl (.tmp 36) (.tmp 39) 31 31 rfl 5 Try.underlying31 (by kernel_rfl) _ _ _ _ _ _ rfl rfl g q cur 5 hg X HM1.out (fun _ => rfl) (hsX.heap rfl) hf0 ?_; intro w4 hg4 hf4)
    have hf4' : Fr (fun x => x = g) w3 w4 := Fr.trans (b := w3.drew) (Fr.refl _ _).drew hf4.out
    have d0 : w4.cell? ⟨b, 0, none⟩ = some (.int .i64 L.length) := by rw [hf4'.cell (p := ⟨b, 0, none⟩) hbs2 (Ne.symm hgb)]; exact c0
    have d1 : w4.cell? ⟨b, 1, none⟩ = some (.slice (some ⟨g, 0, none⟩) cur.length cur.length) := by rw [hf4'.cell (p := ⟨b, 1, none⟩) hbs2 (Ne.symm hgb)]; exact c1
    have hsY := HS3.out w4 hf4'
    have HF4 : Hid (Fr (fun x => x = g) w3 w4) := hf4'
    clear hf4 hf4'
    rw [HL1.out]
    go_wp2
    go_region_law (refine step_copy_row rfl (.tmp 44) (.tmp 48) 31 31 rfl 5 Try.underlying31 (by kernel_rfl) _ _ _ _ _ _ rfl rfl g 0 (splice cur q X) 5 hg4.out Y HM2.out (fun _ => rfl) (hsY.heap rfl) hf1 ?_; intro w5 hg5 hf5)
    have hf5' : Fr (fun x => x = g) w3 w5 := Fr.trans (b := w4.drew) HF4.out.drew hf5.out
    have hb5 : w5.heap[b]? = some (.cells #[.int .i64 L.length, .slice (some ⟨g, 0, none⟩) cur.length cur.length, .int .i64 first, .int .i64 lim] 75 (0, 0)) := by rw [hf5'.block b hbs2 (Ne.symm hgb)]; exact HBK.out
    obtain ⟨e0, e1, e2, e3⟩ := cell4 hb5
    have y0 : w5.frozen? ⟨b, 0, none⟩ = false := frozen_of_heap hb5
    have HB5 : Hid (w5.heap[b]? = some (.cells #[.int .i64 L.length, .slice (some ⟨g, 0, none⟩) cur.length cur.length, .int .i64 first, .int .i64 lim] 75 (0, 0))) := hb5
    have HF5 : Hid (Fr (fun x => x = g) w3 w5) := hf5'
    clear hf5 hf5' hb5
    go_wp2
    go_ret
    have hlen' : (L ++ bs.take n).length = L.length + n := by rw [List.length_append, HTN.out]
    have hb6 := setCell_heap (i := 0) (.int .i64 ((L.length : Int) + (n : Int))) HB5.out
    have hg6 := setCell_other (i := 0) (.int .i64 ((L.length : Int) + (n : Int))) hgb |>.trans hg5.out
    refine ⟨rfl, .slice (some ⟨g, 0, none⟩) cur.length cur.length, ⟨hlim, splice (splice cur q X) 0 Y, first, ?_, ?_, ?_, ?_, ?_, .inr ⟨g, ?_, hgb, ?_, ?_⟩⟩, ?_, HOWN.out⟩
    · rw [hlen', Int.natCast_add]; exact hb6
    · rw [HS2.out]; exact HBD.out.1
    · rw [HS2.out, hlen']; exact HBD.out.2
    · rw [HS2.out]; exact .inl hf
    · rw [hlen']; exact HPUT.out
    · rw [HS2.out]
    · rw [HS2.out]; exact hpos
    · exact hg6
    · have hgown : ∀ k, k < w.heap.size → k = g → k = b ∨ sv.ownBlock = some k := by
        intro k hk e
        subst e
        rcases HOWN.out with h | ⟨k', h, hk'⟩
        · exact .inr (by rw [← h]; rfl)
        · simp [Value.ownBlock] at h; omega
      have hf6 : Fr (fun k => k = b ∨ sv.ownBlock = some k) w w5 := ⟨HF5.out.os.trans HF2.out.os, HF5.out.tape.trans HF2.out.tape, HF5.out.output.trans HF2.out.output, Nat.le_trans HF2.out.size HF5.out.size, fun k hk hs => by
        rw [HF5.out.block k (Nat.lt_of_lt_of_le hk HF2.out.size) (fun e => hs (hgown k hk e)), HF2.out.block k hk (fun e => hs (.inl e))]⟩
      exact hf6.setS (c := b) (.inl rfl) _ _

end Go.Proofs.Ytibiiagdhdmpiaa
