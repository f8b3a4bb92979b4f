/- Reading an integer: the plain side, and contracts of prefix.addDigits and prefix.Get. -/
import Derived.Test.YtemleghledcclabI1
import Derived.ScopeJumps
import Derived.WalkMore
namespace Go.Proofs.Ytemleghledcclab
open Go.RowKit
set_option maxRecDepth 100000
set_option maxHeartbeats 4000000
set_option linter.unusedVariables false

/-- What the digits add to a number, and the place behind them; or what is wrong, and where. -/
def digs : Nat → Nat → Nat → List UInt8 → Nat × Nat × Nat
  | _, _, p, [] => (0, p, 3)
  | c, s, p, x :: T => if c = 5 then (0, p, 2) else if 2147483647 < s + x.toNat % 128 * 128 ^ c then (0, p, 2) else if x.toNat < 128 then (s + x.toNat % 128 * 128 ^ c, p + 1, 0) else digs (c + 1) (s + x.toNat % 128 * 128 ^ c) (p + 1) T
def trip (r : Nat × Nat × Nat) : Value := .tuple #[.int .i64 r.1, .int .i64 r.2.1, .int .i64 r.2.2]
theorem digs_step {X : List UInt8} {c s p : Nat} {x : UInt8} (hx : X[p]? = some x) : digs c s p (X.drop p) = if c = 5 then (0, p, 2) else if 2147483647 < s + x.toNat % 128 * 128 ^ c then (0, p, 2) else if x.toNat < 128 then (s + x.toNat % 128 * 128 ^ c, p + 1, 0) else digs (c + 1) (s + x.toNat % 128 * 128 ^ c) (p + 1) (X.drop (p + 1)) := by
  obtain ⟨hp, e⟩ := List.getElem?_eq_some_iff.1 hx
  rw [List.drop_eq_getElem_cons hp, e, digs]
theorem digs_end {X : List UInt8} {c s p : Nat} (hp : X.length ≤ p) : digs c s p (X.drop p) = (0, p, 3) := by
  rw [List.drop_eq_nil_of_le hp, digs]
theorem and_not : ∀ x < 256, bits .andNot .u8 ((x : Nat) : Int) 128 = ((x % 128 : Nat) : Int) := by decide +kernel
theorem and_high : ∀ x < 256, bits .and .u8 ((x : Nat) : Int) 128 = if x < 128 then 0 else 128 := by decide +kernel
theorem u8_wide (z : Nat) (h : z < 128) : IntKind.u64.wrap (z : Int) = (z : Int) := by
  rw [show IntKind.u64.wrap (z : Int) = (z : Int) % 18446744073709551616 from rfl]; omega

/-- What holds at the label. -/
def AtEnd (w : World) (R : Nat × Nat × Nat) (a' : Act) (w' : World) : Prop :=
  ∃ (pi : Int) (p s er : Nat) (u0 u1 u3 u4 u5 u6 u7 u8 u11 u12 u13 u14 u15 u16 u17 u18 u19 u20 u21 u22 u23 u24 u25 u26 u27 u28 u29 u30 u31 u32 u33 u34 u35 u36 u37 u38 u39 u40 u41 u42 u43 u44 u45 u46 u47 u48 u49 : Value), a' = { tmps := #[u0, u1, .int .i64 pi, u3, u4, u5, u6, u7, u8, .int .u64 (s : Int), .int .i64 (er : Int), u11, u12, u13, u14, u15, u16, u17, u18, u19, u20, u21, u22, u23, u24, u25, u26, u27, u28, u29, u30, u31, u32, u33, u34, u35, u36, u37, u38, u39, u40, u41, u42, u43, u44, u45, u46, u47, u48, u49], defers := [] } ∧ s < 1099511627776 ∧ p < 9223372036854775808 ∧ er ≤ 3 ∧ R = (if er = 0 then s else 0, p, er) ∧ pi = p ∧ w = w'
theorem atEnd_mk {w : World} {R : Nat × Nat × Nat} {pi : Int} {p s er : Nat} (u0 u1 u3 u4 u5 u6 u7 u8 u11 u12 u13 u14 u15 u16 u17 u18 u19 u20 u21 u22 u23 u24 u25 u26 u27 u28 u29 u30 u31 u32 u33 u34 u35 u36 u37 u38 u39 u40 u41 u42 u43 u44 u45 u46 u47 u48 u49 : Value) (h : s < 1099511627776 ∧ p < 9223372036854775808 ∧ er ≤ 3 ∧ R = (if er = 0 then s else 0, p, er) ∧ pi = p) : AtEnd w R { tmps := #[u0, u1, .int .i64 pi, u3, u4, u5, u6, u7, u8, .int .u64 (s : Int), .int .i64 (er : Int), u11, u12, u13, u14, u15, u16, u17, u18, u19, u20, u21, u22, u23, u24, u25, u26, u27, u28, u29, u30, u31, u32, u33, u34, u35, u36, u37, u38, u39, u40, u41, u42, u43, u44, u45, u46, u47, u48, u49], defers := [] } w :=
  ⟨pi, p, s, er, u0, u1, u3, u4, u5, u6, u7, u8, u11, u12, u13, u14, u15, u16, u17, u18, u19, u20, u21, u22, u23, u24, u25, u26, u27, u28, u29, u30, u31, u32, u33, u34, u35, u36, u37, u38, u39, u40, u41, u42, u43, u44, u45, u46, u47, u48, u49, rfl, h.1, h.2.1, h.2.2.1, h.2.2.2.1, h.2.2.2.2, rfl⟩

theorem digits_any (n : Nat) (a : Option Addr) (len cap p0 : Nat) (w : World) (X : List UInt8) (hs : SrcAt w a X) (hl : X.length = len) (hm : len ≤ 9223372036854775807) (hp0 : p0 ≤ len) (hn : n ≤ 255) :
    Calls Try.prog 11 #[.int .i64 n, .slice a len cap, .int .i64 p0] w fun e w' => e = .returned (trip (digs 0 n p0 (X.drop p0))) ∧ w = w' := by
  have HS : Hid (SrcAt w a X) := hs
  obtain ⟨R, hR⟩ : ∃ R, R = digs 0 n p0 (X.drop p0) := ⟨_, rfl⟩
  rw [← hR]
  have HR : Hid (digs 0 n p0 (X.drop p0) = R) := hR.symm
  clear hs hR
  go_enter Try.func11, Try.ntmps11
  go_wp2_with (fail)
  refine wp_scope_jumps 0 (AtEnd w R) (fun _ _ => 0) rfl ?_ ?_
  · go_wp2_with (fail)
    go_loop [2, 9, 10, 11] (fun v2 v9 v10 v11 => ∃ c s p : Nat, c ≤ 5 ∧ s ≤ 2147483647 ∧ p ≤ len ∧ v2 = .int .i64 p ∧ v9 = .int .u64 s ∧ v10 = .int .i64 0 ∧ v11 = .int .i64 c ∧ Hid (digs c s p (X.drop p) = R)) (fun _ _ _ v11 => 5 - (intOf v11).toNat)
    case atStart => exact ⟨0, n, p0, by omega, by omega, by omega, rfl, rfl, rfl, rfl, HR⟩
    case round =>
      obtain ⟨c, s, p, hc, hsm, hp, rfl, rfl, rfl, rfl, HD⟩ := hrel
      by_cases hlt : p < len
      · have hne : ¬ (p : Int) = len := by omega
        obtain ⟨ad, x, rfl, hx, hcell⟩ := src_at HS.out p (by omega)
        have HST : Hid (R = _) := HD.out.symm.trans (digs_step hx)
        by_cases h5 : c = 5
        · subst h5
          have HE : Hid (R = (0, p, 2)) := by show _ = _; rw [HST.out]; simp
          clear HST
          go_wp2_with (fail)
          go_step3
          simp only [Exit.then, Exit.inBlock]
          refine ⟨by first | trivial | rfl, ?_⟩
          apply atEnd_mk (er := 2) (p := p)
          exact ⟨by omega, by omega, by omega, HE.out, by first | rfl | omega⟩
        · have h5i : ¬ (c : Int) = 5 := by omega
          have hx8 : x.toNat < 256 := UInt8.toNat_lt x
          have ha1 := and_not x.toNat hx8
          have ha2 := and_high x.toNat hx8
          obtain ⟨y, hy⟩ : ∃ y, y = x.toNat % 128 * 128 ^ c := ⟨_, rfl⟩
          obtain ⟨sh, hsh⟩ : ∃ sh, sh = 7 * c := ⟨_, rfl⟩
          have hshi : 7 * (c : Int) = (sh : Int) := by omega
          obtain ⟨z, hz⟩ : ∃ z, z = x.toNat % 128 := ⟨_, rfl⟩
          have hz8 : z < 128 := by omega
          have hyi : (z : Int) * 2 ^ sh = (y : Int) := by
            have hpw : (2 : Int) ^ (7 * c) = ((128 ^ c : Nat) : Int) := by
              rw [show (2 : Int) ^ (7 * c) = ((2 ^ (7 * c) : Nat) : Int) by push_cast; rfl, Nat.pow_mul]
            rw [hy, hz, hsh, hpw]; push_cast; rfl
          have hyb : y ≤ 127 * 128 ^ 4 := by
            rw [hy]; exact Nat.mul_le_mul (by omega) (Nat.pow_le_pow_right (by omega) (by omega))
          have hyb2 : y < 68719476736 := by omega
          rw [← hz] at ha1
          have HC : Hid (R = if 2147483647 < s + y then (0, p, 2) else if x.toNat < 128 then (s + y, p + 1, 0) else digs (c + 1) (s + y) (p + 1) (X.drop (p + 1))) := by
            show _ = _; rw [HST.out, if_neg h5, hy]
          have hshb : sh ≤ 28 := by omega
          clear HST hy hz hsh hyb HD
          obtain ⟨t, ht⟩ : ∃ t, t = s + y := ⟨_, rfl⟩
          have hti : (s : Int) + y = (t : Int) := by omega
          have htb : t < 1099511627776 := by omega
          rw [← ht] at HC
          clear ht
          by_cases hg : 2147483647 < t
          · have hgi : (2147483647 : Int) < t := by omega
            have HE : Hid (R = (0, p, 2)) := by show _ = _; rw [HC.out, if_pos hg]
            clear HC
            go_wp2_with (fail)
            go_step3
            simp only [Exit.then, Exit.inBlock]
            refine ⟨by first | trivial | rfl, ?_⟩
            apply atEnd_mk (er := 2) (p := p)
            exact ⟨by omega, by omega, by omega, HE.out, by first | rfl | omega⟩
          · have hgi : ¬ (2147483647 : Int) < t := by omega
            by_cases h7 : x.toNat < 128
            · rw [if_pos h7] at ha2
              have HE : Hid (R = (t, p + 1, 0)) := by show _ = _; rw [HC.out, if_neg hg, if_pos h7]
              clear HC
              go_wp2_with (fail)
              go_step3
              simp only [Exit.then, Exit.inBlock]
              refine ⟨by first | trivial | rfl, ?_⟩
              apply atEnd_mk (er := 0) (p := p + 1)
              exact ⟨by omega, by omega, by omega, HE.out, by first | rfl | omega⟩
            · rw [if_neg h7] at ha2
              have HE : Hid (R = digs (c + 1) t (p + 1) (X.drop (p + 1))) := by show _ = _; rw [HC.out, if_neg hg, if_neg h7]
              clear HC
              go_wp2_with (fail)
              go_round
              case rel => exact ⟨c + 1, t, p + 1, by omega, by omega, by omega, by go_num, rfl, rfl, by go_num, HE.out.symm⟩
              case measure => simp [intOf]; omega
      · obtain rfl : p = len := by omega
        have HE : Hid (R = (0, p, 3)) := by show _ = _; rw [← HD.out, digs_end (by omega)]
        clear HD
        go_wp2_with (fail)
        go_step3
        simp only [Exit.then, Exit.inBlock]
        refine ⟨by first | trivial | rfl, ?_⟩
        apply atEnd_mk (er := 3) (p := p)
        exact ⟨by omega, by omega, by omega, HE.out, by first | rfl | omega⟩
  · rintro a' w' ⟨pi, p, s, er, u0, u1, u3, u4, u5, u6, u7, u8, u11, u12, u13, u14, u15, u16, u17, u18, u19, u20, u21, u22, u23, u24, u25, u26, u27, u28, u29, u30, u31, u32, u33, u34, u35, u36, u37, u38, u39, u40, u41, u42, u43, u44, u45, u46, u47, u48, u49, rfl, hs1, hp1, her, hr, rfl, rfl⟩
    have HE : Hid (R = (if er = 0 then s else 0, p, er)) := hr
    clear hr HR HS
    by_cases h0 : er = 0
    · subst h0
      go_wp2_with (fail)
      try go_step3
      go_wp2_with (fail)
      try simp only [Exit.jump]
      go_ret3
      exact ⟨by rw [HE.out]; rfl, rfl⟩
    · have h0i : ¬ (er : Int) = 0 := by omega
      go_wp2_with (fail)
      try go_step3
      go_wp2_with (fail)
      try simp only [Exit.jump]
      go_ret3
      exact ⟨by rw [HE.out, if_neg h0]; rfl, rfl⟩

/-- What Get answers. -/
def getOut (X : List UInt8) (p k : Int) : Nat × Nat × Nat :=
  if k < 1 ∨ 8 < k ∨ p < 0 ∨ (X.length : Int) < p then (0, 0, 1) else
  match X[p.toNat]? with
  | none => (0, p.toNat, 3)
  | some x => if x.toNat % 2 ^ k.toNat < allOnes k.toNat then (x.toNat % 2 ^ k.toNat, p.toNat + 1, 0) else digs 0 (x.toNat % 2 ^ k.toNat) (p.toNat + 1) (X.drop (p.toNat + 1))
theorem getOut_bad {X : List UInt8} {p k : Int} (h : k < 1 ∨ 8 < k ∨ p < 0 ∨ (X.length : Int) < p) : getOut X p k = (0, 0, 1) := by rw [getOut, if_pos h]
theorem getOut_end {X : List UInt8} {k : Nat} (h1 : 1 ≤ k) (h8 : k ≤ 8) : getOut X (X.length : Nat) k = (0, X.length, 3) := by
  rw [getOut, if_neg (by omega)]
  simp
theorem getOut_at {X : List UInt8} {p k : Nat} {x : UInt8} (h1 : 1 ≤ k) (h8 : k ≤ 8) (hx : X[p]? = some x) : getOut X p k = if x.toNat % 2 ^ k < allOnes k then (x.toNat % 2 ^ k, p + 1, 0) else digs 0 (x.toNat % 2 ^ k) (p + 1) (X.drop (p + 1)) := by
  have := (List.getElem?_eq_some_iff.1 hx).1
  rw [getOut, if_neg (by omega), Int.toNat_natCast, hx]
  simp
theorem ones_same (k : Nat) (w : World) (h : k ≤ 8) : Calls Try.prog 10 #[.int .i64 k] w fun e w' => e = .returned (.int .i64 (allOnes k)) ∧ w' = w :=
  (ones_any k w h).mono fun e w' h => ⟨h.1, h.2.symm⟩

theorem get_any (a : Option Addr) (len cap : Nat) (p k : Int) (w : World) (X : List UInt8) (hs : SrcAt w a X) (hl : X.length = len) (hm : len ≤ 9223372036854775807) :
    Calls Try.prog 6 #[.slice a len cap, .int .i64 p, .int .i64 k] w fun e w' => e = .returned (trip (getOut X p k)) ∧ Fr (fun _ => False) w w' := by
  by_cases h1 : k < 1
  · rw [getOut_bad (.inl h1)]
    clear hs
    go_enter Try.func6, Try.ntmps6
    go_wp2_with (fail)
    go_ret3
    exact ⟨rfl, Fr.refl _ _⟩
  · by_cases h2 : 8 < k
    · rw [getOut_bad (.inr (.inl h2))]
      clear hs
      go_enter Try.func6, Try.ntmps6
      go_wp2_with (fail)
      go_ret3
      exact ⟨rfl, Fr.refl _ _⟩
    · by_cases h3 : p < 0
      · rw [getOut_bad (.inr (.inr (.inl h3)))]
        clear hs
        go_enter Try.func6, Try.ntmps6
        go_wp2_with (fail)
        go_ret3
        exact ⟨rfl, Fr.refl _ _⟩
      · by_cases h4 : (len : Int) < p
        · rw [getOut_bad (.inr (.inr (.inr (by omega))))]
          clear hs
          go_enter Try.func6, Try.ntmps6
          go_wp2_with (fail)
          go_ret3
          exact ⟨rfl, Fr.refl _ _⟩
        · obtain ⟨j, rfl⟩ : ∃ j : Nat, k = j := ⟨k.toNat, by omega⟩
          obtain ⟨q, rfl⟩ : ∃ q : Nat, p = q := ⟨p.toNat, by omega⟩
          by_cases h5 : q = len
          · subst h5
            have HE : Hid (getOut X (q : Int) j = (0, q, 3)) := by show _ = _; rw [← hl]; exact getOut_end (by omega) (by omega)
            clear hs hl
            go_enter Try.func6, Try.ntmps6
            go_wp2_with (fail)
            go_ret3
            exact ⟨by rw [HE.out]; rfl, Fr.refl _ _⟩
          · have h5i : ¬ (q : Int) = len := by omega
            obtain ⟨ad, x, rfl, hx, hcell⟩ := src_at hs q (by omega)
            have hx8 : x.toNat < 256 := UInt8.toNat_lt x
            have hlow := low_bits x.toNat j hx8 (by omega)
            have HG : Hid (getOut X (q : Int) j = _) := getOut_at (by omega) (by omega) hx
            have HO : Hid (∀ w, Calls Try.prog 10 #[.int .i64 j] w fun e w' => e = .returned (.int .i64 (allOnes j)) ∧ w' = w) := fun w => ones_same j w (by omega)
            have HK : Hid (∀ n m, m ≤ 255 → Calls Try.prog 11 #[.int .i64 (m : Nat), .slice (some ad) len cap, .int .i64 (q + 1 : Nat)] (w.drewN n) fun e w' => e = .returned (trip (digs 0 m (q + 1) (X.drop (q + 1)))) ∧ w.drewN n = w') := fun n m hmm => digits_any m _ len cap (q + 1) _ X (hs.oldF ((Fr.refl _ _).drewN n)) hl hm (by omega) hmm
            have hob := (pow_cases j (by omega)).2
            have hpw := (pow_cases j (by omega)).1
            obtain ⟨m, hmm⟩ : ∃ m, m = x.toNat % 2 ^ j := ⟨_, rfl⟩
            have hmb : m ≤ allOnes j := by
              have := Nat.mod_lt x.toNat (Nat.two_pow_pos j)
              omega
            rw [← hmm] at hlow HG
            clear hmm hpw hx
            generalize allOnes j = o at *
            by_cases h6 : m < o
            · have h6i : (m : Int) < o := by omega
              have HE : Hid (getOut X (q : Int) j = (m, q + 1, 0)) := by show _ = _; rw [HG.out, if_pos h6]
              clear HG HK hs hl
              go_enter Try.func6, Try.ntmps6
              go_wp2_with (fail)
              go_quiet ((go_at_call 10; exact Calls.quiet_of_same (HO.out _)))
              go_wp2_with (go_at_call 10; refine (HO.out _).mono ?_; rintro e w' ⟨rfl, hw⟩; cases hw)
              go_ret3
              exact ⟨by rw [HE.out]; rfl, (Fr.refl _ _).drewN _⟩
            · have h6i : ¬ (m : Int) < o := by omega
              have HE : Hid (getOut X (q : Int) j = digs 0 m (q + 1) (X.drop (q + 1))) := by show _ = _; rw [HG.out, if_neg h6]
              have hq1 : ((q + 1 : Nat) : Int) = (q : Int) + 1 := by omega
              rw [hq1] at HK
              clear HG hs hl
              go_enter Try.func6, Try.ntmps6
              go_wp2_with (fail)
              go_quiet ((go_at_call 10; exact Calls.quiet_of_same (HO.out _)))
              go_wp2_with (go_at_call 10; refine (HO.out _).mono ?_; rintro e w' ⟨rfl, hw⟩; cases hw)
              refine (HK.out _ m (by omega)).mono ?_
              rintro e w' ⟨rfl, hw⟩
              subst hw
              rw [← HE.out]
              obtain ⟨⟨x1, x2, x3⟩, hr⟩ : ∃ r, r = getOut X (q : Int) j := ⟨_, rfl⟩
              rw [← hr]
              have HRR : Hid ((x1, x2, x3) = getOut X (q : Int) j) := hr
              clear hr
              unfold trip
              go_wp2_with (fail)
              go_ret3
              exact ⟨by rw [← HRR.out]; rfl, (Fr.refl _ _).drewN _⟩

end Go.Proofs.Ytemleghledcclab
