/- The walk of TableFalls. -/
import Derived.Test.YtpnbpglmcaglfabW1
import Derived.Test.YtpnbpglmcaglfabL2
import Derived.BigQuiet
namespace Go.Proofs.Ytpnbpglmcaglfab
open Go.RowKit
set_option maxRecDepth 100000
set_option maxHeartbeats 8000000
set_option linter.unusedVariables false

theorem HdrsAt.later {w w' : World} {q : Option Addr} {n c b o : Nat} {O : Nat → ByteArray × ByteArray × Bool} (h : HdrsAt w q n c b o O) (f : Below w.heap.size w w') : HdrsAt w' q n c b o O := by
  refine ⟨h.addr, h.few, h.cap, h.big, fun r hr => ?_⟩
  obtain ⟨hb, h0, h1, h2, h5⟩ := h.cells r hr
  have hc : ∀ j, w'.cell? ⟨b, j, none⟩ = w.cell? ⟨b, j, none⟩ := fun j => f.cell (p := ⟨b, j, none⟩) hb
  exact ⟨Nat.lt_of_lt_of_le hb f.size, (hc _).trans h0, (hc _).trans h1, (hc _).trans h2, h5⟩
/-- The headers' names and values, the first n of them. -/
def hdrList (O : Nat → ByteArray × ByteArray × Bool) (n : Nat) : List (ByteArray × ByteArray) := (List.range n).map fun r => ((O r).1, (O r).2.1)
theorem hdrList_succ (O : Nat → ByteArray × ByteArray × Bool) (n : Nat) : hdrList O (n + 1) = hdrList O n ++ [((O n).1, (O n).2.1)] := by simp [hdrList, List.range_succ]
theorem hdrList_length (O : Nat → ByteArray × ByteArray × Bool) (n : Nat) : (hdrList O n).length = n := by simp [hdrList]
theorem hdrList_get (O : Nat → ByteArray × ByteArray × Bool) (n r : Nat) (hr : r < n) : (hdrList O n)[r]? = some ((O r).1, (O r).2.1) := by simp [hdrList, hr]

theorem below_drewsN {B : Nat} {a w : World} (h : Below B a w) (n : Nat) : Below B a (w.drewN n) := ⟨h.os, h.tape, h.output, h.size, h.block⟩
theorem falls_core (m : Nat) (hm : m ≤ 65535) (q0 : Option Addr) (n0 c0 : Nat) (q : Option Addr) (n c b o : Nat) (O : Nat → ByteArray × ByteArray × Bool) (w : World) (hn : n ≤ 300) (hO : HdrsAt w q n c b o O)
    (hcut : (¬ 300 < n0 ∧ q = q0 ∧ n = n0 ∧ c = c0) ∨ (300 < n0 ∧ q = q0 ∧ n = 300 ∧ c = c0 ∧ 300 ≤ c)) :
    Calls Try.prog 3 #[.int .u16 (m : Int), .slice q0 n0 c0] w fun e w' => e = .returned (.bool true) ∧ Below w.heap.size w w' := by
  have KN := New_in m w (by omega)
  have H0 : Hid (Tab0 w (w.alloc (.cells #[.bool true, .int .i64 (m : Int), .int .i64 0, .slice none 0 0] 39)) w.heap.size (.slice none 0 0) m []) := Tab0.new w m (by omega)
  have HO : Hid (HdrsAt w q n c b o O) := hO
  clear hO
  rcases hcut with ⟨h1, rfl, rfl, rfl⟩ | ⟨h1, rfl, hn3, rfl, h4⟩
  case' inl =>
    have hd : ¬ (300 : Int) < (n : Int) := by omega
    have HN3 : Hid True := trivial
  case' inr =>
    have hd : (300 : Int) < (n0 : Int) := by omega
    have HN3 : Hid (n = 300) := hn3
    clear hn3
  all_goals go_enter Try.func3, Try.ntmps3
  all_goals go_wp2_with (go_at_call 4; refine KN.mono ?_; clear KN; rintro e w' ⟨rfl, rfl⟩)
  all_goals try rw [← HN3.out]
  all_goals
    generalize w.alloc (.cells #[.bool true, .int .i64 (m : Int), .int .i64 0, .slice none 0 0] 39) = w1 at H0 ⊢
    obtain ⟨t, ht⟩ : ∃ t, w.heap.size = t := ⟨_, rfl⟩
    rw [ht] at H0 ⊢
    clear ht h1 hd
    go_loopw [7] (fun x7 wr => ∃ (i : Nat) (v : Value) (E : List (ByteArray × ByteArray)), x7 = .int .i64 (i : Int) ∧ i ≤ n ∧ Tab0 w wr t v m E ∧ LastFit m (hdrList O i) E)
      (fun x7 wr => n - (intOf x7).toNat)
    case atStart => exact ⟨0, _, _, rfl, by omega, H0.out, LastFit.nil m⟩
    case round =>
      obtain ⟨i, v, E, rfl, hi, hT, hLF⟩ := hrel
      have HT : Hid (Tab0 w wr t v m E) := hT
      have HLF : Hid (LastFit m (hdrList O i) E) := hLF
      clear hT hLF H0
      by_cases hin : i < n
      · obtain ⟨hb, c0', c1', c2', s1, s2⟩ := (HdrsAt.later HO.out HT.out.fr).cells i hin
        obtain rfl := HO.out.addr (by omega)
        have HNX : Hid (LastFit m (hdrList O (i + 1)) (added m E ((O i).1, (O i).2.1))) := by rw [hdrList_succ]; exact HLF.out.add _
        generalize O i = op at c0' c1' c2' s1 s2 HNX
        obtain ⟨nm, vl, sc⟩ := op
        dsimp only at c0' c1' c2' s1 s2 HNX
        have KA := Add0 HT.out nm vl sc s1 s2
        go_wp2_with (go_at_call 5; refine KA.mono ?_; clear KA; rintro e w4 ⟨rfl, v4, h4', _, _⟩; have H4 : Hid (Tab0 w w4 t v4 m (added m E (nm, vl))) := h4'; clear h4')
        go_roundw
        case rel => exact ⟨i + 1, _, _, rfl, by omega, H4.out, HNX.out⟩
        case measure => simp [intOf]; omega
      · obtain rfl : i = n := by omega
        go_wp2_with (fail)
        have HEL : Hid (E.length ≤ i) := by
          obtain ⟨r, hr⟩ := HLF.out.suf
          have := congrArg List.length hr
          rw [hdrList_length, List.length_append] at this
          show _ ≤ _; omega
        go_loopw [8, 9, 10] (fun x8 x9 x10 wr2 => ∃ k : Nat, x9 = .int .i64 (k : Int) ∧ x10 = .int .i64 ((i : Int) - 1 - (k : Int)) ∧ x8 = .int .i64 ((m : Int) - ((total (E.drop (E.length - k)) : Nat) : Int)) ∧ k ≤ E.length ∧ Tab0 w wr2 t v m E)
          (fun x8 x9 x10 wr2 => E.length - (intOf x9).toNat)
        case atStart => exact ⟨0, rfl, by simp, by simp [total], by omega, HT.out⟩
        case round =>
          obtain ⟨k, rfl, rfl, rfl, hk, hT2⟩ := hrel
          have H7 : Hid (Tab0 w wr t v m E) := hT2
          clear hT2
          obtain ⟨L, hL⟩ : ∃ L, E.length = L := ⟨_, rfl⟩
          have hLi : L ≤ i := by have := HEL.out; omega
          have hfit := H7.out.fits
          have htk2 := total_drop_le E (E.length - k)
          obtain ⟨tk, htk⟩ : ∃ tk, total (E.drop (E.length - k)) = tk := ⟨_, rfl⟩
          rw [htk] at htk2 ⊢
          by_cases hkL : k < L
          · obtain ⟨r, hr⟩ : ∃ r, i - 1 - k = r := ⟨_, rfl⟩
            have hri : r < i := by omega
            obtain ⟨e, he⟩ : ∃ e, E[E.length - 1 - k]? = some e := ⟨E[E.length - 1 - k]'(by omega), List.getElem?_eq_getElem _⟩
            have hat := (HLF.out.at (k := k) (by omega)).2
            rw [he, hdrList_length, hr, hdrList_get O i r hri] at hat
            have hee : ((O r).1, (O r).2.1) = e := by simpa using hat
            have hstep := last_total (by omega) he
            rw [htk] at hstep
            have hle := total_drop_le E (E.length - (k + 1))
            obtain ⟨t1, ht1⟩ : ∃ t1, total (E.drop (E.length - (k + 1))) = t1 := ⟨_, rfl⟩
            rw [ht1] at hstep hle
            have HT1 : Hid (total (E.drop (E.length - (k + 1))) = t1) := ht1
            have HC : Hid (∀ w', Below w.heap.size w w' → w'.cell? ⟨b, o + r * 3, none⟩ = some (.string (O r).1) ∧ w'.cell? ⟨b, o + r * 3 + 1, none⟩ = some (.string (O r).2.1) ∧ w'.cell? ⟨b, o + r * 3 + 2, none⟩ = some (.bool (O r).2.2)) := fun w' bw => by
              obtain ⟨_, z0, z1, z2, _⟩ := (HdrsAt.later HO.out bw).cells r hri
              exact ⟨z0, z1, z2⟩
            obtain ⟨_, _, _, _, s1, s2⟩ := HO.out.cells r hri
            obtain rfl := HO.out.addr (by omega)
            generalize O r = op at HC s1 s2 hee
            obtain ⟨nm, vl, sc⟩ := op
            dsimp only at HC s1 s2 hee
            subst hee
            obtain ⟨sz, hsz⟩ : ∃ sz, nm.size + vl.size + 32 = sz := ⟨_, rfl⟩
            have KS := fun w' => Size_in nm vl sc w' (by omega) (by omega)
            rw [hsz] at KS
            have hesz : esz (nm, vl) = sz := hsz
            rw [hesz] at hstep
            have KG := Get0 ((H7.out.alloc (.cells #[.string nm, .string vl, .bool sc] 30)).alloc (.cells #[.string nm, .string vl, .bool sc] 30)) k (nm, vl) (by omega) he
            obtain ⟨c0', c1', c2'⟩ := HC.out wr H7.out.fr
            have d0 : ∀ o', (wr.alloc o').cell? ⟨b, o + r * 3, none⟩ = some (.string nm) := fun o' => (HC.out _ (H7.out.alloc o').fr).1
            have d1 : ∀ o', (wr.alloc o').cell? ⟨b, o + r * 3 + 1, none⟩ = some (.string vl) := fun o' => (HC.out _ (H7.out.alloc o').fr).2.1
            have d2 : ∀ o', (wr.alloc o').cell? ⟨b, o + r * 3 + 2, none⟩ = some (.bool sc) := fun o' => (HC.out _ (H7.out.alloc o').fr).2.2
            have hr10 : (i : Int) - 1 - (k : Int) = (r : Int) := by omega
            obtain ⟨lf, hlf⟩ : ∃ lf, m - tk = lf := ⟨_, rfl⟩
            have hl8 : (m : Int) - (tk : Int) = (lf : Int) := by omega
            obtain ⟨lg, hlg⟩ : ∃ lg, m - t1 = lg := ⟨_, rfl⟩
            have hl9 : (lf : Int) - (sz : Int) = (lg : Int) := by omega
            have hle8 : (sz : Int) ≤ (lf : Int) := by omega
            have HLG : Hid ((m : Int) - (t1 : Int) = (lg : Int)) := by show _ = _; omega
            have HR : Hid ((r : Int) - 1 = (i : Int) - 1 - ((k + 1 : Nat) : Int)) := by show _ = _; omega
            have hgd : decide ((0 : Int) ≤ (r : Int)) = true := decide_eq_true (by omega)
            have hLf : lf ≤ 65536 := by omega
            rw [hr10, hl8]
            have HL : Hid (E.length = L) := hL
            clear hstep hle htk2 hat he hsz hesz hlf hlg htk ht1 hL hl8 hr10 hr hfit
            go_wp2_with (first
              | (go_at_call 6; refine (KS _).mono ?_; rintro e' w' ⟨rfl, rfl⟩)
              | (go_at_call 7; refine KG.mono ?_; clear KG; rintro e' w8 ⟨rfl, b8⟩; have H8 : Hid (Tab0 w w8 t v m E) := Tab0.below ((H7.out.alloc _).alloc _) b8; clear b8; have g0 : ∀ o', (w8.alloc o').cell? ⟨b, o + r * 3, none⟩ = some (.string nm) := (fun o' => (HC.out _ (H8.out.alloc o').fr).1); have g1 : ∀ o', (w8.alloc o').cell? ⟨b, o + r * 3 + 1, none⟩ = some (.string vl) := (fun o' => (HC.out _ (H8.out.alloc o').fr).2.1)))
            go_quiet (fail)
            go_wp2_with (fail)
            go_roundw
            case rel => exact ⟨k + 1, rfl, by rw [HR.out], by rw [HT1.out, HLG.out], by have := HL.out; omega, H8.out.below (below_drewsN ((Below.refl _ w8).alloc (Nat.le_refl _) _) nq)⟩
            case measure => have := HL.out; simp [intOf]; omega
          · obtain rfl : k = L := by omega
            rw [hL, Nat.sub_self, List.drop_zero] at htk
            have HB : Hid (∀ w', Tab0 w w' t v m E → Calls Try.prog 9 #[.pointer (some ⟨t, 0, none⟩)] w' fun e w'' => e = .returned (.int .i64 (tk : Int)) ∧ w'' = w') := fun w' h' => by have := tBytes_in t m _ v w' h'.tab.at_; rwa [htk] at this
            have HLn : Hid (∀ w', Tab0 w w' t v m E → Calls Try.prog 8 #[.pointer (some ⟨t, 0, none⟩)] w' fun e w'' => e = .returned (.int .i64 (k : Int)) ∧ w'' = w') := fun w' h' => by have := Len0 h'; rwa [hL] at this
            rw [htk] at hfit
            obtain ⟨lf, hlf⟩ : ∃ lf, m - tk = lf := ⟨_, rfl⟩
            have hl8 : (m : Int) - (tk : Int) = (lf : Int) := by omega
            have hl9 : (m : Int) - (lf : Int) = (tk : Int) := by omega
            rw [hl8]
            by_cases hki : k < i
            · obtain ⟨r, hr⟩ : ∃ r, i - 1 - k = r := ⟨_, rfl⟩
              have hri : r < i := by omega
              have hr10 : (i : Int) - 1 - (k : Int) = (r : Int) := by omega
              have hst := HLF.out.stop (x := ((O r).1, (O r).2.1)) (by rw [hdrList_length]; omega) (by rw [hdrList_length, hL, hr]; exact hdrList_get O i r hri)
              rw [htk] at hst
              obtain ⟨_, c0', c1', c2', s1, s2⟩ := (HdrsAt.later HO.out H7.out.fr).cells r hri
              obtain rfl := HO.out.addr (by omega)
              generalize O r = op at c0' c1' c2' s1 s2 hst
              obtain ⟨nm, vl, sc⟩ := op
              dsimp only at c0' c1' c2' s1 s2 hst
              obtain ⟨sz, hsz⟩ : ∃ sz, nm.size + vl.size + 32 = sz := ⟨_, rfl⟩
              have KS := fun w' => Size_in nm vl sc w' (by omega) (by omega)
              rw [hsz] at KS
              have hesz : esz (nm, vl) = sz := hsz
              rw [hesz] at hst
              have hgt : ¬ (sz : Int) ≤ (lf : Int) := by omega
              have hgd : decide ((0 : Int) ≤ (r : Int)) = true := decide_eq_true (by omega)
              rw [hr10]
              clear hst hsz hesz hlf hl8 hr10 hr hfit htk hL htk2
              go_wp2_with (first
                | (go_at_call 6; refine (KS _).mono ?_; rintro e' w' ⟨rfl, rfl⟩)
                | (go_at_call 8; refine (HLn.out _ (H7.out.alloc _)).mono ?_; rintro e' w' ⟨rfl, rfl⟩)
                | (go_at_call 9; refine (HB.out _ (H7.out.alloc _)).mono ?_; rintro e' w' ⟨rfl, rfl⟩)
                | (go_at_call 10; refine (awake_in _).mono ?_; rintro e' w9 ⟨rfl, b9⟩))
              go_ret
              exact ⟨rfl, (Tab0.below (H7.out.alloc _) b9).fr⟩
            · obtain rfl : k = i := by omega
              have hr10 : (k : Int) - 1 - (k : Int) = -1 := by omega
              rw [hr10]
              clear hlf hl8 hr10 hfit htk hL htk2
              go_wp2_with (first
                | (go_at_call 8; refine (HLn.out _ H7.out).mono ?_; rintro e' w' ⟨rfl, rfl⟩)
                | (go_at_call 9; refine (HB.out _ H7.out).mono ?_; rintro e' w' ⟨rfl, rfl⟩)
                | (go_at_call 10; refine (awake_in _).mono ?_; rintro e' w9 ⟨rfl, b9⟩))
              go_ret
              exact ⟨rfl, (Tab0.below H7.out b9).fr⟩
theorem falls_walk (m : Nat) (hm : m ≤ 65535) (q : Option Addr) (n c b o : Nat) (O : Nat → ByteArray × ByteArray × Bool) (w : World) (hO : HdrsAt w q n c b o O) :
    Calls Try.prog 3 #[.int .u16 (m : Int), .slice q n c] w fun e w' => e = .returned (.bool true) ∧ Below w.heap.size w w' := by
  by_cases h3 : 300 < n
  · have hc := hO.cap
    exact falls_core m hm q n c q 300 c b o O w (by omega) ⟨fun _ => hO.addr (by omega), by omega, by omega, hO.big, fun r hr => hO.cells r (by omega)⟩ (.inr ⟨h3, rfl, rfl, rfl, by omega⟩)
  · exact falls_core m hm q n c q n c b o O w (by omega) hO (.inl ⟨h3, rfl, rfl, rfl⟩)
end Go.Proofs.Ytpnbpglmcaglfab
