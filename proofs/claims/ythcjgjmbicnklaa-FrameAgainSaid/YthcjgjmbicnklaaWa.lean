/- The walk of FrameAgain. -/
import Derived.Test.YthcjgjmbicnklaaWs
import Derived.Test.YthcjgjmbicnklaaPa
namespace Go.Proofs.Ythcjgjmbicnklaa
open Go.RowKit
set_option linter.unusedVariables false
set_option maxRecDepth 100000
set_option maxHeartbeats 4000000

theorem Nums.rdP {g : Fra} (hg : Nums g) (j : Nat) (b : List UInt8) (hb : b.length < 2 ^ 47) : Nums (rdP j g b) := by
  have h4 := num_small 4 b
  have hi : (Lit.int .i64 ((num (b.take 4) % 2147483648 : Nat) : Int)).wf = true := i64w (by omega) (by omega)
  have hw : (Lit.int .i64 ((((b.getD 4 0).toNat : Nat) : Int) + 1)).wf = true := by
    have := (b.getD 4 0).toNat_lt
    exact i64w (by omega) (by omega)
  unfold Go.Proofs.Ythcjgjmbicnklaa.rdP
  repeat' split
  · exact { hg with last := hi }
  · exact { hg with code := by show num (b.take 4) < 4294967296; omega }
  · exact { hg with dep := hi, wt := hw }
  · exact { hg with few := hb }
  · exact { hg with few := hg.few }
  · exact { hg with inc := hi }
theorem Nums.rds : ∀ (js : List Nat) (g : Fra) (b : List UInt8), Nums g → b.length < 2 ^ 47 → Nums (rd js g b) := by
  intro js
  induction js with
  | nil => intro g b hg _; exact hg
  | cons j js ih =>
    intro g b hg hb
    rw [rd]
    exact ih _ _ (hg.rdP j _ (by rw [List.length_take]; omega)) (by rw [List.length_drop]; omega)
theorem zero_nums : Nums zeroF := ⟨by simp [zeroF], by simp [zeroF], by decide, by decide, by decide, by decide, by decide, by decide, by decide, by decide⟩
theorem parse_nums (B : List UInt8) (most : Int) (hB : B.length < 2 ^ 47) : Nums (parseO B most).1 := by
  unfold parseO
  repeat' split
  all_goals try exact zero_nums
  have u3 := (B.getD 3 0).toNat_lt
  have u4 := (B.getD 4 0).toNat_lt
  have hh : Nums (headF B) := ⟨by simp [headF, zeroF], by simp [headF, zeroF], i64w (by show _ ≤ (((B.getD 3 0).toNat : Nat) : Int); omega) (by show (((B.getD 3 0).toNat : Nat) : Int) ≤ _; omega), i64w (by show _ ≤ (((B.getD 4 0).toNat : Nat) : Int); omega) (by show (((B.getD 4 0).toNat : Nat) : Int) ≤ _; omega), i64w (by show _ ≤ ((num ((B.drop 5).take 4) % 2147483648 : Nat) : Int); omega) (by show ((num ((B.drop 5).take 4) % 2147483648 : Nat) : Int) ≤ _; omega), (by show (Lit.int .i64 0).wf = true; decide), (by show (Lit.int .i64 0).wf = true; decide), (by show (Lit.int .i64 0).wf = true; decide), (by show (Lit.int .i64 0).wf = true; decide), (by show (Lit.int .i64 0).wf = true; decide)⟩
  obtain ⟨h, hhd⟩ : ∃ h, headF B = h := ⟨_, rfl⟩
  rw [hhd] at hh
  dsimp only
  rw [hhd]
  unfold readO
  repeat' split
  all_goals try exact zero_nums
  all_goals
    dsimp only
    split
    · exact zero_nums
    · refine Nums.rds _ _ _ { hh with pad := ?_ } ?_
      · have hp : padN h ((B.drop 9).take (num (B.take 3))) ≤ 255 := by
          unfold padN
          split
          · have := (((B.drop 9).take (num (B.take 3))).getD 0 0).toNat_lt
            omega
          · omega
        exact i64w (by show _ ≤ ((padN h _ : Nat) : Int); omega) (by show ((padN h _ : Nat) : Int) ≤ _; omega)
      · rw [List.length_take]
        have : (padC h ((B.drop 9).take (num (B.take 3)))).length ≤ B.length := by
          unfold padC
          split
          · rw [List.length_drop, List.length_take, List.length_drop]; omega
          · rw [List.length_take, List.length_drop]; omega
        omega

theorem again_form {w0 w : World} {a : Option Addr} {n d m : Nat} {D : List UInt8} (h : Gath w0 w (.slice a n d) ([] ++ D)) (hD : D.length = m) (hm : 0 < m) : ∃ g o, a = some ⟨g, o, none⟩ := by
  rcases h.1 with ⟨h1, h2⟩ | ⟨g, off, cap, cur, h1, _⟩
  · simp [bv] at h2; subst h2; simp at hD; omega
  · simp only [Value.slice.injEq] at h1
    exact ⟨g, off, h1.1⟩
theorem again_cell {w0 w : World} {g o n d m : Nat} {D : List UInt8} (h : Gath w0 w (.slice (some ⟨g, o, none⟩) n d) ([] ++ D)) (hD : D.length = m) (hm : 9 ≤ m) : ∃ y : UInt8, w.cell? ⟨g, o + 5, none⟩ = some (.int .u8 (y.toNat : Int)) ∧ w.frozen? ⟨g, o + 5, none⟩ = false ∧ Hid (D.getD 5 0 = y) := by
  have hO : OwnAt w 5 (.slice (some ⟨g, o, none⟩) n d) (bv D) := by simpa using h.1
  obtain ⟨g6, o6, cap6, ha6, hc5, hz5⟩ := hO.cells 5 (.int .u8 (D.getD 5 0).toNat) ((bv_get _ _ _).2 ⟨_, getD_some D 5 (by omega), rfl⟩)
  simp only [Value.slice.injEq, Option.some.injEq, Addr.mk.injEq, and_true] at ha6
  obtain ⟨⟨rfl, rfl⟩, -, rfl⟩ := ha6
  exact ⟨_, hc5, hz5, rfl⟩
theorem again_far {wt w5 w6 w7 : World} {b g6 o6 n6 d6 : Nat} {g : Fra} {p9 q9 : Option Addr} {k9 d9 : Nat} {Z : List UInt8} (h : FAt wt b g p9 k9 q9 d9) (h5 : Fr (fun _ => False) wt w5) (h6 : Gath w5 w6 (.slice (some ⟨g6, o6, none⟩) n6 d6) Z) (h7 : Fr (fun k => k = g6) w6 w7) (hg : g6 = g6) : w7.cell? ⟨b, 0, none⟩ = some (.int .i64 g.k) := by
  have h1 := h6.new ⟨g6, o6, none⟩ rfl
  have h2 : b < w5.heap.size := Nat.lt_of_lt_of_le (lt_of_heap h) h5.size
  have h3 := (h.later h5).later h6.2.2
  exact (h7.cell (p := ⟨b, 0, none⟩) (lt_of_heap h3) (by show ¬ b = g6; dsimp only at h1; omega)).trans (cell_of_heap h3 rfl)
theorem again_walk (bq : Option Addr) (bc : Nat) (X : List UInt8) (w : World) (hX : SrcAt w bq X) (hXn : X.length < 2 ^ 47) (hcp : X.length ≤ bc) :
    Calls Try.prog 7 #[.slice bq X.length bc] w fun e w' => e = .returned (.bool true) ∧ Below w.heap.size w w' := by
  have KP : Hid (Calls Try.prog 12 #[.slice bq X.length bc, .int .i64 65536] w fun e w2 => ParsedAs w (parseO X 65536) e w2) := Parse_in bq X.length bc X 65536 w hX rfl hcp (by omega) (by decide)
  have hnu := parse_nums X 65536 hXn
  obtain ⟨g, n, xf, er, hpo⟩ : ∃ g n xf er, parseO X 65536 = (g, n, xf, er) := ⟨_, _, _, _, rfl⟩
  rw [hpo] at KP hnu
  have HNU : Hid (Nums g) := hnu
  have hnb : n ≤ 16777300 := by
    have h1 : (parseO X 65536).2.1 ≤ 16777300 := by
      have h3 := num_small 3 X
      unfold parseO
      repeat' split
      all_goals dsimp only
      all_goals omega
    rw [hpo] at h1
    exact h1
  have HX : Hid (SrcAt w bq X) := hX
  obtain ⟨l, hl⟩ : ∃ l, X.length = l := ⟨_, rfl⟩
  have HL : Hid (X.length = l) := hl
  rw [hl] at KP hXn hcp ⊢
  clear hX hnu
  by_cases h0 : er = 0
  case neg =>
    have hne : (er != 0) = true := by simpa using h0
    clear h0 hpo
    go_enter Try.func7, Try.ntmps7
    go_wp2_with (fail)
    refine KP.out.mono ?_
    rintro e w2 ⟨p9, k9, q9, d9, rfl, hX9, hY9, hf2⟩
    dsimp only
    obtain ⟨wt, hwt⟩ : ∃ wt, wt = ((w2.alloc (.cells #[.int .i64 g.k, .int .i64 g.fl, .int .i64 g.st, .slice p9 g.X.length k9, .int .i64 g.pad, .int .u32 g.code, .int .i64 g.last, .int .i64 g.inc, .int .i64 g.dep, .bool g.only, .int .i64 g.wt, .slice q9 g.Y.length d9] 26)).alloc (.cells #[.bool xf.is, .int .i64 xf.st, .int .i64 xf.code] 35)) := ⟨_, rfl⟩
    have FWT : Hid (Fr (fun _ => False) w wt) := by rw [hwt]; exact (hf2.alloc _).alloc _
    go_wp2_with (fail)
    rw [← hwt]
    clear hwt
    refine (fawake_in _).mono ?_
    rintro e w3 ⟨rfl, rfl⟩
    go_wp2
    go_ret
    exact ⟨rfl, FWT.out.below (fun _ _ h => h)⟩
  case pos =>
    subst h0
    cases hxi : xf.is
    case true =>
      go_enter Try.func7, Try.ntmps7
      go_wp2_with (fail)
      refine KP.out.mono ?_
      rintro e w2 ⟨p9, k9, q9, d9, rfl, hX9, hY9, hf2⟩
      dsimp only
      rw [hxi]
      obtain ⟨wt, hwt⟩ : ∃ wt, wt = ((w2.alloc (.cells #[.int .i64 g.k, .int .i64 g.fl, .int .i64 g.st, .slice p9 g.X.length k9, .int .i64 g.pad, .int .u32 g.code, .int .i64 g.last, .int .i64 g.inc, .int .i64 g.dep, .bool g.only, .int .i64 g.wt, .slice q9 g.Y.length d9] 26)).alloc (.cells #[.bool true, .int .i64 xf.st, .int .i64 xf.code] 35)) := ⟨_, rfl⟩
      have FWT : Hid (Fr (fun _ => False) w wt) := by rw [hwt]; exact (hf2.alloc _).alloc _
      clear hpo
      go_wp2_with (fail)
      rw [← hwt]
      clear hwt
      refine (fawake_in _).mono ?_
      rintro e w3 ⟨rfl, rfl⟩
      go_wp2
      go_ret
      exact ⟨rfl, FWT.out.below (fun _ _ h => h)⟩
    case false =>
      cases hkn : knownB g.k
      case false =>
        go_enter Try.func7, Try.ntmps7
        go_wp2_with (fail)
        refine KP.out.mono ?_
        rintro e w2 ⟨p9, k9, q9, d9, rfl, hX9, hY9, hf2⟩
        dsimp only
        rw [hxi]
        obtain ⟨wt, hwt⟩ : ∃ wt, wt = ((w2.alloc (.cells #[.int .i64 g.k, .int .i64 g.fl, .int .i64 g.st, .slice p9 g.X.length k9, .int .i64 g.pad, .int .u32 g.code, .int .i64 g.last, .int .i64 g.inc, .int .i64 g.dep, .bool g.only, .int .i64 g.wt, .slice q9 g.Y.length d9] 26)).alloc (.cells #[.bool false, .int .i64 xf.st, .int .i64 xf.code] 35)) := ⟨_, rfl⟩
        have FWT : Hid (Fr (fun _ => False) w wt) := by rw [hwt]; exact (hf2.alloc _).alloc _
        clear hpo
        go_wp2_with (fail)
        rw [← hwt]
        clear hwt
        refine (Known_in _ _).mono ?_
        rintro e w3 ⟨rfl, rfl⟩
        rw [hkn]
        go_wp2_with (fail)
        refine (fawake_in _).mono ?_
        rintro e w3 ⟨rfl, rfl⟩
        go_wp2
        go_ret
        exact ⟨rfl, FWT.out.below (fun _ _ h => h)⟩
      case true =>
        cases hpd : (g.pad != 0)
        case true =>
          go_enter Try.func7, Try.ntmps7
          go_wp2_with (fail)
          refine KP.out.mono ?_
          rintro e w2 ⟨p9, k9, q9, d9, rfl, hX9, hY9, hf2⟩
          dsimp only
          rw [hxi]
          obtain ⟨wt, hwt⟩ : ∃ wt, wt = ((w2.alloc (.cells #[.int .i64 g.k, .int .i64 g.fl, .int .i64 g.st, .slice p9 g.X.length k9, .int .i64 g.pad, .int .u32 g.code, .int .i64 g.last, .int .i64 g.inc, .int .i64 g.dep, .bool g.only, .int .i64 g.wt, .slice q9 g.Y.length d9] 26)).alloc (.cells #[.bool false, .int .i64 xf.st, .int .i64 xf.code] 35)) := ⟨_, rfl⟩
          have FWT : Hid (Fr (fun _ => False) w wt) := by rw [hwt]; exact (hf2.alloc _).alloc _
          have c4 : wt.cell? ⟨w2.heap.size, 4, none⟩ = some (.int .i64 g.pad) := by rw [hwt]; exact cell_of_heap (past_at _ (heap_alloc_new w2 _)) rfl
          clear hpo
          go_wp2_with (fail)
          rw [← hwt]
          clear hwt
          refine (Known_in _ _).mono ?_
          rintro e w3 ⟨rfl, rfl⟩
          rw [hkn]
          go_wp2_with (fail)
          refine (fawake_in _).mono ?_
          rintro e w3 ⟨rfl, rfl⟩
          go_wp2
          go_ret
          exact ⟨rfl, FWT.out.below (fun _ _ h => h)⟩
        case false =>
          have hp0 : g.pad = 0 := by simpa using hpd
          obtain ⟨a1, a2, a3, c, a4, a5, a6, a7⟩ := parse_again hpo hxi hkn hp0
          obtain ⟨D, hD⟩ : ∃ D, X.take n = D := ⟨_, rfl⟩
          have hDl : D.length = n := by rw [← hD, List.length_take]; omega
          rw [hD] at a6
          have HD : Hid (X.take n = D ∧ D.length = n ∧ c.length = n ∧ n ≤ bc) := ⟨hD, hDl, a5, by omega⟩
          have KW : Hid (∀ p9 k9 q9 d9 w', SrcAt w' p9 g.X → SetsAt w' q9 d9 g.Y → Calls Try.prog 9 #[.agg #[.int .i64 g.k, .int .i64 g.fl, .int .i64 g.st, .slice p9 g.X.length k9, .int .i64 g.pad, .int .u32 g.code, .int .i64 g.last, .int .i64 g.inc, .int .i64 g.dep, .bool g.only, .int .i64 g.wt, .slice q9 g.Y.length d9]] w' fun e w2 => WroteAs w' (0, c) e w2) := fun p9 k9 q9 d9 w' hX hY => by
            have h := Write_in g p9 q9 k9 d9 w' (HNU.out.frIn hX hY)
            rw [a4] at h
            exact h
          have HA : Hid ((g.k ≠ 5 → c = fixB g.k D) ∧ (g.k = 7 ∨ g.k = 8 → 9 < n)) := ⟨a6, a7⟩
          have h9n : 9 ≤ n := a1
          have hn65 : n ≤ 65545 := a3
          have hcut := cutTo bq l bc n HD.out.2.2.2
          have h5n : (5 : Int) < (n : Int) := by omega
          obtain ⟨j, J1, J2, J3, J4⟩ := info5
          have J1 : Hid _ := J1
          have J2 : Hid _ := J2
          have J3 : Hid _ := J3
          have J4 : Hid _ := J4
          clear hpo a1 a2 a3 a4 a5 a6 a7 hD hDl hp0 hl
          go_enter Try.func7, Try.ntmps7
          go_wp2_with (fail)
          refine KP.out.mono ?_
          rintro e w2 ⟨p9, k9, q9, d9, rfl, hX9, hY9, hf2⟩
          dsimp only
          rw [hxi]
          obtain ⟨wt, hwt⟩ : ∃ wt, wt = ((w2.alloc (.cells #[.int .i64 g.k, .int .i64 g.fl, .int .i64 g.st, .slice p9 g.X.length k9, .int .i64 g.pad, .int .u32 g.code, .int .i64 g.last, .int .i64 g.inc, .int .i64 g.dep, .bool g.only, .int .i64 g.wt, .slice q9 g.Y.length d9] 26)).alloc (.cells #[.bool false, .int .i64 xf.st, .int .i64 xf.code] 35)) := ⟨_, rfl⟩
          have FWT : Hid (Fr (fun _ => False) w wt) := by rw [hwt]; exact (hf2.alloc _).alloc _
          have TA : Hid (FAt wt w2.heap.size g p9 k9 q9 d9) := by rw [hwt]; exact past_at _ (heap_alloc_new w2 _)
          have G9 : Hid (SrcAt wt p9 g.X ∧ SetsAt wt q9 d9 g.Y) := by rw [hwt]; exact ⟨hX9.oldF (((Fr.refl _ _).alloc _).alloc _), hY9.later (((Fr.refl _ _).alloc _).alloc _)⟩
          obtain ⟨c0, c1, c2, c3, c4, c5, c6, c7, c8, c9, c10, c11⟩ := fcells TA.out
          clear hX9 hY9 hf2
          go_wp2_with (fail)
          rw [← hwt]
          clear hwt
          refine (Known_in _ _).mono ?_
          rintro e w3 ⟨rfl, rfl⟩
          rw [hkn]
          go_wp2_with (fail)
          refine (KW.out p9 k9 q9 d9 _ G9.out.1 G9.out.2).mono ?_
          rintro e w5 ⟨a5, n5, d5, rfl, hn5, hG5⟩
          dsimp only at hn5 hG5 ⊢
          rw [HD.out.2.2.1] at hn5
          subst hn5
          have F5 : Hid (Fr (fun _ => False) wt w5 ∧ SrcAt w5 a5 c) := ⟨hG5.2.2, own_src hG5.1⟩
          have SX : Hid (SrcAt w5 bq D) := by
            have h := (HX.out.oldF (FWT.out.trans F5.out.1)).take n
            rw [HD.out.1] at h
            exact h
          clear c0 c1 c2 c3 c4 c5 c6 c7 c8 c9 c10 c11 hG5
          go_wp2_with (refine wpList_gather (w0 := w5) rfl (.tmp 48) (.tmp 51) 22 22 rfl j Try.underlying22 Try.underlying22 J1.out J2.out J3.out J4.out (.slice (some ⟨w5.heap.size, 0, none⟩) 0 0) [] (by go_simp) (Gath.start (Fr.refl _ _)) bq n bc (by go_simp) D (SX.out.oldF ((Fr.refl _ _).alloc _)) HD.out.2.1 (by simp; omega) ?_; intro a6 n6 d6 w6 Hn6 G6 F6; refine Hid.out ?_)
          obtain rfl : n6 = n := by rw [Hn6.out]; simp
          obtain ⟨g6, o6, rfl⟩ : ∃ g6 o6, a6 = some ⟨g6, o6, none⟩ := again_form G6 HD.out.2.1 (by omega)
          obtain ⟨y5, hc5, hz5, HY5⟩ := again_cell G6 HD.out.2.1 h9n
          obtain ⟨z5, HZ5⟩ : ∃ z : UInt8, Hid (z = y5 % 128) := ⟨_, rfl⟩
          have e5 : (y5.toNat : Int) % 128 = (z5.toNat : Int) := by rw [HZ5.out]; simp
          have c0 : (w6.setCell ⟨g6, o6 + 5, none⟩ (.int .u8 (z5.toNat : Int))).cell? ⟨w2.heap.size, 0, none⟩ = some (.int .i64 g.k) := again_far TA.out F5.out.1 G6 (Fr.setB (Fr.refl _ _) _ _) rfl
          unfold Hid
          have hy5 := HY5.out
          have hO6 : OwnAt w6 5 (.slice (some ⟨g6, o6, none⟩) n6 d6) (bv D) := by simpa using G6.1
          have hgn : w5.heap.size ≤ g6 := G6.new ⟨g6, o6, none⟩ rfl
          have ht5 : w2.heap.size < w5.heap.size := Nat.lt_of_lt_of_le (lt_of_heap TA.out) F5.out.1.size
          obtain ⟨ws, hws⟩ : ∃ ws, ws = w6.setCell ⟨g6, o6 + 5, none⟩ (.int .u8 (z5.toNat : Int)) := ⟨_, rfl⟩
          obtain ⟨D1, hD1⟩ : ∃ D1, D.set 5 z5 = D1 := ⟨_, rfl⟩
          have O1 : Hid (OwnAt ws 5 (.slice (some ⟨g6, o6, none⟩) n6 d6) (bv D1)) := by rw [hws, ← hD1]; exact own_set hO6 5 (by rw [HD.out.2.1]; omega) _
          have FS : Hid (Fr (fun k => k = g6) w6 ws) := by rw [hws]; exact (Fr.refl _ _).setB _ _
          have FW5 : Hid (Fr (fun k => k = g6) w5 ws) := (G6.2.2.mono (fun _ _ e => e.elim)).trans FS.out
          have F05 : Hid (Fr (fun _ => False) w w5) := FWT.out.trans F5.out.1
          have FE : Hid (∀ w7, Fr (fun k => k = g6) w5 w7 → Fr (fun _ => False) w w7) := fun w7 hf => ((F05.out.mono (T := fun k => k = g6) (fun _ _ e => e.elim)).trans hf).mono (fun k hk e => by have := F05.out.size; omega)
          have TK : Hid (∀ w7, Fr (fun k => k = g6) w5 w7 → w7.cell? ⟨w2.heap.size, 0, none⟩ = some (.int .i64 g.k)) := fun w7 hf => (hf.cell (p := ⟨w2.heap.size, 0, none⟩) ht5 (by show ¬ w2.heap.size = g6; omega)).trans (cell_of_heap (TA.out.later F5.out.1) rfl)
          have SC : Hid (∀ w7, Fr (fun k => k = g6) w5 w7 → SrcAt w7 a5 c) := fun w7 hf => F5.out.2.fr hf (fun ad e hl e2 => by
            obtain ⟨ad', e', hcc⟩ := F5.out.2 0 _ (getD_some c 0 hl)
            rw [e] at e'
            cases e'
            have h1 := World.block_lt_of_cell? _ _ hcc
            have hb : (ad.add 0).block = ad.block := by unfold Addr.add; split <;> rfl
            omega)
          have HC1 : Hid (D1.length = n6 ∧ D1 = D.set 5 (D.getD 5 0 % 128)) := ⟨by rw [← hD1, List.length_set]; exact HD.out.2.1, by rw [hy5, ← HZ5.out]; exact hD1.symm⟩
          cases hk78 : (g.k == 8 || g.k == 7)
          case false =>
            have hs1 : (convert 22 9 (.slice a5 n6 d5)).run Try.prog ws = .ok (.string ⟨c.toArray⟩) ws := (SC.out ws FW5.out).str HD.out.2.2.1 d5
            have hs2 : (convert 22 9 (.slice (some ⟨g6, o6, none⟩) n6 d6)).run Try.prog ws = .ok (.string ⟨D1.toArray⟩) ws := (own_src O1.out).str HC1.out.1 d6
            rw [hws] at hs1 hs2
            have hk8 : (g.k == 8) = false := by simp at hk78; simp; omega
            have hk7 : (g.k == 7) = false := by simp at hk78; simp; omega
            have hFE := FE.out ws FW5.out
            rw [hws] at hFE
            by_cases hk5 : g.k = 5
            · have hk5b : (g.k == 5) = true := by simpa using hk5
              clear hk5 hws hD1
              go_wp2
              all_goals go_ret
              all_goals exact ⟨rfl, hFE.below (fun _ _ h => h)⟩
            · have hcd : c = D1 := by
                rw [HA.out.1 hk5, fixB, if_neg (by simp at hk78; omega), HC1.out.2]
              rw [hcd] at hs1
              clear hk5 hws hD1 hcd
              go_wp2
              all_goals go_ret
              all_goals exact ⟨rfl, hFE.below (fun _ _ h => h)⟩
          case true =>
            have h78 : g.k = 7 ∨ g.k = 8 := by simp at hk78; omega
            have h10 : 9 < n6 := HA.out.2 h78
            have h9i : (9 : Int) < (n6 : Int) := by omega
            have hcd : c = D1.set 9 (D1.getD 9 0 % 128) := by
              rw [HA.out.1 (by omega), fixB, if_pos (by omega), HC1.out.2]
            obtain ⟨y9, hy9⟩ : ∃ y, D1.getD 9 0 = y := ⟨_, rfl⟩
            rw [hy9] at hcd
            obtain ⟨g7, o7, cap7, ha7, hc9, hz9⟩ := O1.out.cells 9 (.int .u8 (D1.getD 9 0).toNat) ((bv_get _ _ _).2 ⟨_, getD_some D1 9 (by rw [HC1.out.1]; exact h10), rfl⟩)
            simp only [Value.slice.injEq, Option.some.injEq, Addr.mk.injEq, and_true] at ha7
            obtain ⟨⟨rfl, rfl⟩, -, rfl⟩ := ha7
            rw [hy9] at hc9
            obtain ⟨z9, HZ9⟩ : ∃ z : UInt8, Hid (z = y9 % 128) := ⟨_, rfl⟩
            have e9 : (y9.toNat : Int) % 128 = (z9.toNat : Int) := by rw [HZ9.out]; simp
            rw [← HZ9.out] at hcd
            obtain ⟨wv, hwv⟩ : ∃ wv, wv = ws.setCell ⟨g6, o6 + 9, none⟩ (.int .u8 (z9.toNat : Int)) := ⟨_, rfl⟩
            have O2 : Hid (OwnAt wv 5 (.slice (some ⟨g6, o6, none⟩) n6 d6) (bv c)) := by rw [hwv, hcd]; exact own_set O1.out 9 (by rw [HC1.out.1]; exact h10) _
            have FV : Hid (Fr (fun k => k = g6) w5 wv) := by rw [hwv]; exact FW5.out.setB _ _
            have hs1 : (convert 22 9 (.slice a5 n6 d5)).run Try.prog wv = .ok (.string ⟨c.toArray⟩) wv := (SC.out wv FV.out).str HD.out.2.2.1 d5
            have hs2 : (convert 22 9 (.slice (some ⟨g6, o6, none⟩) n6 d6)).run Try.prog wv = .ok (.string ⟨c.toArray⟩) wv := (own_src O2.out).str HD.out.2.2.1 d6
            have hFE := FE.out wv FV.out
            rw [hwv, hws] at hs1 hs2 hFE
            rw [hws] at hc9 hz9
            clear hws hD1 hcd hwv h10
            rcases h78 with h7 | h8
            · have hk7 : (g.k == 7) = true := by simpa using h7
              have hk8 : (g.k == 8) = false := by simp; omega
              clear h7 hk78
              go_wp2
              all_goals go_ret
              all_goals exact ⟨rfl, hFE.below (fun _ _ h => h)⟩
            · have hk8 : (g.k == 8) = true := by simpa using h8
              clear h8 hk78
              go_wp2
              all_goals go_ret
              all_goals exact ⟨rfl, hFE.below (fun _ _ h => h)⟩
end Go.Proofs.Ythcjgjmbicnklaa
