/- Contract of the program's Write: the function itself. -/
import Derived.Test.YtpjbgjgaigkbcaaGreatFi
namespace Go.Proofs.YtpjbgjgaigkbcaaGreat
open Go.RowKit
set_option linter.unusedVariables false
set_option maxRecDepth 100000
set_option maxHeartbeats 4000000

theorem pieceO_len {f : Fra} (hX : f.X.length < 2 ^ 47) (hY : f.Y.length * 16 < 2 ^ 47) (j : Nat) : (pieceO j f).2.length < 2 ^ 47 := by
  have h4 := setsB_len f.Y
  unfold pieceO
  repeat' split
  all_goals simp [be_length]
  all_goals omega
theorem pieceL_len {f : Fra} (hX : f.X.length < 2 ^ 47) (hY : f.Y.length * 16 < 2 ^ 47) (js : List Nat) : (pieceL f js).flatten.length ≤ js.length * 2 ^ 47 := by
  induction js with
  | nil => simp [pieceL]
  | cons j js ih =>
    have h := pieceO_len hX hY j
    simp only [pieceL, List.map_cons, List.flatten_cons, List.length_append, List.length_cons] at *
    omega
theorem allP_len {f : Fra} (hX : f.X.length < 2 ^ 47) (hY : f.Y.length * 16 < 2 ^ 47) (hp : padOk f = true) : (allP f).2.flatten.length < 2 ^ 50 ∧ (allP f).2.length ≤ 5 := by
  unfold allP
  split
  · have h3 := partsOf_few f
    by_cases hok : ∀ j ∈ partsOf f, (pieceO j f).1 = 0
    · rw [pieces_ok hok]
      have h1 := pieceL_len hX hY (partsOf f)
      have hb : (padsB f).flatten.length ≤ 1 ∧ (padsB f).length ≤ 1 := by unfold padsB; split <;> simp
      have he : (padsE f).flatten.length ≤ 255 ∧ (padsE f).length ≤ 1 := by
        unfold padsE
        split
        · rename_i hh
          simp [padOk, hh] at hp
          simp
          omega
        · simp
      have h5 : (pieceL f (partsOf f)).length = (partsOf f).length := by simp [pieceL]
      simp only [List.flatten_append, List.length_append]
      omega
    · rename_i h
      exact absurd h (fun h => by
        obtain ⟨j, hj, hb⟩ : ∃ j, j ∈ partsOf f ∧ (pieceO j f).1 ≠ 0 := by
          apply Classical.byContradiction
          intro hn
          exact hok (fun j hj => Classical.byContradiction (fun hb => hn ⟨j, hj, hb⟩))
        exact pieces_bad hj hb h)
  · simp

/-- What Write answers. -/
def WroteAs (w : World) (o : Int × List UInt8) (e : Ending) (w' : World) : Prop := ∃ a n c, e = .returned (.tuple #[.slice a n c, .int .i64 o.1]) ∧ o.2.length = n ∧ Gath w w' (.slice a n c) o.2

theorem flat_next {Xs : List (List UInt8)} {i : Nat} {X : List UInt8} (h : Xs[i]? = some X) : (Xs.take (i + 1)).flatten = (Xs.take i).flatten ++ X := by
  rw [List.take_add_one, h]
  simp
theorem flat_le (Xs : List (List UInt8)) (i : Nat) : (Xs.take i).flatten.length ≤ Xs.flatten.length := by
  have h := congrArg List.length (congrArg List.flatten (List.take_append_drop i Xs))
  rw [List.flatten_append, List.length_append] at h
  omega
/-- A piece in memory. -/
theorem Pcs.at_ {w0 w : World} {a : Option Addr} {n c : Nat} {Xs : List (List UInt8)} (h : Pcs w0 w (.slice a n c) Xs) (i : Nat) (X : List UInt8) (hi : Xs[i]? = some X) : ∃ g o q d, a = some ⟨g, o, none⟩ ∧ w.cell? ⟨g, o + i, none⟩ = some (.slice q X.length d) ∧ SrcAt w q X := by
  obtain ⟨vs, h1, h2, h3, h4, h5⟩ := h
  obtain ⟨q, d, a1, a2, a3⟩ := h5 i X hi
  obtain ⟨g, off, cap, e, hc, _⟩ := h1.cells i _ a1
  simp only [Value.slice.injEq] at e
  exact ⟨g, off, q, d, e.1, hc, a2⟩
theorem Pcs.fr {w0 w : World} {v : Value} {Xs : List (List UInt8)} (h : Pcs w0 w v Xs) : Fr (fun _ => False) w0 w := by obtain ⟨vs, _, _, h, _⟩ := h; exact h

theorem Write_in (f : Fra) (p q : Option Addr) (cp cq : Nat) (w : World) (hin : FrIn w f p q cq) :
    Calls Tryz.prog 36 #[.agg #[.int .i64 f.k, .int .i64 f.fl, .int .i64 f.st, .slice p f.X.length cp, .int .i64 f.pad, .int .u32 f.code, .int .i64 f.last, .int .i64 f.inc, .int .i64 f.dep, .bool f.only, .int .i64 f.wt, .slice q f.Y.length cq]] w fun e w' => WroteAs w (writeO f) e w' := by
  obtain ⟨W, hW⟩ : ∃ W, W = w.alloc (.cells #[.int .i64 f.k, .int .i64 f.fl, .int .i64 f.st, .slice p f.X.length cp, .int .i64 f.pad, .int .u32 f.code, .int .i64 f.last, .int .i64 f.inc, .int .i64 f.dep, .bool f.only, .int .i64 f.wt, .slice q f.Y.length cq] 66) := ⟨_, rfl⟩
  have HF : Hid (FAt W w.heap.size f p cp q cq) := by rw [hW]; exact heap_alloc_new w _
  have HFW : Hid (Fr (fun _ => False) w W) := by rw [hW]; exact (Fr.refl _ _).alloc _
  have HI : Hid (FrIn W f p q cq) := hin.later HFW.out
  have KH : Hid (∀ w, Calls Tryz.prog 44 #[.agg #[.int .i64 f.k, .int .i64 f.fl, .int .i64 f.st, .slice p f.X.length cp, .int .i64 f.pad, .int .u32 f.code, .int .i64 f.last, .int .i64 f.inc, .int .i64 f.dep, .bool f.only, .int .i64 f.wt, .slice q f.Y.length cq]] w fun e w' => e = .returned (.bool (headOk f)) ∧ Fr (fun _ => False) w w') := fun w => headFits_in f p q cp cq w
  have KP : Hid (∀ w, Calls Tryz.prog 45 #[.agg #[.int .i64 f.k, .int .i64 f.fl, .int .i64 f.st, .slice p f.X.length cp, .int .i64 f.pad, .int .u32 f.code, .int .i64 f.last, .int .i64 f.inc, .int .i64 f.dep, .bool f.only, .int .i64 f.wt, .slice q f.Y.length cq]] w fun e w' => e = .returned (.bool (placedB f.k f.st)) ∧ Fr (fun _ => False) w w') := fun w => placed_in f p q cp cq w
  cases hh : headOk f
  case false =>
    have hd : writeO f = (1, []) := by simp [writeO, hh]
    rw [hh] at KH
    rw [hd]
    clear hd hh hin
    go_enter Tryz.func36, Tryz.ntmps36
    go_wp2_with (fail)
    rw [← hW]
    refine (KH.out _).mono ?_
    rintro e w1 ⟨rfl, hf1⟩
    go_wp2
    go_ret2
    exact ⟨none, 0, 0, rfl, rfl, Gath.ofNil (HFW.out.trans hf1)⟩
  case true =>
    rw [hh] at KH
    have hfl : 0 ≤ f.fl ∧ f.fl ≤ 255 := by simp [headOk] at hh; omega
    have hk : 0 ≤ f.k ∧ f.k ≤ 9 := by simp [headOk, knownB] at hh; omega
    have hst : idOk f.st = true := by simp [headOk] at hh; exact hh.2
    cases hpl : placedB f.k f.st
    case false =>
      have hd : writeO f = (1, []) := by simp [writeO, hpl]
      rw [hpl] at KP
      rw [hd]
      clear hd hh hin hpl hfl hk hst
      go_enter Tryz.func36, Tryz.ntmps36
      go_wp2_with (fail)
      rw [← hW]
      refine (KH.out _).mono ?_
      rintro e w1 ⟨rfl, hf1⟩
      obtain ⟨c0, c1, c2, c3, c4, c5, c6, c7, c8, c9, c10, c11⟩ := fcells (HF.out.later hf1)
      go_wp2_with (fail)
      refine (KP.out _).mono ?_
      rintro e w2 ⟨rfl, hf2⟩
      go_wp2
      go_ret2
      exact ⟨none, 0, 0, rfl, rfl, Gath.ofNil (HFW.out.trans (hf1.trans hf2))⟩
    case true =>
      rw [hpl] at KP
      have KF : Hid (∀ w, Calls Tryz.prog 46 #[.agg #[.int .i64 f.k, .int .i64 f.fl, .int .i64 f.st, .slice p f.X.length cp, .int .i64 f.pad, .int .u32 f.code, .int .i64 f.last, .int .i64 f.inc, .int .i64 f.dep, .bool f.only, .int .i64 f.wt, .slice q f.Y.length cq]] w fun e w' => e = .returned (.bool (padOk f)) ∧ Fr (fun _ => False) w w') := fun w => padFits_in f p q cp cq w hfl.1 hfl.2
      cases hpd : padOk f
      case false =>
        have hd : writeO f = (1, []) := by simp [writeO, hpd]
        rw [hpd] at KF
        rw [hd]
        clear hd hh hin hpl hpd hfl hk hst
        go_enter Tryz.func36, Tryz.ntmps36
        go_wp2_with (fail)
        rw [← hW]
        refine (KH.out _).mono ?_
        rintro e w1 ⟨rfl, hf1⟩
        obtain ⟨c0, c1, c2, c3, c4, c5, c6, c7, c8, c9, c10, c11⟩ := fcells (HF.out.later hf1)
        go_wp2_with (fail)
        refine (KP.out _).mono ?_
        rintro e w2 ⟨rfl, hf2⟩
        clear c0 c1 c2 c3 c4 c5 c6 c7 c8 c9 c10 c11
        obtain ⟨c0, c1, c2, c3, c4, c5, c6, c7, c8, c9, c10, c11⟩ := fcells (HF.out.later (hf1.trans hf2))
        go_wp2_with (fail)
        refine (KF.out _).mono ?_
        rintro e w3 ⟨rfl, hf3⟩
        go_wp2
        go_ret2
        exact ⟨none, 0, 0, rfl, rfl, Gath.ofNil (HFW.out.trans (hf1.trans (hf2.trans hf3)))⟩
      case true =>
        rw [hpd] at KF
        have KW : Hid (∀ w', Fr (fun _ => False) W w' → Calls Tryz.prog 47 #[.agg #[.int .i64 f.k, .int .i64 f.fl, .int .i64 f.st, .slice p f.X.length cp, .int .i64 f.pad, .int .u32 f.code, .int .i64 f.last, .int .i64 f.inc, .int .i64 f.dep, .bool f.only, .int .i64 f.wt, .slice q f.Y.length cq]] w' fun e w2 => PcsAs w' (allP f) e w2) := fun w' hf => write_in f p q cp cq w' (HI.out.later hf) hfl.1 hfl.2 (fun hp => by simpa [padOk, hp] using hpd)
        have KD : Hid (∀ n w, n ≤ 16777215 → Calls Tryz.prog 48 #[.agg #[.int .i64 f.k, .int .i64 f.fl, .int .i64 f.st, .slice p f.X.length cp, .int .i64 f.pad, .int .u32 f.code, .int .i64 f.last, .int .i64 f.inc, .int .i64 f.dep, .bool f.only, .int .i64 f.wt, .slice q f.Y.length cq], .int .i64 (n : Nat)] w fun e w' => ∃ a c, e = .returned (.slice a 9 c) ∧ Gath w w' (.slice a 9 c) (headB f n)) := fun n w hn => head_in f p q cp cq n w hin.st hk hfl hst hn
        have hlen := allP_len hin.few hin.sets.few hpd
        have hwo : writeO f = if (allP f).1 = 0 then (if (allP f).2.flatten.length ≤ 16777215 then (0, headB f (allP f).2.flatten.length ++ (allP f).2.flatten) else (2, [])) else (1, []) := by simp only [writeO, hh, hpl, hpd]; rfl
        have hz : (allP f).1 = 0 ∨ allP f = (1, []) := by unfold allP; split <;> simp
        obtain ⟨out, hout⟩ : ∃ out, writeO f = out := ⟨_, rfl⟩
        rw [hout] at hwo ⊢
        obtain ⟨E, hE⟩ : ∃ E, (allP f).1 = E := ⟨_, rfl⟩
        obtain ⟨Xs, hXs⟩ : ∃ Xs, (allP f).2 = Xs := ⟨_, rfl⟩
        have hpair : allP f = (E, Xs) := by rw [← hE, ← hXs]
        rw [hpair] at hwo hz hlen KW
        dsimp only at hwo hz hlen
        obtain ⟨n, hn⟩ : ∃ n, Xs.length = n := ⟨_, rfl⟩
        obtain ⟨T, hT⟩ : ∃ T, Xs.flatten.length = T := ⟨_, rfl⟩
        rw [hT] at hwo hlen
        rw [hn] at hlen
        have HN : Hid (Xs.length = n) := hn
        have HT : Hid (Xs.flatten.length = T) := hT
        have hT50 := hlen.1
        have hn5 := hlen.2
        clear hh hin hpl hpd hfl hk hst hout hE hXs hpair hn hT hlen
        rcases hz with rfl | hz
        case inr =>
          obtain ⟨rfl, rfl⟩ : E = 1 ∧ Xs = [] := by simpa using hz
          obtain rfl : out = (1, []) := hwo
          clear hz
          go_enter Tryz.func36, Tryz.ntmps36
          go_wp2_with (fail)
          rw [← hW]
          refine (KH.out _).mono ?_
          rintro e w1 ⟨rfl, hf1⟩
          obtain ⟨c0, c1, c2, c3, c4, c5, c6, c7, c8, c9, c10, c11⟩ := fcells (HF.out.later hf1)
          go_wp2_with (fail)
          refine (KP.out _).mono ?_
          rintro e w2 ⟨rfl, hf2⟩
          clear c0 c1 c2 c3 c4 c5 c6 c7 c8 c9 c10 c11
          obtain ⟨c0, c1, c2, c3, c4, c5, c6, c7, c8, c9, c10, c11⟩ := fcells (HF.out.later (hf1.trans hf2))
          go_wp2_with (fail)
          refine (KF.out _).mono ?_
          rintro e w3 ⟨rfl, hf3⟩
          have F3 : Hid (Fr (fun _ => False) W w3) := hf1.trans (hf2.trans hf3)
          clear c0 c1 c2 c3 c4 c5 c6 c7 c8 c9 c10 c11
          obtain ⟨c0, c1, c2, c3, c4, c5, c6, c7, c8, c9, c10, c11⟩ := fcells (HF.out.later F3.out)
          go_wp2_with (fail)
          refine (KW.out _ F3.out).mono ?_
          rintro e w4 ⟨a4, k4, rfl, P4⟩
          go_wp2
          go_ret2
          exact ⟨none, 0, 0, rfl, rfl, Gath.ofNil (HFW.out.trans (F3.out.trans P4.fr))⟩
        case inl =>
          have HO : Hid (out = if T ≤ 16777215 then (0, headB f T ++ Xs.flatten) else (2, [])) := hwo
          clear hwo
          go_enter Tryz.func36, Tryz.ntmps36
          go_wp2_with (fail)
          rw [← hW]
          refine (KH.out _).mono ?_
          rintro e w1 ⟨rfl, hf1⟩
          obtain ⟨c0, c1, c2, c3, c4, c5, c6, c7, c8, c9, c10, c11⟩ := fcells (HF.out.later hf1)
          go_wp2_with (fail)
          refine (KP.out _).mono ?_
          rintro e w2 ⟨rfl, hf2⟩
          clear c0 c1 c2 c3 c4 c5 c6 c7 c8 c9 c10 c11
          obtain ⟨c0, c1, c2, c3, c4, c5, c6, c7, c8, c9, c10, c11⟩ := fcells (HF.out.later (hf1.trans hf2))
          go_wp2_with (fail)
          refine (KF.out _).mono ?_
          rintro e w3 ⟨rfl, hf3⟩
          have F3 : Hid (Fr (fun _ => False) W w3) := hf1.trans (hf2.trans hf3)
          clear c0 c1 c2 c3 c4 c5 c6 c7 c8 c9 c10 c11
          obtain ⟨c0, c1, c2, c3, c4, c5, c6, c7, c8, c9, c10, c11⟩ := fcells (HF.out.later F3.out)
          go_wp2_with (fail)
          refine (KW.out _ F3.out).mono ?_
          rintro e w4 ⟨a4, k4, rfl, hP4⟩
          clear c0 c1 c2 c3 c4 c5 c6 c7 c8 c9 c10 c11 hf1 hf2 hf3
          dsimp only at hP4
          obtain ⟨n', hn'⟩ : ∃ n', Xs.length = n' := ⟨_, rfl⟩
          obtain rfl : n' = n := by rw [← hn', HN.out]
          rw [hn'] at hP4
          have P4 : Hid (Pcs w3 w4 (.slice a4 n' k4) Xs) := hP4
          have F4 : Hid (Fr (fun _ => False) W w4) := F3.out.trans hP4.fr
          dsimp only
          rw [hn']
          clear hP4 hn'
          go_wp2_with (fail)
          go_loopw [6, 35] (fun x6 x35 wr => ∃ (i s : Nat), x6 = .int .i64 (s : Int) ∧ x35 = .int .i64 (i : Int) ∧ i ≤ n' ∧ w4 = wr ∧ Hid (s = (Xs.take i).flatten.length)) (fun _ x35 _ => n' - (intOf x35).toNat)
          case atStart => exact ⟨0, 0, rfl, rfl, by omega, rfl, (show (0 : Nat) = _ by simp)⟩
          case round =>
            obtain ⟨i, s, rfl, rfl, hi, rfl, HS⟩ := hrel
            by_cases hin : i < n'
            · obtain ⟨X, hX⟩ : ∃ X, Xs[i]? = some X := ⟨Xs[i]'(by rw [HN.out]; exact hin), List.getElem?_eq_getElem _⟩
              obtain ⟨g, o, q2, d2, rfl, d0, -⟩ := P4.out.at_ i X hX
              have HX : Hid (Xs[i]? = some X) := hX
              have hin2 : (i : Int) < (n' : Int) := by omega
              have hsum : s + X.length < 2 ^ 50 := by
                have h1 := flat_le Xs (i + 1)
                rw [flat_next hX, List.length_append, ← HS.out, HT.out] at h1
                omega
              obtain ⟨l, hl⟩ : ∃ l, X.length = l := ⟨_, rfl⟩
              have HL : Hid (X.length = l) := hl
              rw [hl] at d0 hsum
              clear hX hl
              go_wp2_with (fail)
              go_roundw
              case rel =>
                refine ⟨i + 1, s + l, by go_num, by go_num, by omega, (by first | rfl | trivial), ?_⟩
                show s + l = _
                rw [flat_next HX.out, List.length_append, ← HS.out, HL.out]
              case measure => simp [intOf]; omega
            · obtain rfl : n' = i := by omega
              obtain rfl : s = T := by rw [HS.out, List.take_of_length_le (Nat.le_of_eq HN.out), HT.out]
              clear HS
              obtain ⟨c0, c1, c2, c3, c4, c5, c6, c7, c8, c9, c10, c11⟩ := fcells (HF.out.later F4.out)
              by_cases hbig : s ≤ 16777215
              case neg =>
                obtain rfl : out = (2, []) := by rw [HO.out, if_neg hbig]
                go_wp2
                go_ret2
                exact ⟨none, 0, 0, rfl, rfl, Gath.ofNil (HFW.out.trans F4.out)⟩
              case pos =>
                have hO : out = (0, headB f s ++ Xs.flatten) := by rw [HO.out, if_pos hbig]
                subst hO
                clear HO
                have HS9 : Hid ((headB f s).length = 9) := by show _ = _; simp [headB, be_length]
                obtain ⟨j, J1, J2, J3, J4⟩ := info5
                have J1 : Hid _ := J1
                have J2 : Hid _ := J2
                have J3 : Hid _ := J3
                have J4 : Hid _ := J4
                go_wp2_with (fail)
                refine (KD.out s _ hbig).mono ?_
                rintro e w5 ⟨a5, k5, rfl, hG5⟩
                have G5 : Hid (Gath w4 w5 (.slice a5 9 k5) (headB f s)) := hG5
                clear c0 c1 c2 c3 c4 c5 c6 c7 c8 c9 c10 c11 hG5
                go_wp2_with (fail)
                go_loopw [9, 51] (fun x9 x51 wr => ∃ (i na ca : Nat) (a : Option Addr), x9 = .slice a na ca ∧ x51 = .int .i64 (i : Int) ∧ i ≤ n' ∧ Hid (Gath w4 wr (.slice a na ca) (headB f s ++ (Xs.take i).flatten))) (fun _ x51 _ => n' - (intOf x51).toNat)
                case atStart => exact ⟨0, 9, k5, a5, rfl, rfl, by omega, (show Gath w4 w5 (.slice a5 9 k5) (headB f s ++ (Xs.take 0).flatten) by simpa using G5.out)⟩
                case round =>
                  obtain ⟨i, na, ca, a, rfl, rfl, hi, HG⟩ := hrel
                  by_cases hin : i < n'
                  · obtain ⟨X, hX⟩ : ∃ X, Xs[i]? = some X := ⟨Xs[i]'(by rw [HN.out]; exact hin), List.getElem?_eq_getElem _⟩
                    obtain ⟨g, o, q2, d2, rfl, d0, hsx⟩ := (P4.out.later HG.out.2.2).at_ i X hX
                    have HX : Hid (Xs[i]? = some X) := hX
                    have hin2 : (i : Int) < (n' : Int) := by omega
                    have hsum : (headB f s ++ (Xs.take i).flatten).length + X.length < 2 ^ 51 := by
                      have h1 := flat_le Xs (i + 1)
                      rw [flat_next hX, List.length_append, HT.out] at h1
                      rw [List.length_append, HS9.out]
                      omega
                    obtain ⟨l, hl⟩ : ∃ l, X.length = l := ⟨_, rfl⟩
                    have HL : Hid (X.length = l) := hl
                    have HSX : Hid (SrcAt wr q2 X) := hsx
                    have HSUM : Hid ((headB f s ++ (Xs.take i).flatten).length + l ≤ 225179981368371) := by
                      show _ ≤ _
                      rw [← hl]
                      have h1 := flat_le Xs (i + 1)
                      rw [flat_next hX, List.length_append, HT.out] at h1
                      rw [List.length_append, HS9.out]
                      omega
                    rw [hl] at d0
                    clear hX hl hsx hsum
                    go_wp2_with (refine wpList_gather (w0 := w4) rfl (.tmp 55) (.tmp 56) 43 43 rfl j Tryz.underlying43 Tryz.underlying43 J1.out J2.out J3.out J4.out (.slice a na ca) (headB f s ++ (Xs.take i).flatten) (by go_simp) HG.out q2 l d2 (by go_simp) X HSX.out HL.out HSUM.out ?_; intro a6 n6 d6 w6 Hn6 G6 F6)
                    go_roundw
                    case rel =>
                      refine ⟨i + 1, n6, d6, a6, rfl, by go_num, by omega, ?_⟩
                      show Gath w4 w6 (.slice a6 n6 d6) (headB f s ++ (Xs.take (i + 1)).flatten)
                      rw [flat_next HX.out, ← List.append_assoc]
                      exact G6
                    case measure => simp [intOf]; omega
                  · obtain rfl : i = n' := by omega
                    go_wp2_with (fail)
                    go_ret2
                    have hG := HG.out
                    rw [List.take_of_length_le (Nat.le_of_eq HN.out)] at hG
                    exact ⟨a, na, ca, rfl, (own_len hG.1).1.symm, hG.old (HFW.out.trans F4.out)⟩
end Go.Proofs.YtpjbgjgaigkbcaaGreat
