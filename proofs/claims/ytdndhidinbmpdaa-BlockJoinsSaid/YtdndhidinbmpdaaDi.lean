/- A joiner of any frames: the law's walk. -/
import Derived.Test.YtdndhidinbmpdaaCx
import Derived.Test.YtdndhidinbmpdaaDh
import Derived.Deep.RegionHeldLaw
namespace Go.Proofs.Ytdndhidinbmpdaa
open Go.RowKit
set_option linter.unusedVariables false
set_option maxRecDepth 100000
set_option maxHeartbeats 4000000

/-- Both joiners, with the same block open. -/
structure TwoJ (n0 : Nat) (w : World) (gj gr m : Nat) (o : Opn) (H : List UInt8) (v v' : Value) : Prop where
  j : JAt w gj m o H v
  r : RJ w gr m o H v'
  ap : ∀ k, v.ownBlock = some k → v'.ownBlock ≠ some k
  nj : n0 ≤ gj
  nr : n0 ≤ gr
  nv : ∀ k, v.ownBlock = some k → n0 ≤ k
  nw : ∀ k, v'.ownBlock = some k → n0 ≤ k
theorem TwoJ.later {n0 : Nat} {w w' : World} {gj gr m : Nat} {o : Opn} {H : List UInt8} {v v' : Value} (h : TwoJ n0 w gj gr m o H v v') (hf : Fr (fun _ => False) w w') : TwoJ n0 w' gj gr m o H v v' :=
  ⟨h.j.later hf, h.r.later hf, h.ap, h.nj, h.nr, h.nv, h.nw⟩
theorem TwoJ.gg {n0 : Nat} {w : World} {gj gr m : Nat} {o : Opn} {H : List UInt8} {v v' : Value} (h : TwoJ n0 w gj gr m o H v v') : gj ≠ gr := by
  rintro rfl
  have h1 := h.j.c
  have h2 := h.r.c
  rw [JC] at h1
  rw [RC, h1] at h2
  simp at h2
theorem own5 {w : World} {v : Value} {xs : List Value} (h : OwnAt w 5 v xs) {k : Nat} (hk : v.ownBlock = some k) : ∃ cur, w.heap[k]? = some (.cells cur 5 (0, 0)) := by
  rcases h with ⟨rfl, -⟩ | ⟨g, off, cap, cur, rfl, hg, -⟩
  · simp [Value.ownBlock] at hk
  · simp [Value.ownBlock] at hk; subst hk; exact ⟨cur, hg⟩
theorem TwoJ.vr {n0 : Nat} {w : World} {gj gr m : Nat} {o : Opn} {H : List UInt8} {v v' : Value} (h : TwoJ n0 w gj gr m o H v v') : ∀ k, v.ownBlock = some k → k ≠ gr := by
  rintro k hk rfl
  obtain ⟨cur, hc⟩ := own5 h.j.own hk
  have := h.r.c
  rw [RC, hc] at this
  simp at this
theorem TwoJ.wj {n0 : Nat} {w : World} {gj gr m : Nat} {o : Opn} {H : List UInt8} {v v' : Value} (h : TwoJ n0 w gj gr m o H v v') : ∀ k, v'.ownBlock = some k → k ≠ gj := by
  rintro k hk rfl
  obtain ⟨cur, hc⟩ := own5 h.r.own hk
  have := h.j.c
  rw [JC, hc] at this
  simp at this

theorem bjoins_no (m : Int) (hm : ¬ (0 ≤ m ∧ m ≤ 65536)) (q : Option Addr) (c n : Nat) (w : World) :
    Calls Try.prog 4 #[.int .i64 m, .slice q n c] w fun e w' => e = .returned (.bool true) ∧ Below w.heap.size w w' := by
  have K1 := New_no m w hm
  have K2 := rNew_no m w hm
  have K3 := bawake_in w
  have K3 : Hid (Calls Try.prog 9 #[] w fun e w' => e = .returned (.bool true) ∧ Fr (fun _ => False) w w') := K3
  clear hm
  go_enter Try.func4, Try.ntmps4
  go_wp2_with (first
    | (go_at_call 13; refine K1.mono ?_; clear K1; rintro e w' ⟨rfl, rfl⟩)
    | (go_at_call 14; refine K2.mono ?_; clear K2; rintro e w' ⟨rfl, rfl⟩))
  go_loopw [9] (fun x9 wr => x9 = .int .i64 0 ∧ wr = w) (fun x9 _ => 0)
  case atStart => exact ⟨rfl, rfl⟩
  case round =>
    obtain ⟨rfl, rfl⟩ := hrel
    go_wp2_with (go_at_call 9; refine K3.out.mono ?_; rintro e w9 ⟨rfl, hf9⟩; have F9 : Hid (Fr (fun _ => False) wr w9) := hf9; clear hf9)
    go_ret
    exact ⟨rfl, F9.out.below (fun _ _ => id)⟩

theorem bjoins_yes (m : Nat) (hm : m ≤ 65536) (q : Option Addr) (c : Nat) (ls : List FM) (w : World) (hF : FrsW w q c ls) :
    Calls Try.prog 4 #[.int .i64 (m : Int), .slice q ls.length c] w fun e w' => e = .returned (.bool true) ∧ Below w.heap.size w w' := by
  have HFW : Hid (FrsW w q c ls) := hF
  have KN : Hid (Calls Try.prog 13 #[.int .i64 (m : Int)] w fun e w' => e = .returned (.tuple #[.pointer (some ⟨w.heap.size, 0, none⟩), .int .i64 0]) ∧ JC w' w.heap.size (m : Int) none (.slice none 0 0) ∧ Fr (fun _ => False) w w') := New_yes (m : Int) w (by omega) (by omega)
  have HM : Hid (m ≤ 65536) := hm
  have hfew := hF.few
  clear hF hm
  go_enter Try.func4, Try.ntmps4
  go_wp2_with (first
    | (go_at_call 13; refine KN.out.mono ?_; rintro e w1 ⟨rfl, hj1, hf1⟩; have T1 : Hid (JC w1 w.heap.size (m : Int) none (.slice none 0 0) ∧ Fr (fun _ => False) w w1) := ⟨hj1, hf1⟩; clear hj1 hf1; have KR : Hid (Calls Try.prog 14 #[.int .i64 (m : Int)] w1 fun e w' => e = .returned (.tuple #[.pointer (some ⟨w1.heap.size, 0, none⟩), .int .i64 0]) ∧ RC w' w1.heap.size (m : Int) none (.slice none 0 0) ∧ Fr (fun _ => False) w1 w') := rNew_yes (m : Int) w1 (by omega) (by have := HM.out; omega))
    | (go_at_call 14; refine KR.out.mono ?_; rintro e w2 ⟨rfl, hj2, hf2⟩; have T2 : Hid (RC w2 w1.heap.size (m : Int) none (.slice none 0 0) ∧ Fr (fun _ => False) w1 w2) := ⟨hj2, hf2⟩; clear hj2 hf2))
  obtain ⟨gr, hgr⟩ : ∃ gr, w1.heap.size = gr := ⟨_, rfl⟩
  rw [hgr] at T2 ⊢
  have HT0 : Hid (TwoJ w.heap.size w2 w.heap.size gr m none [] (.slice none 0 0) (.slice none 0 0)) := ⟨JAt.none (T1.out.1.fr T2.out.2 id) HM.out, RJ.none T2.out.1 HM.out, fun k hk => by simp [Value.ownBlock] at hk, Nat.le_refl _, by rw [← hgr]; exact T1.out.2.size, fun k hk => by simp [Value.ownBlock] at hk, fun k hk => by simp [Value.ownBlock] at hk⟩
  have HF0 : Hid (Fr (fun _ => False) w w2) := T1.out.2.trans T2.out.2
  clear hgr T1 T2 KR KN
  go_loopw [9] (fun x9 wr => ∃ (i : Nat) (o : Opn) (H : List UInt8) (v v' : Value), x9 = .int .i64 (i : Int) ∧ i ≤ ls.length ∧ TwoJ w.heap.size wr w.heap.size gr m o H v v' ∧ Fr (fun _ => False) w wr) (fun x9 _ => ls.length - (intOf x9).toNat)
  case atStart => exact ⟨0, none, [], _, _, rfl, by omega, HT0.out, HF0.out⟩
  case round =>
    obtain ⟨i, o, H, v, v', rfl, hi, hT, hfr⟩ := hrel
    by_cases hin : i < ls.length
    · have HT : Hid (TwoJ w.heap.size wr w.heap.size gr m o H v v') := hT
      have HFR : Hid (Fr (fun _ => False) w wr) := hfr
      have HIN : Hid (i < ls.length) := hin
      obtain ⟨z, hz⟩ : ∃ z, ls[i]? = some z := ⟨ls[i], List.getElem?_eq_getElem hin⟩
      obtain ⟨bg, bo, hq, hbg, hcells, hI⟩ := (HFW.out.later hfr).cells i z hz
      obtain ⟨f, p, cp, q2, cq⟩ := z
      have HI : Hid (FrIn wr f p q2 cq) := hI
      have HIw : Hid (FrIn w f p q2 cq) := by
        obtain ⟨bg', bo', hq', hbg', hc', hI'⟩ := HFW.out.cells i _ hz
        exact hI'
      subst hq
      have n1 : (i : Int) < (ls.length : Int) := by omega
      have wi : wrap64 ((i : Int) + 1) = (i : Int) + 1 := by unfold wrap64; omega
      have c0 : wr.cell? ⟨bg, bo + i * 12, none⟩ = some (.int .i64 f.k) := hcells 0 _ rfl
      have c1 : wr.cell? ⟨bg, bo + i * 12 + 1, none⟩ = some (.int .i64 f.fl) := hcells 1 _ rfl
      have c2 : wr.cell? ⟨bg, bo + i * 12 + 2, none⟩ = some (.int .i64 f.st) := hcells 2 _ rfl
      have c3 : wr.cell? ⟨bg, bo + i * 12 + 3, none⟩ = some (.slice p f.X.length cp) := hcells 3 _ rfl
      have c4 : wr.cell? ⟨bg, bo + i * 12 + 4, none⟩ = some (.int .i64 f.pad) := hcells 4 _ rfl
      have c5 : wr.cell? ⟨bg, bo + i * 12 + 5, none⟩ = some (.int .u32 f.code) := hcells 5 _ rfl
      have c6 : wr.cell? ⟨bg, bo + i * 12 + 6, none⟩ = some (.int .i64 f.last) := hcells 6 _ rfl
      have c7 : wr.cell? ⟨bg, bo + i * 12 + 7, none⟩ = some (.int .i64 f.inc) := hcells 7 _ rfl
      have c8 : wr.cell? ⟨bg, bo + i * 12 + 8, none⟩ = some (.int .i64 f.dep) := hcells 8 _ rfl
      have c9 : wr.cell? ⟨bg, bo + i * 12 + 9, none⟩ = some (.bool f.only) := hcells 9 _ rfl
      have c10 : wr.cell? ⟨bg, bo + i * 12 + 10, none⟩ = some (.int .i64 f.wt) := hcells 10 _ rfl
      have c11 : wr.cell? ⟨bg, bo + i * 12 + 11, none⟩ = some (.slice q2 f.Y.length cq) := hcells 11 _ rfl
      clear hcells hI hT hfr hin hi hz hbg
      go_upto_region 9 with (refine wpList_storeB rfl 34 (.tmp 10) (.tmp 50) rfl wr.heap.size #[.int .i64 0, .int .i64 0, .int .i64 0, .slice none 0 0, .int .i64 0, .int .u32 0, .int .i64 0, .int .i64 0, .int .i64 0, .bool false, .int .i64 0, .slice none 0 0] #[.int .i64 f.k, .int .i64 f.fl, .int .i64 f.st, .slice p f.X.length cp, .int .i64 f.pad, .int .u32 f.code, .int .i64 f.last, .int .i64 f.inc, .int .i64 f.dep, .bool f.only, .int .i64 f.wt, .slice q2 f.Y.length cq] 34 rfl rfl (heap_alloc_new wr _) rfl (by kernel_rfl) (by simp [Value.oneCell']) ?_; intro u1 U1 V1)
      have F2 : Hid (Fr (fun _ => False) wr u1) := (((Fr.refl (fun k => k = wr.heap.size) _).alloc _).trans V1.out).mono (fun k hk e => by omega)
      have HFR2 : Hid (Fr (fun _ => False) w u1) := HFR.out.trans F2.out
      have HT2 : Hid (TwoJ w.heap.size u1 w.heap.size gr m o H v v') := HT.out.later F2.out
      have A2 : Hid (FAt u1 wr.heap.size f p cp q2 cq) := U1.out
      have HI2 : Hid (FrIn u1 f p q2 cq) := HI.out.later F2.out
      have HNB : Hid (wr.heap.size < u1.heap.size ∧ w.heap.size ≤ wr.heap.size) := ⟨lt_of_heap U1.out, HFR.out.size⟩
      clear c0 c1 c2 c3 c4 c5 c6 c7 c8 c9 c10 c11 U1 V1
      obtain ⟨d0, d1, d2, d3, d4, d5, d6, d7, d8, d9, d10, d11⟩ := fcells A2.out
      by_cases hst : f.st < 0
      · have hst0 : decide (f.st < 0) = true := by simpa using hst
        go_wp2_with (fail)
        go_roundw
        case rel => exact ⟨i + 1, o, H, v, v', rfl, HIN.out, HT2.out, HFR2.out⟩
        case measure => exact meas_next2 HIN.out
      · have hst0 : decide (f.st < 0) = false := by simpa using hst
        by_cases hfl : f.fl < 0
        · have hfl0 : decide (f.fl < 0) = true := by simpa using hfl
          go_wp2_with (fail)
          go_roundw
          case rel => exact ⟨i + 1, o, H, v, v', rfl, HIN.out, HT2.out, HFR2.out⟩
          case measure => exact meas_next2 HIN.out
        · have hfl0 : decide (f.fl < 0) = false := by simpa using hfl
          by_cases hz : f.st = 0 ∧ (f.k = 1 ∨ f.k = 9)
          · have hz0 : decide (f.st = 0) = true := by simpa using hz.1
            have hz1 : (f.st == 0) = true := by simpa using hz.1
            rcases hz.2 with hk | hk
            · have hk0 : decide (f.k = 1) = true := by simpa using hk
              have hk1 : (f.k == 1) = true := by simpa using hk
              clear hz
              go_wp2_with (fail)
              go_roundw
              case rel => exact ⟨i + 1, o, H, v, v', rfl, HIN.out, HT2.out, HFR2.out⟩
              case measure => exact meas_next2 HIN.out
            · have hk0 : decide (f.k = 9) = true := by simpa using hk
              have hk1 : (f.k == 9) = true := by simpa using hk
              have hk2 : decide (f.k = 1) = false := by simp; omega
              have hk3 : (f.k == 1) = false := by simp; omega
              clear hz
              go_wp2_with (fail)
              go_roundw
              case rel => exact ⟨i + 1, o, H, v, v', rfl, HIN.out, HT2.out, HFR2.out⟩
              case measure => exact meas_next2 HIN.out
          · have HPS : Hid (0 ≤ f.fl ∧ (f.k = 1 → 1 ≤ f.st)) := ⟨by omega, fun hk => by
              have : ¬ f.st = 0 := fun e => hz ⟨e, .inl hk⟩
              omega⟩
            have KI : Hid (Calls Try.prog 15 #[.pointer (some ⟨w.heap.size, 0, none⟩), .agg #[.int .i64 f.k, .int .i64 f.fl, .int .i64 f.st, .slice p f.X.length cp, .int .i64 f.pad, .int .u32 f.code, .int .i64 f.last, .int .i64 f.inc, .int .i64 f.dep, .bool f.only, .int .i64 f.wt, .slice q2 f.Y.length cq]] u1 fun e w' => InAs u1 w.heap.size m v (inJ m o H f) e w') := In_in w.heap.size m o H v f p q2 cp cq u1 HT2.out.j HI2.out
            have KR : Hid (∀ W, RJ W gr m o H v' → FrIn W f p q2 cq → Calls Try.prog 16 #[.pointer (some ⟨gr, 0, none⟩), .agg #[.int .i64 f.k, .int .i64 f.fl, .int .i64 f.st, .slice p f.X.length cp, .int .i64 f.pad, .int .u32 f.code, .int .i64 f.last, .int .i64 f.inc, .int .i64 f.dep, .bool f.only, .int .i64 f.wt, .slice q2 f.Y.length cq]] W fun e w' => RInAs W gr m v' (inJ m o H f) e w') := fun W h1 h2 => rIn_in gr m o H v' f p q2 cp cq W h1 h2 HPS.out.1 HPS.out.2
            obtain ⟨r, hr⟩ : ∃ r, inJ m o H f = r := ⟨_, rfl⟩
            rw [hr] at KI KR
            clear hr
            by_cases hs0 : f.st = 0
            case' pos =>
              have g1 : decide (f.st = 0) = true := by simpa using hs0
              have g2 : (f.st == 0) = true := by simpa using hs0
              have g3 : ¬ f.k = 1 := fun e => hz ⟨hs0, .inl e⟩
              have g4 : ¬ f.k = 9 := fun e => hz ⟨hs0, .inr e⟩
              have g5 : decide (f.k = 1) = false := by simpa using g3
              have g6 : (f.k == 1) = false := by simpa using g3
              have g7 : decide (f.k = 9) = false := by simpa using g4
              have g8 : (f.k == 9) = false := by simpa using g4
              clear hz hs0 g3 g4
              go_upto_region 10 with (fail)
              clear g1 g2 g5 g6 g7 g8
            case' neg =>
              have g1 : decide (f.st = 0) = false := by simpa using hs0
              have g2 : (f.st == 0) = false := by simpa using hs0
              clear hz hs0
              go_upto_region 10 with (fail)
              clear g1 g2
            all_goals (
              go_upto_region 11 with (first
                | (go_at_call 15; refine KI.out.mono ?_; rintro e w3 ⟨p3, cp3, q3, cq3, v3, rfl, hs3, -, hn3, hj3, hf3, hb3⟩; have T3 : Hid (JAt w3 w.heap.size m r.o r.H v3 ∧ SrcAt w3 p3 r.f.X ∧ (∀ ad, p3 = some ad → 0 < r.f.X.length → v.ownBlock = some ad.block ∨ u1.heap.size ≤ ad.block) ∧ Fr (fun k => k = w.heap.size ∨ v.ownBlock = some k) u1 w3 ∧ (v3.ownBlock = v.ownBlock ∨ v3.ownBlock = none ∨ ∃ k, v3.ownBlock = some k ∧ u1.heap.size ≤ k)) := ⟨hj3, hs3, hn3, hf3, hb3⟩; clear hj3 hs3 hn3 hf3 hb3; obtain ⟨rc, hrc⟩ : ∃ rc, r.code = rc := ⟨_, rfl⟩; obtain ⟨rb, hrb⟩ : ∃ rb, decide (rc ≠ 0) = rb := ⟨_, rfl⟩; obtain ⟨is, his⟩ : ∃ is, r.is = is := ⟨_, rfl⟩; obtain ⟨rf, hrf⟩ : ∃ rf, r.f = rf := ⟨_, rfl⟩; rw [hrc, hrb, his, hrf]; have HRC : Hid (r.code = rc ∧ decide (rc ≠ 0) = rb ∧ r.is = is ∧ r.f = rf) := ⟨hrc, hrb, his, hrf⟩; clear hrc hrb his hrf)
                | (refine wpList_storeB rfl 34 (.tmp 11) (.tmp 78) rfl w3.heap.size #[.int .i64 0, .int .i64 0, .int .i64 0, .slice none 0 0, .int .i64 0, .int .u32 0, .int .i64 0, .int .i64 0, .int .i64 0, .bool false, .int .i64 0, .slice none 0 0] #[.int .i64 rf.k, .int .i64 rf.fl, .int .i64 rf.st, .slice p3 rf.X.length cp3, .int .i64 rf.pad, .int .u32 rf.code, .int .i64 rf.last, .int .i64 rf.inc, .int .i64 rf.dep, .bool rf.only, .int .i64 rf.wt, .slice q3 rf.Y.length cq3] 34 rfl rfl (past_at _ (heap_alloc_new w3 _)) rfl (by kernel_rfl) (by simp [Value.oneCell']) ?_; intro x1 X1 Y1)
                | (refine wpList_storeB rfl 43 (.tmp 13) (.tmp 80) rfl (w3.heap.size + 1) #[.bool false, .int .i64 0, .int .i64 0] #[.bool rb, .int .i64 0, .int .i64 rc] 43 rfl rfl ((Y1.out.block _ (by simp) (by omega)).trans (last_at _ (by simp))) rfl (by kernel_rfl) (by simp [Value.oneCell']) ?_; intro x2 X2 Y2))
              have F3 : Hid (Fr (fun _ => False) w3 x2) := ((((Fr.refl (fun k => k = w3.heap.size ∨ k = w3.heap.size + 1) _).alloc _).alloc _).trans ((Y1.out.mono (fun _ _ e => .inl e)).trans (Y2.out.mono (fun _ _ e => .inr e)))).mono (fun k hk e => by omega)
              have A3 : Hid (FAt x2 w3.heap.size rf p3 cp3 q3 cq3) := (Y2.out.block _ (lt_of_heap X1.out) (by omega)).trans X1.out
              have B3 : Hid (x2.heap[w3.heap.size + 1]? = some (.cells #[.bool rb, .int .i64 0, .int .i64 rc] 43 (0, 0))) := X2.out
              have FU : Hid (Fr (fun k => k = w.heap.size ∨ v.ownBlock = some k) u1 x2) := T3.out.2.2.2.1.trans (F3.out.mono (fun _ _ e => e.elim))
              have HZU : Hid (u1.heap.size ≤ w3.heap.size) := T3.out.2.2.2.1.size
              clear X1 Y1 X2 Y2
              have R3 : Hid (RJ x2 gr m o H v') := HT2.out.r.fr FU.out (fun e => by rcases e with e | e; exact HT2.out.gg e.symm; exact HT2.out.vr _ e rfl) (fun k hk e => by rcases e with e | e; exact HT2.out.wj k hk e; exact HT2.out.ap k e hk)
              have A3f : Hid (FAt x2 wr.heap.size f p cp q2 cq) := (FU.out.block _ (lt_of_heap A2.out) (fun e => by rcases e with e | e; have h8 := A2.out; rw [FAt, e, HT2.out.j.c] at h8; simp at h8; obtain ⟨cur, hc⟩ := own5 HT2.out.j.own e; have h8 := A2.out; rw [FAt, hc] at h8; simp at h8)).trans A2.out
              have HFR3 : Hid (Fr (fun _ => False) w x2) := ((HFR2.out.mono (T := fun k => w.heap.size ≤ k) (fun _ _ e => e.elim)).trans (FU.out.mono (fun k _ e => by rcases e with e | e; omega; exact HT2.out.nv k e))).mono (fun k hk e => by omega)
              have HI3 : Hid (FrIn x2 f p q2 cq) := HIw.out.later HFR3.out
              clear d0 d1 d2 d3 d4 d5 d6 d7 d8 d9 d10 d11
              obtain ⟨d0, d1, d2, d3, d4, d5, d6, d7, d8, d9, d10, d11⟩ := fcells A3f.out
              have KR3 : Hid (Calls Try.prog 16 #[.pointer (some ⟨gr, 0, none⟩), .agg #[.int .i64 f.k, .int .i64 f.fl, .int .i64 f.st, .slice p f.X.length cp, .int .i64 f.pad, .int .u32 f.code, .int .i64 f.last, .int .i64 f.inc, .int .i64 f.dep, .bool f.only, .int .i64 f.wt, .slice q2 f.Y.length cq]] x2 fun e w' => RInAs x2 gr m v' r e w') := KR.out x2 R3.out HI3.out
              go_upto_region 12 with (first
                | (go_at_call 16; refine KR3.out.mono ?_; rintro e w4 ⟨p4, cp4, q4, cq4, v4, rfl, hs4, hj4, hf4, hb4⟩; have T4 : Hid (RJ w4 gr m r.o r.H v4 ∧ SrcAt w4 p4 r.f.X ∧ Fr (fun k => k = gr ∨ v'.ownBlock = some k) x2 w4 ∧ (v4.ownBlock = v'.ownBlock ∨ v4.ownBlock = none ∨ ∃ k, v4.ownBlock = some k ∧ x2.heap.size ≤ k)) := ⟨hj4, hs4, hf4, hb4⟩; clear hj4 hs4 hf4 hb4; rw [HRC.out.1, HRC.out.2.1, HRC.out.2.2.1, HRC.out.2.2.2])
                | (refine wpList_storeB rfl 34 (.tmp 14) (.tmp 85) rfl w4.heap.size #[.int .i64 0, .int .i64 0, .int .i64 0, .slice none 0 0, .int .i64 0, .int .u32 0, .int .i64 0, .int .i64 0, .int .i64 0, .bool false, .int .i64 0, .slice none 0 0] #[.int .i64 rf.k, .int .i64 rf.fl, .int .i64 rf.st, .slice p4 rf.X.length cp4, .int .i64 rf.pad, .int .u32 rf.code, .int .i64 rf.last, .int .i64 rf.inc, .int .i64 rf.dep, .bool rf.only, .int .i64 rf.wt, .slice q4 rf.Y.length cq4] 34 rfl rfl (past_at _ (heap_alloc_new w4 _)) rfl (by kernel_rfl) (by simp [Value.oneCell']) ?_; intro y1 X1 Y1)
                | (refine wpList_storeB rfl 43 (.tmp 16) (.tmp 87) rfl (w4.heap.size + 1) #[.bool false, .int .i64 0, .int .i64 0] #[.bool rb, .int .i64 0, .int .i64 rc] 43 rfl rfl ((Y1.out.block _ (by simp) (by omega)).trans (last_at _ (by simp))) rfl (by kernel_rfl) (by simp [Value.oneCell']) ?_; intro y2 X2 Y2))
              have F4 : Hid (Fr (fun _ => False) w4 y2) := ((((Fr.refl (fun k => k = w4.heap.size ∨ k = w4.heap.size + 1) _).alloc _).alloc _).trans ((Y1.out.mono (fun _ _ e => .inl e)).trans (Y2.out.mono (fun _ _ e => .inr e)))).mono (fun k hk e => by omega)
              have A4 : Hid (FAt y2 w4.heap.size rf p4 cp4 q4 cq4) := (Y2.out.block _ (lt_of_heap X1.out) (by omega)).trans X1.out
              have B4 : Hid (y2.heap[w4.heap.size + 1]? = some (.cells #[.bool rb, .int .i64 0, .int .i64 rc] 43 (0, 0))) := X2.out
              have FX : Hid (Fr (fun k => k = gr ∨ v'.ownBlock = some k) x2 y2) := T4.out.2.2.1.trans (F4.out.mono (fun _ _ e => e.elim))
              clear X1 Y1 X2 Y2
              have HLO : Hid (gr < u1.heap.size ∧ w.heap.size < u1.heap.size ∧ (∀ k, v.ownBlock = some k → k < u1.heap.size) ∧ (∀ k, v'.ownBlock = some k → k < u1.heap.size)) := ⟨lt_of_heap HT2.out.r.c, lt_of_heap HT2.out.j.c, fun k hk => HT2.out.j.own.lt k hk, fun k hk => HT2.out.r.own.lt k hk⟩
              have HZX : Hid (u1.heap.size ≤ x2.heap.size) := FU.out.size
              have hnot : ∀ k, u1.heap.size ≤ k → ¬ (k = gr ∨ v'.ownBlock = some k) := fun k hk e => by
                rcases e with e | e
                · have := HLO.out.1; omega
                · have := HLO.out.2.2.2 k e; omega
              have A3' : Hid (FAt y2 w3.heap.size rf p3 cp3 q3 cq3) := (FX.out.block _ (lt_of_heap A3.out) (hnot _ HZU.out)).trans A3.out
              have B3' : Hid (y2.heap[w3.heap.size + 1]? = some (.cells #[.bool rb, .int .i64 0, .int .i64 rc] 43 (0, 0))) := (FX.out.block _ (lt_of_heap B3.out) (hnot _ (by have := HZU.out; omega))).trans B3.out
              have hvv : ∀ k, v3.ownBlock = some k → v.ownBlock = some k ∨ u1.heap.size ≤ k := fun k hk => by
                rcases T3.out.2.2.2.2 with e | e | ⟨k', e, e2⟩
                · exact .inl (by rw [← e]; exact hk)
                · rw [e] at hk; cases hk
                · rw [e] at hk; cases hk; exact .inr e2
              have hvw : ∀ k, v4.ownBlock = some k → v'.ownBlock = some k ∨ x2.heap.size ≤ k := fun k hk => by
                rcases T4.out.2.2.2 with e | e | ⟨k', e, e2⟩
                · exact .inl (by rw [← e]; exact hk)
                · rw [e] at hk; cases hk
                · rw [e] at hk; cases hk; exact .inr e2
              have J4 : Hid (JAt y2 w.heap.size m r.o r.H v3) := (T3.out.1.later F3.out).fr FX.out (fun e => by rcases e with e | e; exact HT2.out.gg e; exact HT2.out.wj _ e rfl) (fun k hk e => by
                rcases hvv k hk with h1 | h1
                · rcases e with e | e
                  · exact HT2.out.vr k h1 e
                  · exact HT2.out.ap k h1 e
                · exact hnot k h1 e)
              have R4 : Hid (RJ y2 gr m r.o r.H v4) := T4.out.1.later F4.out
              have HT4 : Hid (TwoJ w.heap.size y2 w.heap.size gr m r.o r.H v3 v4) := ⟨J4.out, R4.out, fun k hk e => by
                rcases hvv k hk with h1 | h1
                · rcases hvw k e with h2 | h2
                  · exact HT2.out.ap k h1 h2
                  · have := HLO.out.2.2.1 k h1; have := HZX.out; omega
                · rcases hvw k e with h2 | h2
                  · have := HLO.out.2.2.2 k h2; omega
                  · have := T3.out.1.own.lt k hk; have := F3.out.size; omega, HT2.out.nj, HT2.out.nr, fun k hk => by
                rcases hvv k hk with h1 | h1
                · exact HT2.out.nv k h1
                · have := HLO.out.2.1; omega, fun k hk => by
                rcases hvw k hk with h1 | h1
                · exact HT2.out.nw k h1
                · have := HLO.out.2.1; have := HZX.out; omega⟩
              have HFR4 : Hid (Fr (fun _ => False) w y2) := ((HFR3.out.mono (T := fun k => w.heap.size ≤ k) (fun _ _ e => e.elim)).trans (FX.out.mono (fun k _ e => by rcases e with e | e; have := HT2.out.nr; omega; exact HT2.out.nw k e))).mono (fun k hk e => by omega)
              have hs3 : SrcAt x2 p3 rf.X := by have := T3.out.2.1.oldF F3.out; rwa [HRC.out.2.2.2] at this
              have S3 : Hid (SrcAt y2 p3 rf.X) := hs3.fr FX.out (fun ad e hl e2 => by
                have h9 := T3.out.2.2.1 ad e (by rw [HRC.out.2.2.2]; exact hl)
                rcases h9 with h1 | h1
                · rcases e2 with e2 | e2
                  · exact HT2.out.vr _ h1 e2
                  · exact HT2.out.ap _ h1 e2
                · exact hnot _ h1 e2)
              have S4 : Hid (SrcAt y2 p4 rf.X) := by have := T4.out.2.1.oldF F4.out; rwa [HRC.out.2.2.2] at this
              have KS : Hid (∀ W, Fr (fun _ => False) y2 W → Calls Try.prog 12 #[.agg #[.int .i64 rf.k, .int .i64 rf.fl, .int .i64 rf.st, .slice p3 rf.X.length cp3, .int .i64 rf.pad, .int .u32 rf.code, .int .i64 rf.last, .int .i64 rf.inc, .int .i64 rf.dep, .bool rf.only, .int .i64 rf.wt, .slice q3 rf.Y.length cq3], .agg #[.int .i64 rf.k, .int .i64 rf.fl, .int .i64 rf.st, .slice p4 rf.X.length cp4, .int .i64 rf.pad, .int .u32 rf.code, .int .i64 rf.last, .int .i64 rf.inc, .int .i64 rf.dep, .bool rf.only, .int .i64 rf.wt, .slice q4 rf.Y.length cq4]] W fun e w' => e = .returned (.bool true) ∧ Fr (fun _ => False) W w') := fun W hf => bsame_in rf p3 q3 p4 q4 cp3 cq3 cp4 cq4 W (S3.out.oldF hf) (S4.out.oldF hf)
              clear hnot hvv hvw hs3 d0 d1 d2 d3 d4 d5 d6 d7 d8 d9 d10 d11
              obtain ⟨b5, c5, hv5⟩ := J4.out.form
              obtain ⟨b6, c6, hv6⟩ := R4.out.form
              have KT : Hid (∀ W, Fr (fun _ => False) y2 W → Calls Try.prog 17 #[.pointer (some ⟨w.heap.size, 0, none⟩)] W fun e w' => e = .returned (.int .i64 (opS r.o)) ∧ W = w') := fun W hf => Stream_in w.heap.size _ _ _ W (J4.out.c.fr hf id)
              have KH : Hid (∀ W, Fr (fun _ => False) y2 W → Calls Try.prog 18 #[.pointer (some ⟨w.heap.size, 0, none⟩)] W fun e w' => e = .returned (.int .i64 (r.H.length : Int)) ∧ W = w') := fun W hf => Held_in w.heap.size _ r.o b5 r.H.length c5 W (by rw [← hv5]; exact J4.out.c.fr hf id)
              have HQ : Hid (∀ W, Fr (fun _ => False) y2 W → (W.cell? ⟨gr, 1, none⟩ = some (.int .i64 (opS r.o)) ∧ W.cell? ⟨gr, 3, none⟩ = some (.slice b6 r.H.length c6)) ∧ (W.cell? ⟨w3.heap.size + 1, 0, none⟩ = some (.bool rb) ∧ W.cell? ⟨w3.heap.size + 1, 1, none⟩ = some (.int .i64 0) ∧ W.cell? ⟨w3.heap.size + 1, 2, none⟩ = some (.int .i64 rc)) ∧ (W.cell? ⟨w4.heap.size + 1, 0, none⟩ = some (.bool rb) ∧ W.cell? ⟨w4.heap.size + 1, 1, none⟩ = some (.int .i64 0) ∧ W.cell? ⟨w4.heap.size + 1, 2, none⟩ = some (.int .i64 rc))) := fun W hf => by
                obtain ⟨a0, a1, a2, a3⟩ := rcells (R4.out.c.fr hf id)
                rw [hv6] at a3
                exact ⟨⟨a1, a3⟩, cells3 ((hf.block _ (lt_of_heap B3'.out) id).trans B3'.out), cells3 ((hf.block _ (lt_of_heap B4.out) id).trans B4.out)⟩
              obtain ⟨so, hso⟩ : ∃ so, opS r.o = so := ⟨_, rfl⟩
              obtain ⟨hl, hhl⟩ : ∃ hl, r.H.length = hl := ⟨_, rfl⟩
              rw [hso] at KT HQ
              rw [hhl] at KH HQ
              clear hv5 hv6 hso hhl
              go_wp2_with (fail)
              refine wp_region_held_drew (S := fun W => Fr (fun _ => False) y2 W) (by kernel_rfl) ((Fr.refl _ _).drew) (fun hHeld => ?_)
              generalize y2.drew = V at hHeld ⊢
              refine wpAnyH_take (i := 0) (oi := _) (v := .agg #[.int .i64 rf.k, .int .i64 rf.fl, .int .i64 rf.st, .slice p3 rf.X.length cp3, .int .i64 rf.pad, .int .u32 rf.code, .int .i64 rf.last, .int .i64 rf.inc, .int .i64 rf.dep, .bool rf.only, .int .i64 rf.wt, .slice q3 rf.Y.length cq3]) rfl (by kernel_rfl) (by kernel_rfl) (by kernel_rfl) (fun _ _ _ h => h) (Or.inl ⟨by kernel_rfl, fun w2 hw => by obtain ⟨e0, e1, e2, e3, e4, e5, e6, e7, e8, e9, e10, e11⟩ := fcells (A3'.out.later hw); go_simp⟩) hHeld ?_
              refine wpAnyH_take (i := 1) (oi := _) (v := .agg #[.int .i64 rf.k, .int .i64 rf.fl, .int .i64 rf.st, .slice p4 rf.X.length cp4, .int .i64 rf.pad, .int .u32 rf.code, .int .i64 rf.last, .int .i64 rf.inc, .int .i64 rf.dep, .bool rf.only, .int .i64 rf.wt, .slice q4 rf.Y.length cq4]) rfl (by kernel_rfl) (by kernel_rfl) (by kernel_rfl) (fun _ _ _ h => h) (Or.inl ⟨by kernel_rfl, fun w2 hw => by obtain ⟨e0, e1, e2, e3, e4, e5, e6, e7, e8, e9, e10, e11⟩ := fcells (A4.out.later hw); go_simp⟩) hHeld ?_
              simp only [Act.put, List.getElem_toArray, List.getElem_cons_succ, List.getElem_cons_zero, List.setIfInBounds_toArray, List.set_cons_zero, List.set_cons_succ]
              refine wpAnyH_ready (rs := [2]) (by kernel_rfl) (by simp) ?_
              refine AllReadyH.cons rfl (fun K hK => ?_) AllReadyH.nil
              go_simp
              refine (KS.out _ hHeld).mono ?_
              rintro e w9 ⟨rfl, hf9⟩
              refine hK.out _ _ (hHeld.trans hf9) (fun hHeld9 => ?_)
              clear hK K hf9
              refine wpAnyH_take (i := 3) (oi := _) (v := .bool false) rfl (by kernel_rfl) (by kernel_rfl) (by kernel_rfl) (fun _ _ _ h => h) (Or.inl ⟨by kernel_rfl, fun w2 hw => by go_simp⟩) hHeld9 ?_
              refine wpAnyH_take (i := 4) (oi := _) (v := .bool false) rfl (by kernel_rfl) (by kernel_rfl) (by kernel_rfl) (fun _ _ _ h => h) (Or.inl ⟨by kernel_rfl, fun w2 hw => by go_simp⟩) hHeld9 ?_
              refine wpAnyH_take (i := 5) (oi := _) (v := .bool is) rfl (by kernel_rfl) (by kernel_rfl) (by kernel_rfl) (fun _ _ _ h => h) (Or.inl ⟨by kernel_rfl, fun w2 hw => by go_simp⟩) hHeld9 ?_
              refine wpAnyH_take (i := 6) (oi := _) (v := .bool is) rfl (by kernel_rfl) (by kernel_rfl) (by kernel_rfl) (fun _ _ _ h => h) (Or.inl ⟨by kernel_rfl, fun w2 hw => by go_simp⟩) hHeld9 ?_
              refine wpAnyH_take (i := 7) (oi := _) (v := .bool false) rfl (by kernel_rfl) (by kernel_rfl) (by kernel_rfl) (fun _ _ _ h => h) (Or.inl ⟨by kernel_rfl, fun w2 hw => by go_simp⟩) hHeld9 ?_
              refine wpAnyH_take (i := 8) (oi := _) (v := .bool false) rfl (by kernel_rfl) (by kernel_rfl) (by kernel_rfl) (fun _ _ _ h => h) (Or.inl ⟨by kernel_rfl, fun w2 hw => by go_simp⟩) hHeld9 ?_
              refine wpAnyH_take (i := 9) (oi := _) (v := .bool false) rfl (by kernel_rfl) (by kernel_rfl) (by kernel_rfl) (fun _ _ _ h => h) (Or.inl ⟨by kernel_rfl, fun w2 hw => by go_simp⟩) hHeld9 ?_
              refine wpAnyH_take (i := 10) (oi := _) (v := .agg #[.bool rb, .int .i64 0, .int .i64 rc]) rfl (by kernel_rfl) (by kernel_rfl) (by kernel_rfl) (fun _ _ _ h => h) (Or.inl ⟨by kernel_rfl, fun w2 hw => by obtain ⟨⟨k1, k3⟩, ⟨l0, l1, l2⟩, ⟨m0, m1, m2⟩⟩ := HQ.out w2 hw; go_simp⟩) hHeld9 ?_
              refine wpAnyH_take (i := 11) (oi := _) (v := .agg #[.bool rb, .int .i64 0, .int .i64 rc]) rfl (by kernel_rfl) (by kernel_rfl) (by kernel_rfl) (fun _ _ _ h => h) (Or.inl ⟨by kernel_rfl, fun w2 hw => by obtain ⟨⟨k1, k3⟩, ⟨l0, l1, l2⟩, ⟨m0, m1, m2⟩⟩ := HQ.out w2 hw; go_simp⟩) hHeld9 ?_
              refine wpAnyH_take (i := 12) (oi := _) (v := .bool false) rfl (by kernel_rfl) (by kernel_rfl) (by kernel_rfl) (fun _ _ _ h => h) (Or.inl ⟨by kernel_rfl, fun w2 hw => by go_simp⟩) hHeld9 ?_
              refine wpAnyH_take (i := 13) (oi := _) (v := .bool false) rfl (by kernel_rfl) (by kernel_rfl) (by kernel_rfl) (fun _ _ _ h => h) (Or.inl ⟨by kernel_rfl, fun w2 hw => by go_simp⟩) hHeld9 ?_
              refine wpAnyH_take (i := 14) (oi := _) (v := .bool false) rfl (by kernel_rfl) (by kernel_rfl) (by kernel_rfl) (fun _ _ _ h => h) (Or.inl ⟨by kernel_rfl, fun w2 hw => by go_simp⟩) hHeld9 ?_
              refine wpAnyH_take (i := 15) (oi := _) (v := .pointer (some ⟨w.heap.size, 0, none⟩)) rfl (by kernel_rfl) (by kernel_rfl) (by kernel_rfl) (fun _ _ _ h => h) (Or.inl ⟨by kernel_rfl, fun w2 hw => by go_simp⟩) hHeld9 ?_
              refine wpAnyH_take (i := 17) (oi := _) (v := .pointer (some ⟨gr, 0, none⟩)) rfl (by kernel_rfl) (by kernel_rfl) (by kernel_rfl) (fun _ _ _ h => h) (Or.inl ⟨by kernel_rfl, fun w2 hw => by go_simp⟩) hHeld9 ?_
              refine wpAnyH_take (i := 18) (oi := _) (v := .pointer (some ⟨gr, 0, none⟩)) rfl (by kernel_rfl) (by kernel_rfl) (by kernel_rfl) (fun _ _ _ h => h) (Or.inl ⟨by kernel_rfl, fun w2 hw => by go_simp⟩) hHeld9 ?_
              refine wpAnyH_take (i := 19) (oi := _) (v := .pointer (some ⟨gr, 1, none⟩)) rfl (by kernel_rfl) (by kernel_rfl) (by kernel_rfl) (fun _ _ _ h => h) (Or.inl ⟨by kernel_rfl, fun w2 hw => by go_simp⟩) hHeld9 ?_
              refine wpAnyH_take (i := 20) (oi := _) (v := .int .i64 so) rfl (by kernel_rfl) (by kernel_rfl) (by kernel_rfl) (fun _ _ _ h => h) (Or.inl ⟨by kernel_rfl, fun w2 hw => by obtain ⟨⟨k1, k3⟩, ⟨l0, l1, l2⟩, ⟨m0, m1, m2⟩⟩ := HQ.out w2 hw; go_simp⟩) hHeld9 ?_
              simp only [Act.put, List.getElem_toArray, List.getElem_cons_succ, List.getElem_cons_zero, List.setIfInBounds_toArray, List.set_cons_zero, List.set_cons_succ]
              refine wpAnyH_ready (rs := [16]) (by kernel_rfl) (by simp) ?_
              refine AllReadyH.cons rfl (fun K hK => ?_) AllReadyH.nil
              go_simp
              refine (KT.out _ hHeld9).mono ?_
              rintro e w' ⟨rfl, rfl⟩
              refine hK.out _ _ hHeld9 (fun _ => ?_)
              clear hK K
              refine wpAnyH_take (i := 21) (oi := _) (v := .bool false) rfl (by kernel_rfl) (by kernel_rfl) (by kernel_rfl) (fun _ _ _ h => h) (Or.inl ⟨by kernel_rfl, fun w2 hw => by go_simp⟩) hHeld9 ?_
              refine wpAnyH_take (i := 22) (oi := _) (v := .bool false) rfl (by kernel_rfl) (by kernel_rfl) (by kernel_rfl) (fun _ _ _ h => h) (Or.inl ⟨by kernel_rfl, fun w2 hw => by go_simp⟩) hHeld9 ?_
              refine wpAnyH_take (i := 23) (oi := _) (v := .bool false) rfl (by kernel_rfl) (by kernel_rfl) (by kernel_rfl) (fun _ _ _ h => h) (Or.inl ⟨by kernel_rfl, fun w2 hw => by go_simp⟩) hHeld9 ?_
              refine wpAnyH_take (i := 24) (oi := _) (v := .pointer (some ⟨w.heap.size, 0, none⟩)) rfl (by kernel_rfl) (by kernel_rfl) (by kernel_rfl) (fun _ _ _ h => h) (Or.inl ⟨by kernel_rfl, fun w2 hw => by go_simp⟩) hHeld9 ?_
              refine wpAnyH_take (i := 26) (oi := _) (v := .pointer (some ⟨gr, 0, none⟩)) rfl (by kernel_rfl) (by kernel_rfl) (by kernel_rfl) (fun _ _ _ h => h) (Or.inl ⟨by kernel_rfl, fun w2 hw => by go_simp⟩) hHeld9 ?_
              refine wpAnyH_take (i := 27) (oi := _) (v := .pointer (some ⟨gr, 0, none⟩)) rfl (by kernel_rfl) (by kernel_rfl) (by kernel_rfl) (fun _ _ _ h => h) (Or.inl ⟨by kernel_rfl, fun w2 hw => by go_simp⟩) hHeld9 ?_
              refine wpAnyH_take (i := 28) (oi := _) (v := .pointer (some ⟨gr, 3, none⟩)) rfl (by kernel_rfl) (by kernel_rfl) (by kernel_rfl) (fun _ _ _ h => h) (Or.inl ⟨by kernel_rfl, fun w2 hw => by go_simp⟩) hHeld9 ?_
              refine wpAnyH_take (i := 29) (oi := _) (v := .slice b6 hl c6) rfl (by kernel_rfl) (by kernel_rfl) (by kernel_rfl) (fun _ _ _ h => h) (Or.inl ⟨by kernel_rfl, fun w2 hw => by obtain ⟨⟨k1, k3⟩, ⟨l0, l1, l2⟩, ⟨m0, m1, m2⟩⟩ := HQ.out w2 hw; go_simp⟩) hHeld9 ?_
              refine wpAnyH_take (i := 30) (oi := _) (v := .int .i64 (hl : Int)) rfl (by kernel_rfl) (by kernel_rfl) (by kernel_rfl) (fun _ _ _ h => h) (Or.inl ⟨by kernel_rfl, fun w2 hw => by go_simp⟩) hHeld9 ?_
              simp only [Act.put, List.getElem_toArray, List.getElem_cons_succ, List.getElem_cons_zero, List.setIfInBounds_toArray, List.set_cons_zero, List.set_cons_succ]
              refine wpAnyH_ready (rs := [25]) (by kernel_rfl) (by simp) ?_
              refine AllReadyH.cons rfl (fun K hK => ?_) AllReadyH.nil
              go_simp
              refine (KH.out _ hHeld9).mono ?_
              rintro e w' ⟨rfl, rfl⟩
              refine hK.out _ _ hHeld9 (fun _ => ?_)
              clear hK K
              refine wpAnyH_take (i := 31) (oi := _) (v := .bool false) rfl (by kernel_rfl) (by kernel_rfl) (by kernel_rfl) (fun _ _ _ h => h) (Or.inl ⟨by kernel_rfl, fun w2 hw => by go_simp⟩) hHeld9 ?_
              refine wpAnyH_take (i := 32) (oi := _) (v := .bool false) rfl (by kernel_rfl) (by kernel_rfl) (by kernel_rfl) (fun _ _ _ h => h) (Or.inl ⟨by kernel_rfl, fun w2 hw => by go_simp⟩) hHeld9 ?_
              simp only [Act.put, List.getElem_toArray, List.getElem_cons_succ, List.getElem_cons_zero, List.setIfInBounds_toArray, List.set_cons_zero, List.set_cons_succ]
              refine wpAnyH_done (by kernel_rfl) ?_ _
              have F9 : Hid (Fr (fun _ => False) y2 w9) := hHeld9
              clear hHeld hHeld9
              go_wp2_with (fail)
              go_roundw
              case rel => exact ⟨i + 1, r.o, r.H, v3, v4, rfl, HIN.out, HT4.out.later F9.out, HFR4.out.trans F9.out⟩
              case measure => exact meas_next2 HIN.out)
    · have n1 : ¬ (i : Int) < (ls.length : Int) := by omega
      have KA := bawake_in wr
      have HFR : Hid (Fr (fun _ => False) w wr) := hfr
      go_wp2_with (go_at_call 9; refine KA.mono ?_; rintro e w9 ⟨rfl, hf9⟩; have F9 : Hid (Fr (fun _ => False) wr w9) := hf9; clear hf9)
      go_ret
      exact ⟨rfl, (HFR.out.trans F9.out).below (fun _ _ => id)⟩
theorem bjoins_walk (m : Int) (hm : (Lit.int .i64 m).wf = true) (q : Option Addr) (c : Nat) (ls : List FM) (w : World) (hF : FrsW w q c ls) :
    Calls Try.prog 4 #[.int .i64 m, .slice q ls.length c] w fun e w' => e = .returned (.bool true) ∧ Below w.heap.size w w' := by
  by_cases h : 0 ≤ m ∧ m ≤ 65536
  · obtain ⟨M, rfl⟩ : ∃ M : Nat, m = (M : Int) := ⟨m.toNat, by omega⟩
    exact bjoins_yes M (by omega) q c ls w hF
  · exact bjoins_no m h q c ls.length w
end Go.Proofs.Ytdndhidinbmpdaa
