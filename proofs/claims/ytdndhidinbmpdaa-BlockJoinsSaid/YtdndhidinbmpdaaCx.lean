/- Never more than may be: the law's walk. -/
import Derived.Test.YtdndhidinbmpdaaBo
import Derived.Test.YtdndhidinbmpdaaBw
import Derived.Test.YtdndhidinbmpdaaL12
import Derived.Deep.Cut
namespace Go.Proofs.Ytdndhidinbmpdaa
open Go.RowKit
set_option linter.unusedVariables false
set_option maxRecDepth 100000
set_option maxHeartbeats 4000000

theorem FrsW.later {w w' : World} {q : Option Addr} {c : Nat} {ls : List FM} (h : FrsW w q c ls) (hf : Fr (fun _ => False) w w') : FrsW w' q c ls := by
  refine ⟨h.cap, h.few, fun r z hr => ?_⟩
  obtain ⟨g, o, e, hg, hc, hI⟩ := h.cells r z hr
  exact ⟨g, o, e, Nat.lt_of_lt_of_le hg hf.size, fun j u hj => (hf.cell (p := ⟨g, o + r * 12 + j, none⟩) hg id).trans (hc j u hj), hI.later hf⟩
/-- What is wrong is a fault of the connection, by one of two codes; and nothing is held behind it. -/
theorem inJ_bound (m : Nat) (o : Opn) (H : List UInt8) (f : Fra) (hle : H.length ≤ m) (hnil : o = none → H = []) :
    (inJ m o H f).H.length ≤ m ∧ ((inJ m o H f).code = 0 ∨ ((inJ m o H f).code = 1 ∧ (inJ m o H f).H = []) ∨ ((inJ m o H f).code = 11 ∧ (inJ m o H f).H = [] ∧ (f.k = 1 ∨ m < H.length + f.X.length))) := by
  unfold inJ
  by_cases hfo : follB o f = false
  · rw [if_pos hfo]; simp
  · rw [if_neg hfo]
    by_cases hk : f.k ≠ 1 ∧ f.k ≠ 9
    · rw [if_pos hk]; simp [hle]
    · rw [if_neg hk]
      by_cases hl : (m : Int) - (H.length : Int) < (f.X.length : Int)
      · rw [if_pos hl]
        refine ⟨by simp, .inr (.inr ⟨rfl, rfl, .inr (by omega)⟩)⟩
      · rw [if_neg hl]
        cases doneB f.fl
        · simp; omega
        · simp

theorem own_next {v v' : Value} {n n0 : Nat} (h : v'.ownBlock = v.ownBlock ∨ v'.ownBlock = none ∨ ∃ k, v'.ownBlock = some k ∧ n ≤ k) (hv : ∀ k, v.ownBlock = some k → n0 ≤ k) (hn : n0 ≤ n) : ∀ k, v'.ownBlock = some k → n0 ≤ k := by
  intro k hk
  rcases h with h1 | h1 | ⟨k', h1, h2⟩
  · exact hv k (by rw [← h1]; exact hk)
  · rw [h1] at hk; cases hk
  · rw [h1] at hk; cases hk; omega
theorem meas_next2 {i n : Nat} (h : i < n) : n - (intOf (Value.int .i64 ((i : Int) + 1))).toNat < n - (intOf (Value.int .i64 (i : Int))).toNat := by
  simp only [intOf]
  omega
theorem bbound_walk (e0 : Nat) (he0 : e0 ≤ 65535) (q : Option Addr) (c : Nat) (ls : List FM) (w : World) (hF : FrsW w q c ls) :
    Calls Try.prog 6 #[.int .u16 (e0 : Int), .slice q ls.length c] w fun e w' => e = .returned (.bool true) ∧ Below w.heap.size w w' := by
  have HFW : Hid (FrsW w q c ls) := hF
  have KN : Hid (Calls Try.prog 13 #[.int .i64 (e0 : Int)] w fun e w' => e = .returned (.tuple #[.pointer (some ⟨w.heap.size, 0, none⟩), .int .i64 0]) ∧ JC w' w.heap.size (e0 : Int) none (.slice none 0 0) ∧ Fr (fun _ => False) w w') := New_yes (e0 : Int) w (by omega) (by omega)
  have hfew := hF.few
  have HEW : Hid (ls.length * 128 < 2 ^ 47) := hfew
  clear hF
  go_enter Try.func6, Try.ntmps6
  go_wp2_with (go_at_call 13; refine KN.out.mono ?_; rintro e w1 ⟨rfl, hj1, hf1⟩; have T1 : Hid (JC w1 w.heap.size (e0 : Int) none (.slice none 0 0) ∧ Fr (fun _ => False) w w1) := ⟨hj1, hf1⟩; clear hj1 hf1)
  go_loopw [7] (fun x7 wr => ∃ (i : Nat) (o : Opn) (H : List UInt8) (v : Value), x7 = .int .i64 (i : Int) ∧ i ≤ ls.length ∧ JAt wr w.heap.size e0 o H v ∧ (∀ k, v.ownBlock = some k → w.heap.size ≤ k) ∧ Fr (fun _ => False) w wr) (fun x7 _ => ls.length - (intOf x7).toNat)
  case atStart => exact ⟨0, none, [], _, rfl, by omega, JAt.none T1.out.1 (by omega), fun k hk => by simp [Value.ownBlock] at hk, T1.out.2⟩
  case round =>
    obtain ⟨i, o, H, v, rfl, hi, hJ, hv, hfr⟩ := hrel
    by_cases hin : i < ls.length
    · have HJ : Hid (JAt wr w.heap.size e0 o H v) := hJ
      have HV : Hid (∀ k, v.ownBlock = some k → w.heap.size ≤ k) := hv
      have HFR : Hid (Fr (fun _ => False) w wr) := hfr
      have HIN : Hid (i < ls.length) := hin
      obtain ⟨z, hz⟩ : ∃ z, ls[i]? = some z := ⟨ls[i], List.getElem?_eq_getElem hin⟩
      obtain ⟨bg, bo, hq, hbg, hcells, hI⟩ := (HFW.out.later hfr).cells i z hz
      obtain ⟨f, p, cp, q2, cq⟩ := z
      have HCL : Hid (∀ (j : Nat) u, (fcl (f, p, cp, q2, cq))[j]? = some u → wr.cell? ⟨bg, bo + i * 12 + j, none⟩ = some u) := hcells
      have HI : Hid (FrIn wr f p q2 cq) := hI
      have HBG : Hid (bg < w.heap.size) := by
        obtain ⟨bg', bo', hq', hbg', -⟩ := HFW.out.cells i _ hz
        rw [hq] at hq'
        cases hq'
        exact hbg'
      subst hq
      obtain ⟨hp0, hc0, hv0⟩ := hJ.form
      subst hv0
      have KH : Hid (Calls Try.prog 18 #[.pointer (some ⟨w.heap.size, 0, none⟩)] wr fun e w' => e = .returned (.int .i64 (H.length : Int)) ∧ wr = w') := Held_in w.heap.size _ o hp0 H.length hc0 wr HJ.out.c
      have KI : Hid (Calls Try.prog 15 #[.pointer (some ⟨w.heap.size, 0, none⟩), .agg #[.int .i64 f.k, .int .i64 f.fl, .int .i64 f.st, .slice p f.X.length cp, .int .i64 f.pad, .int .u32 f.code, .int .i64 f.last, .int .i64 f.inc, .int .i64 f.dep, .bool f.only, .int .i64 f.wt, .slice q2 f.Y.length cq]] wr fun e w' => InAs wr w.heap.size e0 (.slice hp0 H.length hc0) (inJ e0 o H f) e w') := In_in w.heap.size e0 o H _ f p q2 cp cq wr HJ.out HI.out
      have HB := inJ_bound e0 o H f HJ.out.le (fun e => (HJ.out.nil e).2)
      obtain ⟨r, hr⟩ : ∃ r, inJ e0 o H f = r := ⟨_, rfl⟩
      rw [hr] at KI HB
      have HBD : Hid (r.H.length ≤ e0 ∧ (r.code = 0 ∨ (r.code = 1 ∧ r.H = []) ∨ (r.code = 11 ∧ r.H = [] ∧ (f.k = 1 ∨ e0 < H.length + f.X.length)))) := HB
      have n1 : (i : Int) < (ls.length : Int) := by omega
      have c0 : wr.cell? ⟨bg, bo + i * 12, none⟩ = some (.int .i64 f.k) := hcells 0 _ rfl
      have c1 : wr.cell? ⟨bg, bo + i * 12 + 1, none⟩ = some (.int .i64 f.fl) := hcells 1 _ rfl
      have c2 : wr.cell? ⟨bg, bo + i * 12 + 2, none⟩ = some (.int .i64 f.st) := hcells 2 _ rfl
      have c3 : wr.cell? ⟨bg, bo + i * 12 + 3, none⟩ = some (.slice p f.X.length cp) := hcells 3 _ rfl
      have c4 : wr.cell? ⟨bg, bo + i * 12 + 4, none⟩ = some (.int .i64 f.pad) := hcells 4 _ rfl
      have c5 : wr.cell? ⟨bg, bo + i * 12 + 5, none⟩ = some (.int .u32 f.code) := hcells 5 _ rfl
      have c6 : wr.cell? ⟨bg, bo + i * 12 + 6, none⟩ = some (.int .i64 f.last) := hcells 6 _ rfl
      have c7 : wr.cell? ⟨bg, bo + i * 12 + 7, none⟩ = some (.int .i64 f.inc) := hcells 7 _ rfl
      have c8 : wr.cell? ⟨bg, bo + i * 12 + 8, none⟩ = some (.int .i64 f.dep) := hcells 8 _ rfl
      have c9 : wr.cell? ⟨bg, bo + i * 12 + 9, none⟩ = some (.bool f.only) := hcells 9 _ rfl
      have c10 : wr.cell? ⟨bg, bo + i * 12 + 10, none⟩ = some (.int .i64 f.wt) := hcells 10 _ rfl
      have c11 : wr.cell? ⟨bg, bo + i * 12 + 11, none⟩ = some (.slice q2 f.Y.length cq) := hcells 11 _ rfl
      have wi : wrap64 ((i : Int) + 1) = (i : Int) + 1 := by unfold wrap64; omega
      clear hcells hI hJ hv hfr hin hi HB hr hz hbg
      go_upto_region 9 with (first
        | (go_at_call 18; refine KH.out.mono ?_; rintro e w' ⟨rfl, rfl⟩)
        | (go_at_call 15; refine KI.out.mono ?_; rintro e w3 ⟨p3, cp3, q3, cq3, v3, rfl, -, -, -, hj3, hf3, hb3⟩; have T3 : Hid (JAt w3 w.heap.size e0 r.o r.H v3 ∧ Fr (fun k => k = w.heap.size ∨ (Value.slice hp0 H.length hc0).ownBlock = some k) wr w3 ∧ (∀ k, v3.ownBlock = some k → w.heap.size ≤ k)) := ⟨hj3, hf3, own_next hb3 HV.out HFR.out.size⟩; clear hj3 hf3 hb3 c0 c1 c2 c3 c4 c5 c6 c7 c8 c9 c10 c11; obtain ⟨rc, hrc⟩ : ∃ rc, r.code = rc := ⟨_, rfl⟩; obtain ⟨rb, hrb⟩ : ∃ rb, decide (rc ≠ 0) = rb := ⟨_, rfl⟩; obtain ⟨is, his⟩ : ∃ is, r.is = is := ⟨_, rfl⟩; obtain ⟨rf, hrf⟩ : ∃ rf, r.f = rf := ⟨_, rfl⟩; rw [hrc, hrb, his, hrf]; have HRC : Hid (r.code = rc ∧ decide (rc ≠ 0) = rb) := ⟨hrc, hrb⟩; clear hrc hrb his hrf)
        | (refine wpList_storeB rfl 34 (.tmp 9) (.tmp 35) rfl w3.heap.size #[.int .i64 0, .int .i64 0, .int .i64 0, .slice none 0 0, .int .i64 0, .int .u32 0, .int .i64 0, .int .i64 0, .int .i64 0, .bool false, .int .i64 0, .slice none 0 0] #[.int .i64 rf.k, .int .i64 rf.fl, .int .i64 rf.st, .slice p3 rf.X.length cp3, .int .i64 rf.pad, .int .u32 rf.code, .int .i64 rf.last, .int .i64 rf.inc, .int .i64 rf.dep, .bool rf.only, .int .i64 rf.wt, .slice q3 rf.Y.length cq3] 34 rfl rfl (past_at _ (heap_alloc_new w3 _)) rfl (by kernel_rfl) (by simp [Value.oneCell']) ?_; intro x1 X1 Y1)
        | (refine wpList_storeB rfl 43 (.tmp 11) (.tmp 37) rfl (w3.heap.size + 1) #[.bool false, .int .i64 0, .int .i64 0] #[.bool rb, .int .i64 0, .int .i64 rc] 43 rfl rfl ((Y1.out.block _ (by simp) (by omega)).trans (last_at _ (by simp))) rfl (by kernel_rfl) (by simp [Value.oneCell']) ?_; intro x2 X2 Y2))
      have F3 : Hid (Fr (fun _ => False) w3 x2) := ((((Fr.refl (fun k => k = w3.heap.size ∨ k = w3.heap.size + 1) _).alloc _).alloc _).trans ((Y1.out.mono (fun _ _ e => .inl e)).trans (Y2.out.mono (fun _ _ e => .inr e)))).mono (fun k hk e => by omega)
      have J3 : Hid (JAt x2 w.heap.size e0 r.o r.H v3) := T3.out.1.later F3.out
      have HFX : Hid (Fr (fun _ => False) w x2) := (((HFR.out.mono (T := fun k => w.heap.size ≤ k) (fun _ _ e => e.elim)).trans (T3.out.2.1.mono (fun k _ e => by rcases e with e | e; omega; exact HV.out k e))).trans (F3.out.mono (fun _ _ e => e.elim))).mono (fun k hk e => by omega)
      obtain ⟨p4, c4, hv4⟩ := J3.out.form
      have KH2 : Hid (Calls Try.prog 18 #[.pointer (some ⟨w.heap.size, 0, none⟩)] x2 fun e w' => e = .returned (.int .i64 (r.H.length : Int)) ∧ x2 = w') := Held_in w.heap.size _ r.o p4 r.H.length c4 x2 (by rw [← hv4]; exact J3.out.c)
      have XC : ∀ (j : Nat) u, (fcl (f, p, cp, q2, cq))[j]? = some u → x2.cell? ⟨bg, bo + i * 12 + j, none⟩ = some u := fun j u hj => by
        have h1 := HFW.out.cells
        have h2 := HCL.out j u hj
        refine (Fr.cell (S := fun k => w.heap.size ≤ k) (w := wr) ?_ (World.block_lt_of_cell? _ _ h2) (by have := HBG.out; show ¬ _; simp; omega)).trans h2
        exact (T3.out.2.1.mono (fun k _ e => by rcases e with e | e; omega; exact HV.out k e)).trans (F3.out.mono (fun _ _ e => e.elim))
      have c0 : x2.cell? ⟨bg, bo + i * 12, none⟩ = some (.int .i64 f.k) := XC 0 _ rfl
      have c3 : x2.cell? ⟨bg, bo + i * 12 + 3, none⟩ = some (.slice p f.X.length cp) := XC 3 _ rfl
      obtain ⟨s0, s1, s2⟩ := cells3 X2.out
      have hB := HBD.out
      rw [HRC.out.1] at hB
      have hrb := HRC.out.2
      have hle := hB.1
      obtain ⟨hn, hhn⟩ : ∃ hn, r.H.length = hn := ⟨_, rfl⟩
      have hx := HI.out.few
      have hH := HJ.out.le
      have l1 : ¬ (e0 : Int) < (r.H.length : Int) := by omega
      have wl : wrap64 ((H.length : Int) + (f.X.length : Int)) = (H.length : Int) + (f.X.length : Int) := by unfold wrap64; omega
      clear XC
      rcases hB.2 with h0 | ⟨h1, hz⟩ | ⟨h11, hz, hor⟩
      · subst h0
        obtain rfl : rb = _ := hrb.symm
        clear HRC hB HBD
        go_wp2_with (go_at_call 18; refine KH2.out.mono ?_; rintro e w' ⟨rfl, rfl⟩)
        go_roundw
        case rel => exact ⟨i + 1, r.o, r.H, v3, rfl, HIN.out, J3.out, T3.out.2.2, HFX.out⟩
        case measure => exact meas_next2 HIN.out
      · subst h1
        obtain rfl : rb = _ := hrb.symm
        have hz0 : (r.H.length : Int) = 0 := by rw [hz]; rfl
        clear HRC hB HBD hz
        go_wp2_with (go_at_call 18; refine KH2.out.mono ?_; rintro e w' ⟨rfl, rfl⟩)
        go_roundw
        case rel => exact ⟨i + 1, r.o, r.H, v3, rfl, HIN.out, J3.out, T3.out.2.2, HFX.out⟩
        case measure => exact meas_next2 HIN.out
      · subst h11
        obtain rfl : rb = _ := hrb.symm
        have hz0 : (r.H.length : Int) = 0 := by rw [hz]; rfl
        clear HRC hB HBD hz
        by_cases hk1 : f.k = 1
        · have k1 : (f.k != 1) = false := by simpa using hk1
          have k2 : decide (f.k = 1) = true := by simpa using hk1
          have k3 : (f.k == 1) = true := by simpa using hk1
          clear hor hk1
          by_cases hle2 : (H.length : Int) + (f.X.length : Int) ≤ (e0 : Int)
          · go_wp2_with (go_at_call 18; refine KH2.out.mono ?_; rintro e w' ⟨rfl, rfl⟩)
            go_roundw
            case rel => exact ⟨i + 1, r.o, r.H, v3, rfl, HIN.out, J3.out, T3.out.2.2, HFX.out⟩
            case measure => exact meas_next2 HIN.out
          · go_wp2_with (go_at_call 18; refine KH2.out.mono ?_; rintro e w' ⟨rfl, rfl⟩)
            go_roundw
            case rel => exact ⟨i + 1, r.o, r.H, v3, rfl, HIN.out, J3.out, T3.out.2.2, HFX.out⟩
            case measure => exact meas_next2 HIN.out
        · have hle2 : ¬ (H.length : Int) + (f.X.length : Int) ≤ (e0 : Int) := by omega
          clear hor hk1
          go_wp2_with (go_at_call 18; refine KH2.out.mono ?_; rintro e w' ⟨rfl, rfl⟩)
          go_roundw
          case rel => exact ⟨i + 1, r.o, r.H, v3, rfl, HIN.out, J3.out, T3.out.2.2, HFX.out⟩
          case measure => exact meas_next2 HIN.out
    · have n1 : ¬ (i : Int) < (ls.length : Int) := by omega
      have KA := bawake_in wr
      have HFR : Hid (Fr (fun _ => False) w wr) := hfr
      go_wp2_with (go_at_call 9; refine KA.mono ?_; rintro e w9 ⟨rfl, hf9⟩; have F9 : Hid (Fr (fun _ => False) wr w9) := hf9; clear hf9)
      go_ret
      exact ⟨rfl, (HFR.out.trans F9.out).below (fun _ _ => id)⟩
end Go.Proofs.Ytdndhidinbmpdaa
