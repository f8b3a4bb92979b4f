/- The walk of WheelPlays. -/
import Derived.Test.YtldedlphamcehaaGv
import Derived.Test.YtldedlphamcehaaGk
import Derived.Test.YtldedlphamcehaaLw
import Derived.Deep.RegionHeldLaw
namespace Go.Proofs.Ytldedlphamcehaa
open Go.RowKit Go.Maps
set_option linter.unusedVariables false
set_option maxRecDepth 100000
set_option maxHeartbeats 4000000

theorem two_ne {base : Nat} {w : World} {g mb g2 N M : Nat} {sl : List Value} {L K : List (Int × Int)} {vL : Value} (ha : WAt base w g mb sl N L) (hr : RWA base w g2 M K vL) : ∀ k, RX2 g2 vL k → ¬ WX g mb sl k := by
  have key : ∀ k cs t f, w.heap[k]? = some (.cells cs t f) → t ≠ 54 → t ≠ 3 → ¬ WX g mb sl k := by
    rintro k cs t f hk h1 h2 (rfl | rfl | ⟨r, hr, e⟩)
    · exact tag_neI hk ha.1.c.blk h1 rfl
    · exact ha.1.m.ne hk rfl
    · obtain ⟨cur, hc⟩ := own_tagI (ha.1.s r hr) k e
      exact tag_neI hk hc h2 rfl
  rintro k (rfl | e)
  · exact key _ _ _ _ hr.blk (by decide) (by decide)
  · obtain ⟨-, cur, hc⟩ := hr.row.lt k e
    exact key _ _ _ _ hc (by decide) (by decide)
/-- Both wheels: the same. -/
def TwW (base : Nat) (w : World) (g mb g2 N : Nat) (L : List (Int × Int)) (wr : World) : Prop := ∃ sl vL, WAt base wr g mb sl N L ∧ RWA base wr g2 N L vL ∧ Fr (fun k => base ≤ k) w wr
theorem TwW.later {base : Nat} {w : World} {g mb g2 N : Nat} {L : List (Int × Int)} {wr w' : World} (h : TwW base w g mb g2 N L wr) (f : Fr (fun _ => False) wr w') : TwW base w g mb g2 N L w' := by
  obtain ⟨sl, vL, h1, h2, h3⟩ := h
  exact ⟨sl, vL, h1.later f, h2.later f, h3.trans (f.mono (fun _ _ e => e.elim))⟩
/-- The program's has gone on, the document's not yet; a call's block (b) lies as it lay. -/
def MdW (base : Nat) (w : World) (g mb g2 N M : Nat) (L K : List (Int × Int)) (vL : Value) (b : Nat) (ob : Obj) (wr : World) : Prop := ∃ sl, WAt base wr g mb sl N L ∧ RWA base wr g2 M K vL ∧ Fr (fun k => base ≤ k) w wr ∧ wr.heap[b]? = some ob
theorem one_md {base : Nat} {w wa w' : World} {g mb g2 N M : Nat} {sl : List Value} {L K : List (Int × Int)} {vL : Value} {b : Nat} {ob : Obj} (ha : WAt base wa g mb sl M K) (hr : RWA base wa g2 M K vL) (hf : Fr (fun k => base ≤ k) w wa) (hob : wa.heap[b]? = some ob) (hnb : ∀ k, WX g mb sl k → k ≠ b) (hp : WPost base wa g mb sl N L w') : MdW base w g mb g2 N M L K vL b ob w' := by
  obtain ⟨sl2, h1, h2, h3⟩ := hp
  exact ⟨sl2, h1, hr.fr h2 (two_ne ha hr), hf.trans (h2.mono (fun k _ e => ha.1.base_le k e)), (h2.block b (lt_of_heap hob) (fun e => hnb b e rfl)).trans hob⟩
theorem md_two {base : Nat} {w w1 w' : World} {g mb g2 N M : Nat} {L K : List (Int × Int)} {vL : Value} {b : Nat} {ob : Obj} (h : MdW base w g mb g2 N M L K vL b ob w1) (hnb : ∀ k, RX2 g2 vL k → k ≠ b) (hp : RPo base w1 g2 vL N L w') : TwW base w g mb g2 N L w' ∧ w'.heap[b]? = some ob := by
  obtain ⟨sl, h1, h2, h3, h4⟩ := h
  obtain ⟨uL, k1, k2, k3⟩ := hp
  exact ⟨⟨sl, uL, h1.fr k2 (fun k hk e => two_ne h1 h2 k e hk), k1, h3.trans (k2.mono (fun k _ e => h2.base_le k e))⟩, (k2.block b (lt_of_heap h4) (fun e => hnb b e rfl)).trans h4⟩
theorem two_tick {base : Nat} {w wa w2 : World} {g mb g2 N : Nat} {L : List (Int × Int)} {vL : Value} {b : Nat} {ob : Obj} {ta : Option Addr} {tm tc : Nat} (hr : RWA base wa g2 N L vL) (hb : base ≤ w.heap.size) (hN : N < 1000000000000000000) (hnb : ∀ k, RX2 g2 vL k → k ≠ b) (h : OwnAt w2 3 (.slice ta tm tc) (iv (dueT N L)) ∧ (∀ k, (Value.slice ta tm tc).ownBlock = some k → wa.heap.size ≤ k) ∧ MdW base w g mb g2 (N + 1) N (restT N L) L vL b ob w2) :
    Calls Try.prog 16 #[.pointer (some ⟨g2, 0, none⟩)] w2 fun e w' => ∃ ra rm rc, e = .returned (.slice ra rm rc) ∧ Hid (OwnAt w' 3 (.slice ra rm rc) (iv (dueT N L)) ∧ OwnAt w' 3 (.slice ta tm tc) (iv (dueT N L)) ∧ TwW base w g mb g2 (N + 1) (restT N L) w' ∧ w'.heap[b]? = some ob) := by
  obtain ⟨h1, h2, h3⟩ := h
  obtain ⟨sl9, y1, y2, y3, y4⟩ := id h3
  refine (rqTick_in y2 (Nat.le_trans hb y3.size) hN).mono ?_
  rintro e w' ⟨ra, rm, rc, rfl, z1, z2, z3⟩
  obtain ⟨t1, t2⟩ := md_two h3 hnb z3
  obtain ⟨uL, k1, k2, k3⟩ := z3
  exact ⟨ra, rm, rc, rfl, z1, h1.fr k2 (fun k hk e => by have := h2 k hk; have := hr.lt k e; omega), t1, t2⟩
theorem qplays_walk (q : Option Addr) (c m : Nat) (X : List (Int × Int × Int)) (w : World) (hI : Ops16 w q c X) (hl : X.length = m) : Calls Try.prog 3 #[.slice q m c] w fun e w' => e = .returned (.bool true) ∧ Below w.heap.size w w' := by
  have KN := qNew_in w.heap.size w (Nat.le_refl _)
  have hmb2 : (m : Int) ≤ 900000000000000000 := by have := hI.few; rw [hl] at this; have h2 : reachBytes < 2 ^ 47 := reach_lt; omega
  have HI : Hid (Ops16 w q c X) := hI
  have HL : Hid (X.length = m) := hl
  obtain ⟨base, hbase⟩ : ∃ base, base = w.heap.size := ⟨_, rfl⟩
  obtain ⟨mb, hmb⟩ : ∃ mb, mb = w.heap.size := ⟨_, rfl⟩
  obtain ⟨g, hg⟩ : ∃ g, g = w.heap.size + 1 := ⟨_, rfl⟩
  have KN2 : Calls Try.prog 8 #[] w fun e w' => e = .returned (.pointer (some ⟨g, 0, none⟩)) ∧ Hid (WAt base w' g mb (List.replicate 64 nilS) 0 [] ∧ Fr (fun _ => False) w w') := by
    refine KN.mono ?_
    rintro e w' ⟨rfl, h1, f1, -⟩
    rw [hg, hbase, hmb]
    exact ⟨rfl, h1, f1⟩
  have HB : Hid (base = w.heap.size) := hbase
  clear hI hl hbase hg hmb KN
  go_enter Try.func3, Try.ntmps3
  go_upto_region 4 with (go_at_call 8; refine KN2.mono ?_; clear KN2; rintro e w1 ⟨rfl, Y1⟩)
  have KR := rqNew_in base w1 (by rw [HB.out]; exact Y1.out.2.size)
  obtain ⟨g2, hg2⟩ : ∃ g2, g2 = w1.heap.size := ⟨_, rfl⟩
  rw [← hg2] at KR
  clear hg2
  go_wp2_with (go_at_call 9; refine KR.mono ?_; clear KR; rintro e w2 ⟨rfl, r2, f2⟩; have HS0 : Hid (TwW base w g mb g2 0 [] w2) := ⟨_, _, Y1.out.1.later f2, r2, (Y1.out.2.trans f2).mono (fun _ _ e => e.elim)⟩; clear r2 f2 Y1)
  go_loopw [5] (fun x5 wr => ∃ (i N : Nat) (L : List (Int × Int)), x5 = .int .i64 (i : Int) ∧ i ≤ m ∧ N ≤ i ∧ Hid (TwW base w g mb g2 N L wr)) (fun x5 _ => m - (intOf x5).toNat)
  case atStart => exact ⟨0, 0, [], rfl, by omega, by omega, HS0.out⟩
  case round =>
    clear HS0
    obtain ⟨i, N, L, rfl, him, hNi, HS⟩ := hrel
    by_cases hlt : i < m
    · have hlt2 : (i : Int) < (m : Int) := by omega
      have hNb : N < 1000000000000000000 := by omega
      obtain ⟨⟨wh, d, v⟩, ho⟩ : ∃ o, X[i]? = some o := ⟨X[i]'(by rw [HL.out]; exact hlt), List.getElem?_eq_getElem _⟩
      obtain ⟨gq, oq, rfl, hgq, a0, a1, a2, i0, i1, i2⟩ := HI.out.cells i _ ho
      dsimp only at a0 a1 a2 i0 i1 i2
      have hgb : ¬ base ≤ gq := by rw [HB.out]; omega
      obtain ⟨sl, vL, ha, hr, hf⟩ := HS.out
      have k0 : wr.cell? ⟨gq, oq + i * 3, none⟩ = some (.int .i64 wh) := (hf.cell (p := ⟨gq, _, none⟩) hgq hgb).trans a0
      have k1 : wr.cell? ⟨gq, oq + i * 3 + 1, none⟩ = some (.int .i64 d) := (hf.cell (p := ⟨gq, _, none⟩) hgq hgb).trans a1
      have k2 : wr.cell? ⟨gq, oq + i * 3 + 2, none⟩ = some (.int .i64 v) := (hf.cell (p := ⟨gq, _, none⟩) hgq hgb).trans a2
      have HA0 : Hid (WAt base wr g mb sl N L) := ha
      have HR0 : Hid (RWA base wr g2 N L vL) := hr
      have HF0 : Hid (Fr (fun k => base ≤ k) w wr) := hf
      clear a0 a1 a2 ho ha hr hf HS
      go_upto_region 9 with (fail)
      obtain ⟨wa, hwa⟩ : ∃ wa, wa = wr.alloc (Obj.cells #[.int .i64 wh, .int .i64 d, .int .i64 v] 28) := ⟨_, rfl⟩
      obtain ⟨go, hgo⟩ : ∃ go, go = wr.heap.size := ⟨_, rfl⟩
      have Fa : Hid (Fr (fun _ => False) wr wa) := by rw [hwa]; exact (Fr.refl _ _).alloc _
      have HO : Hid (wa.heap[go]? = some (.cells #[.int .i64 wh, .int .i64 d, .int .i64 v] 28 (0, 0))) := by rw [hwa, hgo]; exact heap_alloc_new _ _
      rw [← hwa, ← hgo]
      have HA : Hid (WAt base wa g mb sl N L) := HA0.out.later Fa.out
      have HR : Hid (RWA base wa g2 N L vL) := HR0.out.later Fa.out
      have HFa : Hid (Fr (fun k => base ≤ k) w wa) := HF0.out.trans (Fa.out.mono (fun _ _ e => e.elim))
      have HNB : Hid ((∀ k, WX g mb sl k → k ≠ go) ∧ (∀ k, RX2 g2 vL k → k ≠ go)) := ⟨fun k hk => by have := HA0.out.1.lt k hk; omega, fun k hk => by have := HR0.out.lt k hk; omega⟩
      have HBa2 : Hid (base ≤ w.heap.size) := Nat.le_of_eq HB.out
      have HBa : Hid (base ≤ wa.heap.size) := Nat.le_trans HBa2.out HFa.out.size
      clear hwa hgo k0 k1 k2 HA0 HR0 HF0 Fa
      have o0 : wa.cell? ⟨go, 0, none⟩ = some (.int .i64 wh) := cell_of_heap HO.out rfl
      have o1 : wa.cell? ⟨go, 1, none⟩ = some (.int .i64 d) := cell_of_heap HO.out rfl
      have o2 : wa.cell? ⟨go, 2, none⟩ = some (.int .i64 v) := cell_of_heap HO.out rfl
      by_cases hw0 : wh = 0
      · subst hw0
        obtain ⟨L2, hL2⟩ : ∃ L2, (setT N L d v).2 = L2 := ⟨_, rfl⟩
        obtain ⟨er, her⟩ : ∃ er, (setT N L d v).1 = er := ⟨_, rfl⟩
        have K1 : ∀ W, Hid (Fr (fun _ => False) wa W) → Calls Try.prog 10 #[.pointer (some ⟨g, 0, none⟩), .int .i64 d, .int .i64 v] W fun e w' => e = .returned (.int .i64 er) ∧ Hid (MdW base w g mb g2 N N L2 L vL go (.cells #[.int .i64 0, .int .i64 d, .int .i64 v] 28 (0, 0)) w') := fun W hW => by
          have hWo := (hW.out.block go (lt_of_heap HO.out) id).trans HO.out
          refine (qSet_in (HA.out.later hW.out) (Nat.le_trans HBa.out hW.out.size) hNb d v i1).mono ?_
          rw [hL2, her]
          rintro e w' ⟨rfl, hp⟩
          exact ⟨rfl, one_md (HA.out.later hW.out) (HR.out.later hW.out) (HFa.out.trans (hW.out.mono (fun _ _ e => e.elim))) hWo HNB.out.1 hp⟩
        have K2 : ∀ W, Hid (MdW base w g mb g2 N N L2 L vL go (.cells #[.int .i64 0, .int .i64 d, .int .i64 v] 28 (0, 0)) W) → Calls Try.prog 11 #[.pointer (some ⟨g2, 0, none⟩), .int .i64 d, .int .i64 v] W fun e w' => e = .returned (.int .i64 er) ∧ Hid (TwW base w g mb g2 N L2 w' ∧ w'.heap[go]? = some (.cells #[.int .i64 0, .int .i64 d, .int .i64 v] 28 (0, 0))) := fun W hW => by
          obtain ⟨sl9, y1, y2, y3, y4⟩ := hW.out
          have KK := rqSet_in y2 (Nat.le_trans HBa2.out y3.size) hNb d v i1
          rw [hL2, her] at KK
          refine KK.mono ?_
          rintro e w' ⟨rfl, hp⟩
          exact ⟨rfl, md_two hW.out HNB.out.2 hp⟩
        have Q1 : ∀ W, Hid (MdW base w g mb g2 N N L2 L vL go (.cells #[.int .i64 0, .int .i64 d, .int .i64 v] 28 (0, 0)) W) → W.cell? ⟨go, 1, none⟩ = some (.int .i64 d) ∧ W.cell? ⟨go, 2, none⟩ = some (.int .i64 v) := fun W hW => by
          obtain ⟨sl9, y1, y2, y3, y4⟩ := hW.out
          exact ⟨cell_of_heap y4 rfl, cell_of_heap y4 rfl⟩
        have W1 : ∀ k, Hid (Fr (fun _ => False) wa (wa.drewN k)) := fun k => (Fr.refl _ _).drewN k
        have W2 : Hid (Fr (fun _ => False) wa wa.drew) := (Fr.refl _ _).drew
        clear her hL2
        go_upto_region 11 with (fail)
        go_region_held_law (fun w' => w'.cell? ⟨go, 1, none⟩ = some (.int .i64 d) ∧ w'.cell? ⟨go, 2, none⟩ = some (.int .i64 v)) (first | exact ⟨o1, o2⟩ | exact Q1 _ X2 | exact ⟨cell_of_heap X3.out.2 rfl, cell_of_heap X3.out.2 rfl⟩) (first | (go_at_call 10; refine (K1 _ (by first | exact W2 | exact W1 _)).mono ?_; rintro e w2 ⟨rfl, X2⟩) | (go_at_call 11; refine (K2 _ (by first | exact X2)).mono ?_; rintro e w3 ⟨rfl, X3⟩))
        have HT3 : Hid (TwW base w g mb g2 N L2 w3) := X3.out.1
        have HO3 : Hid (w3.heap[go]? = some (.cells #[.int .i64 0, .int .i64 d, .int .i64 v] 28 (0, 0))) := X3.out.2
        clear K1 K2 Q1 W1 W2 X2 X3 o0 o1 o2 HO HA HR
        obtain ⟨sl3, vL3, ha3, hr3, hf3⟩ := HT3.out
        have HT3w : Hid (WAt base w3 g mb sl3 N L2) := ha3
        have HT3r : Hid (RWA base w3 g2 N L2 vL3) := hr3
        have HT3f : Hid (Fr (fun k => base ≤ k) w w3) := hf3
        have hbd : N < 1000000000000000000 := by omega
        have KL := qLeft_in ha3 d i1 hbd
        have KR := rqLeft_in hr3 d hbd
        obtain ⟨p, hp⟩ : ∃ p, (leftT N L2 d).1 = p := ⟨_, rfl⟩
        obtain ⟨q, hq⟩ : ∃ q, (leftT N L2 d).2 = q := ⟨_, rfl⟩
        rw [hp, hq] at KL KR
        have q1 : w3.cell? ⟨go, 1, none⟩ = some (.int .i64 d) := cell_of_heap HO3.out rfl
        clear hp hq ha3 hr3 hf3 HT3
        go_upto_region 21 with (first
          | (go_at_call 17; refine KL.mono ?_; clear KL; rintro e w' ⟨rfl, rfl⟩)
          | (go_at_call 18; refine KR.mono ?_; clear KR; rintro e w4 ⟨rfl, f4⟩; have F4 : Hid (Fr (fun _ => False) w3 w4) := f4; clear f4))
        have HA4 : Hid (WAt base w4 g mb sl3 N L2) := HT3w.out.later F4.out
        have HR4 : Hid (RWA base w4 g2 N L2 vL3) := HT3r.out.later F4.out
        obtain ⟨va, vc, hv3, -⟩ := HR4.out.row.form
        obtain ⟨len, hlen⟩ : ∃ len, L2.length = len := ⟨_, rfl⟩
        rw [hlen] at hv3
        obtain ⟨r0, r1⟩ := HR4.out.cells
        rw [hv3] at r1
        have KW : Hid (∀ k, Calls Try.prog 19 #[.pointer (some ⟨g, 0, none⟩)] (w4.drewN k) fun e w' => e = .returned (.int .i64 (N : Nat)) ∧ w' = w4.drewN k) := fun k => (qNow_in (HA4.out.later ((Fr.refl _ _).drewN k))).mono (fun e w' h => ⟨h.1, h.2.symm⟩)
        have KE : Hid (∀ k, Calls Try.prog 20 #[.pointer (some ⟨g, 0, none⟩)] (w4.drewN k) fun e w' => e = .returned (.int .i64 (len : Nat)) ∧ w' = w4.drewN k) := fun k => (qLen_in (HA4.out.later ((Fr.refl _ _).drewN k))).mono (fun e w' h => ⟨by rw [← hlen]; exact h.1, h.2.symm⟩)
        have HEND : Hid (TwW base w g mb g2 N L2 w4) := ⟨sl3, vL3, HA4.out, HR4.out, HT3f.out.trans (F4.out.mono (fun _ _ e => e.elim))⟩
        clear q1 hv3 hlen
        go_quiet (first | (go_at_call 19; exact Calls.quiet_of_same (KW.out _)) | (go_at_call 20; exact Calls.quiet_of_same (KE.out _)))
        go_wp2_with (fail)
        go_roundw
        case rel => exact ⟨i + 1, N, L2, by go_num, by omega, by omega, HEND.out.later ((Fr.refl _ _).drewN _)⟩
        case measure => simp [intOf]; omega
      have hw02 : (wh == 0) = false := by rw [beq_eq_false_iff_ne]; exact hw0
      by_cases hw1 : wh = 1
      · subst hw1
        obtain ⟨L2, hL2⟩ : ∃ L2, (cancelT L d).2 = L2 := ⟨_, rfl⟩
        obtain ⟨er, her⟩ : ∃ er, (cancelT L d).1 = er := ⟨_, rfl⟩
        have K1 : ∀ W, Hid (Fr (fun _ => False) wa W) → Calls Try.prog 12 #[.pointer (some ⟨g, 0, none⟩), .int .i64 d] W fun e w' => e = .returned (.int .i64 er) ∧ Hid (MdW base w g mb g2 N N L2 L vL go (.cells #[.int .i64 1, .int .i64 d, .int .i64 v] 28 (0, 0)) w') := fun W hW => by
          have hWo := (hW.out.block go (lt_of_heap HO.out) id).trans HO.out
          refine (qCancel_in (HA.out.later hW.out) (Nat.le_trans HBa.out hW.out.size) hNb d i1).mono ?_
          rw [hL2, her]
          rintro e w' ⟨rfl, hp⟩
          exact ⟨rfl, one_md (HA.out.later hW.out) (HR.out.later hW.out) (HFa.out.trans (hW.out.mono (fun _ _ e => e.elim))) hWo HNB.out.1 hp⟩
        have K2 : ∀ W, Hid (MdW base w g mb g2 N N L2 L vL go (.cells #[.int .i64 1, .int .i64 d, .int .i64 v] 28 (0, 0)) W) → Calls Try.prog 13 #[.pointer (some ⟨g2, 0, none⟩), .int .i64 d] W fun e w' => e = .returned (.int .i64 er) ∧ Hid (TwW base w g mb g2 N L2 w' ∧ w'.heap[go]? = some (.cells #[.int .i64 1, .int .i64 d, .int .i64 v] 28 (0, 0))) := fun W hW => by
          obtain ⟨sl9, y1, y2, y3, y4⟩ := hW.out
          have KK := rqCancel_in y2 (Nat.le_trans HBa2.out y3.size) d
          rw [hL2, her] at KK
          refine KK.mono ?_
          rintro e w' ⟨rfl, hp⟩
          exact ⟨rfl, md_two hW.out HNB.out.2 hp⟩
        have Q1 : ∀ W, Hid (MdW base w g mb g2 N N L2 L vL go (.cells #[.int .i64 1, .int .i64 d, .int .i64 v] 28 (0, 0)) W) → W.cell? ⟨go, 1, none⟩ = some (.int .i64 d) ∧ W.cell? ⟨go, 2, none⟩ = some (.int .i64 v) := fun W hW => by
          obtain ⟨sl9, y1, y2, y3, y4⟩ := hW.out
          exact ⟨cell_of_heap y4 rfl, cell_of_heap y4 rfl⟩
        have W1 : ∀ k, Hid (Fr (fun _ => False) wa (wa.drewN k)) := fun k => (Fr.refl _ _).drewN k
        have W2 : Hid (Fr (fun _ => False) wa wa.drew) := (Fr.refl _ _).drew
        clear her hL2
        go_upto_region 14 with (fail)
        go_region_held_law (fun w' => w'.cell? ⟨go, 1, none⟩ = some (.int .i64 d) ∧ w'.cell? ⟨go, 2, none⟩ = some (.int .i64 v)) (first | exact ⟨o1, o2⟩ | exact Q1 _ X2 | exact ⟨cell_of_heap X3.out.2 rfl, cell_of_heap X3.out.2 rfl⟩) (first | (go_at_call 12; refine (K1 _ (by first | exact W2 | exact W1 _)).mono ?_; rintro e w2 ⟨rfl, X2⟩) | (go_at_call 13; refine (K2 _ (by first | exact X2)).mono ?_; rintro e w3 ⟨rfl, X3⟩))
        have HT3 : Hid (TwW base w g mb g2 N L2 w3) := X3.out.1
        have HO3 : Hid (w3.heap[go]? = some (.cells #[.int .i64 1, .int .i64 d, .int .i64 v] 28 (0, 0))) := X3.out.2
        clear K1 K2 Q1 W1 W2 X2 X3 o0 o1 o2 HO HA HR
        obtain ⟨sl3, vL3, ha3, hr3, hf3⟩ := HT3.out
        have HT3w : Hid (WAt base w3 g mb sl3 N L2) := ha3
        have HT3r : Hid (RWA base w3 g2 N L2 vL3) := hr3
        have HT3f : Hid (Fr (fun k => base ≤ k) w w3) := hf3
        have hbd : N < 1000000000000000000 := by omega
        have KL := qLeft_in ha3 d i1 hbd
        have KR := rqLeft_in hr3 d hbd
        obtain ⟨p, hp⟩ : ∃ p, (leftT N L2 d).1 = p := ⟨_, rfl⟩
        obtain ⟨q, hq⟩ : ∃ q, (leftT N L2 d).2 = q := ⟨_, rfl⟩
        rw [hp, hq] at KL KR
        have q1 : w3.cell? ⟨go, 1, none⟩ = some (.int .i64 d) := cell_of_heap HO3.out rfl
        clear hp hq ha3 hr3 hf3 HT3
        go_upto_region 21 with (first
          | (go_at_call 17; refine KL.mono ?_; clear KL; rintro e w' ⟨rfl, rfl⟩)
          | (go_at_call 18; refine KR.mono ?_; clear KR; rintro e w4 ⟨rfl, f4⟩; have F4 : Hid (Fr (fun _ => False) w3 w4) := f4; clear f4))
        have HA4 : Hid (WAt base w4 g mb sl3 N L2) := HT3w.out.later F4.out
        have HR4 : Hid (RWA base w4 g2 N L2 vL3) := HT3r.out.later F4.out
        obtain ⟨va, vc, hv3, -⟩ := HR4.out.row.form
        obtain ⟨len, hlen⟩ : ∃ len, L2.length = len := ⟨_, rfl⟩
        rw [hlen] at hv3
        obtain ⟨r0, r1⟩ := HR4.out.cells
        rw [hv3] at r1
        have KW : Hid (∀ k, Calls Try.prog 19 #[.pointer (some ⟨g, 0, none⟩)] (w4.drewN k) fun e w' => e = .returned (.int .i64 (N : Nat)) ∧ w' = w4.drewN k) := fun k => (qNow_in (HA4.out.later ((Fr.refl _ _).drewN k))).mono (fun e w' h => ⟨h.1, h.2.symm⟩)
        have KE : Hid (∀ k, Calls Try.prog 20 #[.pointer (some ⟨g, 0, none⟩)] (w4.drewN k) fun e w' => e = .returned (.int .i64 (len : Nat)) ∧ w' = w4.drewN k) := fun k => (qLen_in (HA4.out.later ((Fr.refl _ _).drewN k))).mono (fun e w' h => ⟨by rw [← hlen]; exact h.1, h.2.symm⟩)
        have HEND : Hid (TwW base w g mb g2 N L2 w4) := ⟨sl3, vL3, HA4.out, HR4.out, HT3f.out.trans (F4.out.mono (fun _ _ e => e.elim))⟩
        clear q1 hv3 hlen
        go_quiet (first | (go_at_call 19; exact Calls.quiet_of_same (KW.out _)) | (go_at_call 20; exact Calls.quiet_of_same (KE.out _)))
        go_wp2_with (fail)
        go_roundw
        case rel => exact ⟨i + 1, N, L2, by go_num, by omega, by omega, HEND.out.later ((Fr.refl _ _).drewN _)⟩
        case measure => simp [intOf]; omega
      have hw12 : (wh == 1) = false := by rw [beq_eq_false_iff_ne]; exact hw1
      by_cases hw2 : wh = 2
      · subst hw2
        have KT := qTick_in HA.out HBa.out hNb
        have KT1 : Calls Try.prog 15 #[.pointer (some ⟨g, 0, none⟩)] wa fun e w' => ∃ ta tm tc, e = .returned (.slice ta tm tc) ∧ Hid (OwnAt w' 3 (.slice ta tm tc) (iv (dueT N L)) ∧ (∀ k, (Value.slice ta tm tc).ownBlock = some k → wa.heap.size ≤ k) ∧ MdW base w g mb g2 (N + 1) N (restT N L) L vL go (.cells #[.int .i64 2, .int .i64 d, .int .i64 v] 28 (0, 0)) w') := by
          refine KT.mono ?_
          rintro e w' ⟨ta, tm, tc, rfl, h5, h6, h7⟩
          exact ⟨ta, tm, tc, rfl, h5, h6, one_md HA.out HR.out HFa.out HO.out HNB.out.1 h7⟩
        clear KT
        have hdf : Hid ((dueT N L).length ≤ 4096) := by
          have h1 := HA.out.2.few
          show _ ≤ _
          unfold dueT
          rw [List.length_map]
          have h2 := List.length_filter_le (fun x : Int × Int => decide (x.2 = (N : Int) + 1)) L
          omega
        go_upto_region 19 with (first
          | (go_at_call 15; refine KT1.mono ?_; clear KT1; rintro e w2 ⟨ta, tm, tc, rfl, X2⟩; have KT2 : Calls Try.prog 16 #[.pointer (some ⟨g2, 0, none⟩)] w2 fun e w' => ∃ ra rm rc, e = .returned (.slice ra rm rc) ∧ Hid (OwnAt w' 3 (.slice ra rm rc) (iv (dueT N L)) ∧ OwnAt w' 3 (.slice ta tm tc) (iv (dueT N L)) ∧ TwW base w g mb g2 (N + 1) (restT N L) w' ∧ w'.heap[go]? = some (.cells #[.int .i64 2, .int .i64 d, .int .i64 v] 28 (0, 0))) := (two_tick HR.out HBa2.out hNb HNB.out.2 X2.out))
          | (go_at_call 16; refine KT2.mono ?_; clear KT2; rintro e w5 ⟨ra, rm, rc, rfl, X5⟩; have KI := qints_in ta ra tc rc tm rm (dueT N L) w5 X5.out.2.1 X5.out.1 hdf.out)
          | (go_at_call 14; refine KI.mono ?_; clear KI; rintro e w3 ⟨rfl, f3⟩; have HT3 : Hid (TwW base w g mb g2 (N + 1) (restT N L) w3) := X5.out.2.2.1.later f3; have HO3 : Hid (w3.heap[go]? = some (.cells #[.int .i64 2, .int .i64 d, .int .i64 v] 28 (0, 0))) := (f3.block go (lt_of_heap X5.out.2.2.2) id).trans X5.out.2.2.2; clear f3 X5 X2))
        obtain ⟨L2, hL2⟩ : ∃ L2, restT N L = L2 := ⟨_, rfl⟩
        rw [hL2] at HT3
        clear hL2 o0 o1 o2 HO HA HR
        obtain ⟨sl3, vL3, ha3, hr3, hf3⟩ := HT3.out
        have HT3w : Hid (WAt base w3 g mb sl3 (N + 1) L2) := ha3
        have HT3r : Hid (RWA base w3 g2 (N + 1) L2 vL3) := hr3
        have HT3f : Hid (Fr (fun k => base ≤ k) w w3) := hf3
        have hbd : (N + 1) < 1000000000000000000 := by omega
        have KL := qLeft_in ha3 d i1 hbd
        have KR := rqLeft_in hr3 d hbd
        obtain ⟨p, hp⟩ : ∃ p, (leftT (N + 1) L2 d).1 = p := ⟨_, rfl⟩
        obtain ⟨q, hq⟩ : ∃ q, (leftT (N + 1) L2 d).2 = q := ⟨_, rfl⟩
        rw [hp, hq] at KL KR
        have q1 : w3.cell? ⟨go, 1, none⟩ = some (.int .i64 d) := cell_of_heap HO3.out rfl
        clear hp hq ha3 hr3 hf3 HT3
        go_upto_region 21 with (first
          | (go_at_call 17; refine KL.mono ?_; clear KL; rintro e w' ⟨rfl, rfl⟩)
          | (go_at_call 18; refine KR.mono ?_; clear KR; rintro e w4 ⟨rfl, f4⟩; have F4 : Hid (Fr (fun _ => False) w3 w4) := f4; clear f4))
        have HA4 : Hid (WAt base w4 g mb sl3 (N + 1) L2) := HT3w.out.later F4.out
        have HR4 : Hid (RWA base w4 g2 (N + 1) L2 vL3) := HT3r.out.later F4.out
        obtain ⟨va, vc, hv3, -⟩ := HR4.out.row.form
        obtain ⟨len, hlen⟩ : ∃ len, L2.length = len := ⟨_, rfl⟩
        rw [hlen] at hv3
        obtain ⟨r0, r1⟩ := HR4.out.cells
        rw [hv3] at r1
        have KW : Hid (∀ k, Calls Try.prog 19 #[.pointer (some ⟨g, 0, none⟩)] (w4.drewN k) fun e w' => e = .returned (.int .i64 ((N + 1) : Nat)) ∧ w' = w4.drewN k) := fun k => (qNow_in (HA4.out.later ((Fr.refl _ _).drewN k))).mono (fun e w' h => ⟨h.1, h.2.symm⟩)
        have KE : Hid (∀ k, Calls Try.prog 20 #[.pointer (some ⟨g, 0, none⟩)] (w4.drewN k) fun e w' => e = .returned (.int .i64 (len : Nat)) ∧ w' = w4.drewN k) := fun k => (qLen_in (HA4.out.later ((Fr.refl _ _).drewN k))).mono (fun e w' h => ⟨by rw [← hlen]; exact h.1, h.2.symm⟩)
        have HEND : Hid (TwW base w g mb g2 (N + 1) L2 w4) := ⟨sl3, vL3, HA4.out, HR4.out, HT3f.out.trans (F4.out.mono (fun _ _ e => e.elim))⟩
        clear q1 hv3 hlen
        go_quiet (first | (go_at_call 19; exact Calls.quiet_of_same (KW.out _)) | (go_at_call 20; exact Calls.quiet_of_same (KE.out _)))
        go_wp2_with (fail)
        go_roundw
        case rel => exact ⟨i + 1, (N + 1), L2, by go_num, by omega, by omega, HEND.out.later ((Fr.refl _ _).drewN _)⟩
        case measure => simp [intOf]; omega
      have hw22 : (wh == 2) = false := by rw [beq_eq_false_iff_ne]; exact hw2
      · have HT3 : Hid (TwW base w g mb g2 N L wa) := ⟨sl, vL, HA.out, HR.out, HFa.out⟩
        obtain ⟨w3, hw3⟩ : ∃ w3, w3 = wa := ⟨_, rfl⟩
        have HO3 : Hid (w3.heap[go]? = some (.cells #[.int .i64 wh, .int .i64 d, .int .i64 v] 28 (0, 0))) := by rw [hw3]; exact HO.out
        rw [← hw3] at HT3
        go_upto_region 19 with (fail)
        rw [← hw3]
        clear hw3 o0 o1 o2 HO HA HR
        obtain ⟨sl3, vL3, ha3, hr3, hf3⟩ := HT3.out
        have HT3w : Hid (WAt base w3 g mb sl3 N L) := ha3
        have HT3r : Hid (RWA base w3 g2 N L vL3) := hr3
        have HT3f : Hid (Fr (fun k => base ≤ k) w w3) := hf3
        have hbd : N < 1000000000000000000 := by omega
        have KL := qLeft_in ha3 d i1 hbd
        have KR := rqLeft_in hr3 d hbd
        obtain ⟨p, hp⟩ : ∃ p, (leftT N L d).1 = p := ⟨_, rfl⟩
        obtain ⟨q, hq⟩ : ∃ q, (leftT N L d).2 = q := ⟨_, rfl⟩
        rw [hp, hq] at KL KR
        have q1 : w3.cell? ⟨go, 1, none⟩ = some (.int .i64 d) := cell_of_heap HO3.out rfl
        clear hp hq ha3 hr3 hf3 HT3
        go_upto_region 21 with (first
          | (go_at_call 17; refine KL.mono ?_; clear KL; rintro e w' ⟨rfl, rfl⟩)
          | (go_at_call 18; refine KR.mono ?_; clear KR; rintro e w4 ⟨rfl, f4⟩; have F4 : Hid (Fr (fun _ => False) w3 w4) := f4; clear f4))
        have HA4 : Hid (WAt base w4 g mb sl3 N L) := HT3w.out.later F4.out
        have HR4 : Hid (RWA base w4 g2 N L vL3) := HT3r.out.later F4.out
        obtain ⟨va, vc, hv3, -⟩ := HR4.out.row.form
        obtain ⟨len, hlen⟩ : ∃ len, L.length = len := ⟨_, rfl⟩
        rw [hlen] at hv3
        obtain ⟨r0, r1⟩ := HR4.out.cells
        rw [hv3] at r1
        have KW : Hid (∀ k, Calls Try.prog 19 #[.pointer (some ⟨g, 0, none⟩)] (w4.drewN k) fun e w' => e = .returned (.int .i64 (N : Nat)) ∧ w' = w4.drewN k) := fun k => (qNow_in (HA4.out.later ((Fr.refl _ _).drewN k))).mono (fun e w' h => ⟨h.1, h.2.symm⟩)
        have KE : Hid (∀ k, Calls Try.prog 20 #[.pointer (some ⟨g, 0, none⟩)] (w4.drewN k) fun e w' => e = .returned (.int .i64 (len : Nat)) ∧ w' = w4.drewN k) := fun k => (qLen_in (HA4.out.later ((Fr.refl _ _).drewN k))).mono (fun e w' h => ⟨by rw [← hlen]; exact h.1, h.2.symm⟩)
        have HEND : Hid (TwW base w g mb g2 N L w4) := ⟨sl3, vL3, HA4.out, HR4.out, HT3f.out.trans (F4.out.mono (fun _ _ e => e.elim))⟩
        clear q1 hv3 hlen
        go_quiet (first | (go_at_call 19; exact Calls.quiet_of_same (KW.out _)) | (go_at_call 20; exact Calls.quiet_of_same (KE.out _)))
        go_wp2_with (fail)
        go_roundw
        case rel => exact ⟨i + 1, N, L, by go_num, by omega, by omega, HEND.out.later ((Fr.refl _ _).drewN _)⟩
        case measure => simp [intOf]; omega
    · obtain rfl : m = i := by omega
      go_wp2_with (go_at_call 21; refine (qawake_in _).mono ?_; rintro e w6 ⟨rfl, hf6⟩)
      go_ret
      obtain ⟨_, _, _, _, f9⟩ := HS.out
      exact ⟨rfl, (f9.trans (hf6.mono (fun _ _ e => e.elim))).below (fun k hk e => by have h1 := HB.out; have h2 : base ≤ k := e; omega)⟩
end Go.Proofs.Ytldedlphamcehaa
