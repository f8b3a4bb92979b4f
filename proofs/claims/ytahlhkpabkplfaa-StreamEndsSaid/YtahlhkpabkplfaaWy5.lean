/- The walk of StreamEnds. -/
import Derived.Test.YtahlhkpabkplfaaVp
import Derived.Test.YtahlhkpabkplfaaLt
import Derived.Deep.Cut
namespace Go.Proofs.Ytahlhkpabkplfaa
open Go.RowKit Go.Maps
set_option linter.unusedVariables false
set_option maxRecDepth 100000
set_option maxHeartbeats 4000000

/-- What an end's streams keep under a script. -/
structure EndS (sv : Bool) (most : Nat) (last : Int) (S : Stm) : Prop where
  sv : S.server = sv
  most : S.most = most
  last : S.ours = last
theorem EndS.peer {sv : Bool} {most : Nat} {last : Int} {S : Stm} (h : EndS sv most last S) (d : Int) : EndS sv most last (peerS S d).2.2 := by
  unfold peerS
  split
  · exact h
  · split
    · exact ⟨h.sv, h.most, h.last⟩
    · exact ⟨h.sv, h.most, h.last⟩
theorem EndS.limit {sv : Bool} {most : Nat} {last : Int} {S : Stm} (h : EndS sv most last S) (d : Int) : EndS sv most last (limitS S d).2 := by
  unfold limitS
  split
  · exact h
  · exact ⟨h.sv, h.most, h.last⟩
theorem EndS.turn {sv : Bool} {most : Nat} {last : Int} {S : Stm} (h : EndS sv most last S) (d n wh : Int) : EndS sv most last (turnS S d n wh) := by
  unfold turnS
  split
  · exact h
  · split
    · split
      · exact ⟨h.sv, h.most, h.last⟩
      · exact ⟨h.sv, h.most, h.last⟩
    · exact ⟨h.sv, h.most, h.last⟩
theorem EndS.doing {sv : Bool} {most : Nat} {last : Int} {S : Stm} (h : EndS sv most last S) (d wh : Int) : EndS sv most last (doS S d wh).2 := by
  unfold doS
  split
  · exact h
  · split
    · exact h
    · split
      · exact h
      · split
        · exact h
        · split
          · exact h
          · exact h.turn _ _ _
theorem EndS.play {sv : Bool} {most : Nat} {last : Int} {S : Stm} (h : EndS sv most last S) (o : Int × Int × Int) (h1 : ¬ o.1 = 1) : EndS sv most last (playS S o) := by
  unfold playS
  split
  · exact h.peer _
  · split
    · exact h.doing _ _
    · exact h.limit _
theorem EndS.own {sv : Bool} {most : Nat} {last : Int} {S : Stm} (h : EndS sv most last S) (he : (ownO S).2.1 = 0) : EndS sv most (nextS S) (ownO S).2.2 := by
  unfold ownO at he ⊢
  split at he
  · cases he
  · split at he
    · cases he
    · rename_i h1 h2
      rw [if_neg h1, if_neg h2]
      exact ⟨h.sv, h.most, rfl⟩
theorem closed_play {S : Stm} (h : InvS S) (o : Int × Int × Int) (n : Int) (hc : stateS S n = 4) : stateS (playS S o) n = 4 := by
  unfold playS
  split
  · exact closed_peer h _ _ hc
  · split
    · exact closed_own h _ hc
    · split
      · exact closed_do h _ _ _ hc
      · exact closed_limit _ _ hc
/-- The state of StreamEnds' loop. -/
def EndL (base : Nat) (w : World) (g mb g' : Nat) (sv : Bool) (most N : Nat) (cl : Bool) (last : Int) (wr : World) : Prop :=
  ∃ (S R : Stm) (vL vG : Value), YAt wr g mb S ∧ RAt base wr g' R vL vG ∧ Fr (fun k => base ≤ k) w wr ∧ EndS sv most last S ∧ (cl = true → stateS S N = 4)
theorem ends_walk (sv : Bool) (most b : Nat) (q : Option Addr) (c m : Nat) (L : List (Int × Int × Int)) (w : World) (hmo : most ≤ 255) (hb8 : b ≤ 255) (hI : Ops10 w q c L) (hl : L.length = m) : Calls Try.prog 5 #[.bool sv, .int .u8 (most : Int), .slice q m c, .int .u8 (b : Int)] w fun e w' => e = .returned (.bool true) ∧ Below w.heap.size w w' := by
  have KN := yNew_in sv (most : Int) w (by omega) (by omega)
  obtain ⟨g, hg⟩ : ∃ g, g = w.heap.size + 1 := ⟨_, rfl⟩
  obtain ⟨mb, hmb⟩ : ∃ mb, mb = w.heap.size := ⟨_, rfl⟩
  obtain ⟨base, hbase⟩ : ∃ base, base = w.heap.size := ⟨_, rfl⟩
  rw [← hg] at KN
  have KN2 : Calls Try.prog 12 #[.bool sv, .int .i64 (most : Int)] w fun e w' => e = .returned (.tuple #[.pointer (some ⟨g, 0, none⟩), .int .i64 0]) ∧ Hid (YAt w' g mb (newS sv most) ∧ Fr (fun _ => False) w w') := by
    refine KN.mono ?_
    rintro e w' ⟨rfl, y1, f1, -⟩
    rw [hmb]
    exact ⟨rfl, y1, f1⟩
  clear KN
  obtain ⟨N, hN⟩ : ∃ N, N = 1 + b % 20 := ⟨_, rfl⟩
  have hN2 : (1 : Int) + (b : Int) % 20 = (N : Int) := by omega
  have hN3 : N ≤ 20 := by omega
  have HI : Hid (Ops10 w q c L) := hI
  have HL : Hid (L.length = m) := hl
  have hmb2 : (m : Int) ≤ 9000000000000000000 := by have := hI.few; rw [hl] at this; have h2 : reachBytes < 2 ^ 47 := reach_lt; omega
  have HG : Hid (g = w.heap.size + 1 ∧ mb = w.heap.size ∧ base = w.heap.size) := ⟨hg, hmb, hbase⟩
  clear hg hmb hbase hI hl hN
  go_enter Try.func5, Try.ntmps5
  go_upto_region 2 with (go_at_call 12; refine KN2.mono ?_; clear KN2; rintro e w1 ⟨rfl, Y1⟩)
  have hb1 : base ≤ w1.heap.size := by rw [HG.out.2.2]; exact Y1.out.2.size
  have KR := ryNew_in base sv (most : Int) w1 (by omega) (by omega) hb1
  obtain ⟨g', hg'⟩ : ∃ g', g' = w1.heap.size := ⟨_, rfl⟩
  rw [← hg'] at KR
  clear hg' hb1
  go_wp2_with (go_at_call 13; refine KR.mono ?_; clear KR; rintro e w2 ⟨rfl, r2, f2⟩)
  have HS0 : Hid (EndL base w g mb g' sv most N false 0 w2) := ⟨newS sv most, newS sv most, _, _, Y1.out.1.fr f2 id id, r2, (Y1.out.2.trans f2).mono (fun _ _ e => e.elim), ⟨rfl, rfl, rfl⟩, fun h => by cases h⟩
  clear Y1 r2 f2
  go_loopw [13, 14, 16] (fun x13 x14 x16 wr => ∃ (i : Nat) (cl : Bool) (last : Int), x13 = .bool cl ∧ x14 = .int .i64 last ∧ x16 = .int .i64 (i : Int) ∧ i ≤ m ∧ Hid (EndL base w g mb g' sv most N cl last wr)) (fun _ _ x16 _ => m - (intOf x16).toNat)
  case atStart => exact ⟨0, false, 0, rfl, rfl, rfl, by omega, HS0.out⟩
  case round =>
    clear HS0
    obtain ⟨i, cl, last, rfl, rfl, rfl, hin, HS⟩ := hrel
    by_cases hlt : i < m
    · have hlt2 : (i : Int) < (m : Int) := by omega
      obtain ⟨⟨wh, d, n⟩, ho⟩ : ∃ o, L[i]? = some o := ⟨L[i]'(by rw [HL.out]; exact hlt), List.getElem?_eq_getElem _⟩
      obtain ⟨gq, oq, rfl, hgq, a0, a1, a2, i0, i1, i2⟩ := HI.out.cells i _ ho
      dsimp only at a0 a1 a2 i0 i1 i2
      obtain ⟨S, R, vL, vG, y0, r0, f0, es, hcl⟩ := HS.out
      have hgb : ¬ base ≤ gq := by have := HG.out; omega
      have k0 : wr.cell? ⟨gq, oq + i * 3, none⟩ = some (.int .i64 wh) := (f0.cell (p := ⟨gq, _, none⟩) hgq hgb).trans a0
      have k1 : wr.cell? ⟨gq, oq + i * 3 + 1, none⟩ = some (.int .i64 d) := (f0.cell (p := ⟨gq, _, none⟩) hgq hgb).trans a1
      have k2 : wr.cell? ⟨gq, oq + i * 3 + 2, none⟩ = some (.int .i64 n) := (f0.cell (p := ⟨gq, _, none⟩) hgq hgb).trans a2
      have HE : Hid (YAt wr g mb S ∧ RAt base wr g' R vL vG ∧ Fr (fun k => base ≤ k) w wr ∧ EndS sv most last S ∧ (cl = true → stateS S N = 4)) := ⟨y0, r0, f0, es, hcl⟩
      clear ho hgq a0 a1 a2 y0 r0 f0 es hcl HS hgb
      go_upto_region 12 with (fail)
      obtain ⟨w3, hw3⟩ : ∃ w3, w3 = wr.alloc (.cells #[.int .i64 wh, .int .i64 d, .int .i64 n] 38) := ⟨_, rfl⟩
      have F3 : Hid (Fr (fun _ => False) wr w3) := by rw [hw3]; exact (Fr.refl _ _).alloc _
      have O3 : Hid (w3.heap[wr.heap.size]? = some (.cells #[.int .i64 wh, .int .i64 d, .int .i64 n] 38 (0, 0))) := by rw [hw3]; exact heap_alloc_new _ _
      rw [← hw3]
      clear hw3 k0 k1 k2
      obtain ⟨k0, k1, k2⟩ := block_cells O3.out
      have Y3 : Hid (YAt w3 g mb S) := HE.out.1.fr F3.out id id
      have R3 : Hid (RAt base w3 g' R vL vG) := HE.out.2.1.later F3.out
      have G3 : Hid (Fr (fun k => base ≤ k) w w3) := HE.out.2.2.1.trans (F3.out.mono (fun _ _ e => e.elim))
      have HBB : Hid (base ≤ g ∧ base ≤ mb) := by have := HG.out; show _ ∧ _; omega
      have ES : Hid (EndS sv most last S ∧ (cl = true → stateS S N = 4)) := HE.out.2.2.2
      by_cases hw : wh = 1
      · subst hw
        have KO := yOwn_in g mb S w3 Y3.out
        have hno := next_own Y3.out.inv
        have hou := Y3.out.inv.ou
        by_cases hq : (ownO S).2.1 = 0
        · obtain ⟨ek, -⟩ := own_ok hq
          rw [ek, hq] at KO
          have E5 : Hid (EndS sv most (nextS S) (ownO S).2.2 ∧ (cl = true → stateS (ownO S).2.2 N = 4)) := ⟨ES.out.1.own hq, fun h => closed_own Y3.out.inv _ (ES.out.2 h)⟩
          rw [ES.out.1.last] at hno hou
          rw [ES.out.1.sv] at hno
          obtain ⟨kk, hkk⟩ : ∃ kk, nextS S = kk := ⟨_, rfl⟩
          rw [hkk] at KO hno E5
          have hpar : (kk % 2 == 0) = sv := by
            have := hno.1
            unfold ownS at this
            exact (beq_iff_eq.1 this)
          have hk1 : last < kk := hno.2
          have hk2 : 1 ≤ kk := by omega
          clear ek hq hkk hno hou
          go_upto_region 19 with (go_at_call 16; refine KO.mono ?_; clear KO; rintro e w5 ⟨rfl, y5, f5⟩)
          have HT : Hid (YAt w5 g mb (ownO S).2.2 ∧ EndS sv most kk (ownO S).2.2 ∧ (cl = true → stateS (ownO S).2.2 N = 4)) := ⟨y5, E5.out⟩
          have HU : Hid (RAt base w5 g' R vL vG ∧ Fr (fun k => base ≤ k) w w5) := ⟨R3.out.past Y3.out f5, G3.out.trans (f5.mono (fun k _ e => by have := HBB.out; show base ≤ k; omega))⟩
          clear y5 f5 k0 k1 k2 hpar
          obtain ⟨T, hT⟩ : ∃ T, T = (ownO S).2.2 := ⟨_, rfl⟩
          rw [← hT] at HT
          obtain ⟨z, hz⟩ : ∃ z, stateS T N = z := ⟨_, rfl⟩
          have KS := yState_in g mb T N w5 HT.out.1 ⟨by omega, by omega⟩
          rw [hz] at KS
          obtain ⟨oc, hoc⟩ : ∃ oc : Bool → Nat, oc = openS T := ⟨_, rfl⟩
          have hoc0 : ((oc false : Nat) : Int) ≤ (most : Int) := by rw [hoc]; have h1 := HT.out.1.inv.peers; rw [HT.out.2.1.most] at h1; exact h1
          have hoc1 : ((oc true : Nat) : Int) ≤ 1024 := by rw [hoc]; have h1 := HT.out.1.inv.owns; omega
          have K8 : ∀ own, Calls Try.prog 18 #[.pointer (some ⟨g, 0, none⟩), .bool own] w5 fun e w' => e = .returned (.int .i64 (oc own : Nat)) ∧ w5 = w' := fun own => by rw [hoc]; exact yOpen_in g mb T own w5 HT.out.1
          have K9 := yLast_in g mb T w5 HT.out.1
          obtain ⟨th, hth⟩ : ∃ th, T.theirs = th := ⟨_, rfl⟩
          have hth0 : 0 ≤ th := by rw [← hth]; exact HT.out.1.inv.th.1
          rw [hth] at K9
          have HZ : Hid (stateS T N = z) := hz
          have HN : Hid (∀ cl', (cl' = true → z = 4) → EndL base w g mb g' sv most N cl' kk w5) := fun cl' hc => ⟨T, _, _, _, HT.out.1, HU.out.1, HU.out.2, HT.out.2.1, fun h => by rw [HZ.out]; exact hc h⟩
          have hcz : cl = true → z = 4 := fun h => by rw [← HZ.out]; exact HT.out.2.2 h
          clear hz hoc hth hT
          cases cl
          · go_wp2_with (first | (go_at_call 17; refine KS.mono ?_; clear KS; rintro e w' ⟨rfl, rfl⟩) | (go_at_call 18; refine (K8 _).mono ?_; rintro e w' ⟨rfl, rfl⟩) | (go_at_call 19; refine K9.mono ?_; clear K9; rintro e w' ⟨rfl, rfl⟩))
            go_roundw
            case rel => exact ⟨i + 1, (z == 4), kk, rfl, rfl, by go_num, by omega, HN.out _ (fun h => by simpa using h)⟩
            case measure => simp [intOf]; omega
          · obtain rfl := hcz rfl
            go_wp2_with (first | (go_at_call 17; refine KS.mono ?_; clear KS; rintro e w' ⟨rfl, rfl⟩) | (go_at_call 18; refine (K8 _).mono ?_; rintro e w' ⟨rfl, rfl⟩) | (go_at_call 19; refine K9.mono ?_; clear K9; rintro e w' ⟨rfl, rfl⟩))
            go_roundw
            case rel => exact ⟨i + 1, true, kk, rfl, rfl, by go_num, by omega, HN.out _ (fun _ => (by first | rfl | trivial))⟩
            case measure => simp [intOf]; omega
        · have E5 : Hid (EndS sv most last (ownO S).2.2 ∧ (cl = true → stateS (ownO S).2.2 N = 4)) := by rw [own_not hq]; exact ES.out
          obtain ⟨qq, hqq⟩ : ∃ qq, (ownO S).2.1 = qq := ⟨_, rfl⟩
          obtain ⟨pp, hpp⟩ : ∃ pp, (ownO S).1 = pp := ⟨_, rfl⟩
          rw [hqq] at hq
          rw [hqq, hpp] at KO
          have hq2 : (qq == 0) = false := by simpa using hq
          clear hqq hpp hno hou hq
          go_upto_region 19 with (go_at_call 16; refine KO.mono ?_; clear KO; rintro e w5 ⟨rfl, y5, f5⟩)
          have HT : Hid (YAt w5 g mb (ownO S).2.2 ∧ EndS sv most last (ownO S).2.2 ∧ (cl = true → stateS (ownO S).2.2 N = 4)) := ⟨y5, E5.out⟩
          have HU : Hid (RAt base w5 g' R vL vG ∧ Fr (fun k => base ≤ k) w w5) := ⟨R3.out.past Y3.out f5, G3.out.trans (f5.mono (fun k _ e => by have := HBB.out; show base ≤ k; omega))⟩
          clear y5 f5 k0 k1 k2
          obtain ⟨T, hT⟩ : ∃ T, T = (ownO S).2.2 := ⟨_, rfl⟩
          rw [← hT] at HT
          obtain ⟨z, hz⟩ : ∃ z, stateS T N = z := ⟨_, rfl⟩
          have KS := yState_in g mb T N w5 HT.out.1 ⟨by omega, by omega⟩
          rw [hz] at KS
          obtain ⟨oc, hoc⟩ : ∃ oc : Bool → Nat, oc = openS T := ⟨_, rfl⟩
          have hoc0 : ((oc false : Nat) : Int) ≤ (most : Int) := by rw [hoc]; have h1 := HT.out.1.inv.peers; rw [HT.out.2.1.most] at h1; exact h1
          have hoc1 : ((oc true : Nat) : Int) ≤ 1024 := by rw [hoc]; have h1 := HT.out.1.inv.owns; omega
          have K8 : ∀ own, Calls Try.prog 18 #[.pointer (some ⟨g, 0, none⟩), .bool own] w5 fun e w' => e = .returned (.int .i64 (oc own : Nat)) ∧ w5 = w' := fun own => by rw [hoc]; exact yOpen_in g mb T own w5 HT.out.1
          have K9 := yLast_in g mb T w5 HT.out.1
          obtain ⟨th, hth⟩ : ∃ th, T.theirs = th := ⟨_, rfl⟩
          have hth0 : 0 ≤ th := by rw [← hth]; exact HT.out.1.inv.th.1
          rw [hth] at K9
          have HZ : Hid (stateS T N = z) := hz
          have HN : Hid (∀ cl', (cl' = true → z = 4) → EndL base w g mb g' sv most N cl' last w5) := fun cl' hc => ⟨T, _, _, _, HT.out.1, HU.out.1, HU.out.2, HT.out.2.1, fun h => by rw [HZ.out]; exact hc h⟩
          have hcz : cl = true → z = 4 := fun h => by rw [← HZ.out]; exact HT.out.2.2 h
          clear hz hoc hth hT
          cases cl
          · go_wp2_with (first | (go_at_call 17; refine KS.mono ?_; clear KS; rintro e w' ⟨rfl, rfl⟩) | (go_at_call 18; refine (K8 _).mono ?_; rintro e w' ⟨rfl, rfl⟩) | (go_at_call 19; refine K9.mono ?_; clear K9; rintro e w' ⟨rfl, rfl⟩))
            go_roundw
            case rel => exact ⟨i + 1, (z == 4), last, rfl, rfl, by go_num, by omega, HN.out _ (fun h => by simpa using h)⟩
            case measure => simp [intOf]; omega
          · obtain rfl := hcz rfl
            go_wp2_with (first | (go_at_call 17; refine KS.mono ?_; clear KS; rintro e w' ⟨rfl, rfl⟩) | (go_at_call 18; refine (K8 _).mono ?_; rintro e w' ⟨rfl, rfl⟩) | (go_at_call 19; refine K9.mono ?_; clear K9; rintro e w' ⟨rfl, rfl⟩))
            go_roundw
            case rel => exact ⟨i + 1, true, last, rfl, rfl, by go_num, by omega, HN.out _ (fun _ => (by first | rfl | trivial))⟩
            case measure => simp [intOf]; omega
      · have KA := yplayA_in base g mb g' S R vL vG (wh, d, n) w3 Y3.out R3.out HBB.out (by have h1 := HG.out; have h2 := G3.out.size; omega) hw
        dsimp only at KA
        have hw2 : (wh == 1) = false := by simpa using hw
        have E5 : Hid (EndS sv most last (playS S (wh, d, n)) ∧ (cl = true → stateS (playS S (wh, d, n)) N = 4)) := ⟨ES.out.1.play _ hw, fun h => closed_play Y3.out.inv _ _ (ES.out.2 h)⟩
        go_upto_region 19 with (go_at_call 14; refine KA.mono ?_; clear KA; rintro e w5 ⟨⟨bb, rfl⟩, y5, uL, uG, a5, f5⟩)
        have HT : Hid (YAt w5 g mb (playS S (wh, d, n)) ∧ EndS sv most last (playS S (wh, d, n)) ∧ (cl = true → stateS (playS S (wh, d, n)) N = 4)) := ⟨y5, E5.out⟩
        have HU : Hid (RAt base w5 g' (playS R (wh, d, n)) uL uG ∧ Fr (fun k => base ≤ k) w w5) := ⟨a5, G3.out.trans f5⟩
        clear y5 f5 a5 k0 k1 k2
        obtain ⟨T, hT⟩ : ∃ T, T = playS S (wh, d, n) := ⟨_, rfl⟩
        rw [← hT] at HT
        obtain ⟨z, hz⟩ : ∃ z, stateS T N = z := ⟨_, rfl⟩
        have KS := yState_in g mb T N w5 HT.out.1 ⟨by omega, by omega⟩
        rw [hz] at KS
        obtain ⟨oc, hoc⟩ : ∃ oc : Bool → Nat, oc = openS T := ⟨_, rfl⟩
        have hoc0 : ((oc false : Nat) : Int) ≤ (most : Int) := by rw [hoc]; have h1 := HT.out.1.inv.peers; rw [HT.out.2.1.most] at h1; exact h1
        have hoc1 : ((oc true : Nat) : Int) ≤ 1024 := by rw [hoc]; have h1 := HT.out.1.inv.owns; omega
        have K8 : ∀ own, Calls Try.prog 18 #[.pointer (some ⟨g, 0, none⟩), .bool own] w5 fun e w' => e = .returned (.int .i64 (oc own : Nat)) ∧ w5 = w' := fun own => by rw [hoc]; exact yOpen_in g mb T own w5 HT.out.1
        have K9 := yLast_in g mb T w5 HT.out.1
        obtain ⟨th, hth⟩ : ∃ th, T.theirs = th := ⟨_, rfl⟩
        have hth0 : 0 ≤ th := by rw [← hth]; exact HT.out.1.inv.th.1
        rw [hth] at K9
        have HZ : Hid (stateS T N = z) := hz
        have HN : Hid (∀ cl', (cl' = true → z = 4) → EndL base w g mb g' sv most N cl' last w5) := fun cl' hc => ⟨T, _, _, _, HT.out.1, HU.out.1, HU.out.2, HT.out.2.1, fun h => by rw [HZ.out]; exact hc h⟩
        have hcz : cl = true → z = 4 := fun h => by rw [← HZ.out]; exact HT.out.2.2 h
        clear hz hoc hth hT
        cases cl
        · go_wp2_with (first | (go_at_call 17; refine KS.mono ?_; clear KS; rintro e w' ⟨rfl, rfl⟩) | (go_at_call 18; refine (K8 _).mono ?_; rintro e w' ⟨rfl, rfl⟩) | (go_at_call 19; refine K9.mono ?_; clear K9; rintro e w' ⟨rfl, rfl⟩))
          go_roundw
          case rel => exact ⟨i + 1, (z == 4), last, rfl, rfl, by go_num, by omega, HN.out _ (fun h => by simpa using h)⟩
          case measure => simp [intOf]; omega
        · obtain rfl := hcz rfl
          go_wp2_with (first | (go_at_call 17; refine KS.mono ?_; clear KS; rintro e w' ⟨rfl, rfl⟩) | (go_at_call 18; refine (K8 _).mono ?_; rintro e w' ⟨rfl, rfl⟩) | (go_at_call 19; refine K9.mono ?_; clear K9; rintro e w' ⟨rfl, rfl⟩))
          go_roundw
          case rel => exact ⟨i + 1, true, last, rfl, rfl, by go_num, by omega, HN.out _ (fun _ => (by first | rfl | trivial))⟩
          case measure => simp [intOf]; omega
    · go_wp2_with (go_at_call 11; refine (yawake_in _).mono ?_; rintro e w6 ⟨rfl, hf6⟩)
      go_ret
      obtain ⟨S, R, vL, vG, y0, r0, f0, -⟩ := HS.out
      exact ⟨rfl, (f0.trans (hf6.mono (fun _ _ e => e.elim))).below (fun k hk e => by have h1 := HG.out; have h2 : base ≤ k := e; omega)⟩
end Go.Proofs.Ytahlhkpabkplfaa
