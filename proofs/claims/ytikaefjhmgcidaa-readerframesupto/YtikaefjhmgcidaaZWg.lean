/- The walk of ReaderFrames. -/
import Derived.Test.YtikaefjhmgcidaaZTo
import Derived.Test.YtikaefjhmgcidaaZL9
import Derived.Test.YtikaefjhmgcidaaZTn
import Derived.Test.YtikaefjhmgcidaaZWc
import Derived.Test.YtikaefjhmgcidaaZMXp
import Derived.BigQuiet
import Derived.Deep.CutRange
namespace Go.Proofs.Ytikaefjhmgcidaa
open Go.RowKit
set_option linter.unusedVariables false
set_option maxRecDepth 100000
set_option maxHeartbeats 4000000

theorem FrIn.fits {w : World} {f : Fra} {p q : Option Addr} {cq : Nat} (hI : FrIn w f p q cq) : Fits f := ⟨hI.code, fun s hs => by
  obtain ⟨i, hi⟩ := List.mem_iff_getElem?.1 hs
  obtain ⟨_, _, _, _, _, _, _, h⟩ := hI.sets.cells i s hi
  exact h⟩
/-- Where the reading stands. -/
structure RedS (w : World) (unk : List UInt8) (g : Nat) (B : List UInt8) (ob : Option Nat) (M : Nat) (aw : Option Addr) (nw cw : Nat) (segs : List (Fra × Bool)) (ws : List FM) (i : Nat) (wr : World) : Prop where
  rd : Rdr wr g 16384 B ⟨false, 0, 0⟩ ob M
  nx : nextR 16384 B ⟨false, 0, 0⟩ = nextR 16384 (flatS unk (segs.drop i)) ⟨false, 0, 0⟩
  fl : wr.ownsRow 0 36 12 (.slice aw nw cw) ws.length (frows ws)
  av : ∀ k, (Value.slice aw nw cw).ownBlock = some k → k ≠ g ∧ ob ≠ some k ∧ w.heap.size ≤ k
  ng : w.heap.size ≤ g
  no : ∀ k, ob = some k → w.heap.size ≤ k
  fr : Fr (fun _ => False) w wr
theorem RedS.later {w : World} {unk : List UInt8} {g : Nat} {B : List UInt8} {ob : Option Nat} {M : Nat} {aw : Option Addr} {nw cw : Nat} {segs : List (Fra × Bool)} {ws : List FM} {i : Nat} {wr w2 : World} (h : RedS w unk g B ob M aw nw cw segs ws i wr) (hf : Fr (fun _ => False) wr w2) : RedS w unk g B ob M aw nw cw segs ws i w2 :=
  { h with rd := h.rd.later hf, fl := row_fr h.fl hf (fun _ _ => id), fr := h.fr.trans hf }
theorem RedS.step {w : World} {unk : List UInt8} {g : Nat} {B B' : List UInt8} {ob ob' : Option Nat} {M M' : Nat} {aw : Option Addr} {nw cw : Nat} {segs : List (Fra × Bool)} {ws : List FM} {i i' : Nat} {wr w2 : World} (h : RedS w unk g B ob M aw nw cw segs ws i wr) (hr : Rdr w2 g 16384 B' ⟨false, 0, 0⟩ ob' M') (hx : nextR 16384 B' ⟨false, 0, 0⟩ = nextR 16384 (flatS unk (segs.drop i')) ⟨false, 0, 0⟩) (hf : Fr (fun k => k = g) wr w2) (ho : ob' = ob ∨ ∃ k, ob' = some k ∧ wr.heap.size ≤ k) : RedS w unk g B' ob' M' aw nw cw segs ws i' w2 := by
  have hz := h.fr.size
  refine ⟨hr, hx, row_fr h.fl hf (fun k hk => (h.av k hk).1), fun k hk => ⟨(h.av k hk).1, ?_, (h.av k hk).2.2⟩, h.ng, fun k hk => ?_, ?_⟩
  · rcases ho with e | ⟨j, hj, hj2⟩
    · rw [e]; exact (h.av k hk).2.1
    · rw [hj]; intro e; cases e; have := (row_lt h.fl k hk).1; omega
  · rcases ho with e | ⟨j, hj, hj2⟩
    · exact h.no k (e ▸ hk)
    · rw [hj] at hk; cases hk; omega
  · exact ((h.fr.mono (T := fun k => w.heap.size ≤ k) (fun _ _ e => e.elim)).trans (hf.mono (fun k _ e => by rw [e]; exact h.ng))).mono (fun k hk e => by omega)

theorem frames_walk (lq : Option Addr) (lc : Nat) (ls : List FM) (ua : Option Addr) (ul uc : Nat) (U : List UInt8) (w : World) (hL : FrsAt w lq lc ls) (hU : SrcAt w ua U) (hUl : U.length = ul) (hUb : ul ≤ 1048576) :
    Calls Try.prog 5 #[.slice lq ls.length lc, .slice ua ul uc] w fun e w' => e = .returned (.bool true) ∧ Below w.heap.size w w' := by
  obtain ⟨u0, hu0⟩ : ∃ u0, U.getD 0 0 = u0 := ⟨_, rfl⟩
  obtain ⟨kk, hkk⟩ : ∃ kk : UInt8, UInt8.ofNat (10 + u0.toNat % 200) = kk := ⟨_, rfl⟩
  have HKK : Hid (10 ≤ kk.toNat ∧ kk.toNat = 10 + u0.toNat % 200) := by
    have h1 : kk.toNat = 10 + u0.toNat % 200 := by rw [← hkk]; simp; omega
    exact ⟨by omega, h1⟩
  obtain ⟨unk, hunk⟩ : ∃ unk : List UInt8, unk = [0, 0, 0, kk, u0, 0, 0, 0, 1] := ⟨_, rfl⟩
  have HUNK : Hid (unk = [0, 0, 0, kk, u0, 0, 0, 0, 1]) := hunk
  have HUL9 : Hid (unk.length = 9) := by rw [hunk]; rfl
  have HL : Hid (FrsAt w lq lc ls) := hL
  have HLF : ls.length ≤ 1048576 := hL.few
  have HUC : Hid (0 < ul → ∃ ad, ua = some ad ∧ ∀ w', Fr (fun _ => False) w w' → w'.cell? ad = some (.int .u8 u0.toNat)) := fun h => by
    obtain ⟨ad, e, hc⟩ := hU 0 u0 (by rw [← hu0]; exact getD_some U 0 (by omega))
    have h0 : ad.add 0 = ad := by simp [Addr.add]
    rw [h0] at hc
    exact ⟨ad, e, fun w' hf => (hf.cell (World.block_lt_of_cell? _ _ hc) id).trans hc⟩
  obtain ⟨N, hN⟩ : ∃ N, ls.length = N := ⟨_, rfl⟩
  have HN : Hid (ls.length = N) := hN
  rw [hN] at HLF ⊢
  obtain ⟨fi0, f1, f2, f3, f4⟩ := infoF
  have IF : Hid (Try.prog.info? 36 = some fi0 ∧ fi0.zero = some (.agg #[.int .i64 0, .int .i64 0, .int .i64 0, .slice none 0 0, .int .i64 0, .int .u32 0, .int .i64 0, .int .i64 0, .int .i64 0, .bool false, .int .i64 0, .slice none 0 0]) ∧ fi0.size = 12 ∧ fi0.bytes = 128) := ⟨f1, f2, f3, f4⟩
  obtain ⟨bi, b1, b2, b3, b4⟩ := info5
  have IB : Hid (Try.prog.info? 5 = some bi ∧ bi.zero = some (.int .u8 0) ∧ bi.size = 1 ∧ bi.bytes = 1) := ⟨b1, b2, b3, b4⟩
  clear hL hU hUl hu0 hkk hunk hN f1 f2 f3 f4 b1 b2 b3 b4
  go_enter Try.func5, Try.ntmps5
  go_wp2_with (fail)
  go_loopw [5, 6, 7] (fun v5 v6 v7 wr => ∃ (i : Nat) (ab : Option Addr) (nb cb : Nat) (aw : Option Addr) (nw cw : Nat) (segs : List (Fra × Bool)) (ws : List FM), v5 = .slice ab nb cb ∧ v6 = .slice aw nw cw ∧ v7 = .int .i64 (i : Int) ∧ i ≤ N ∧ Hid (BldS w unk (.slice ab nb cb) (.slice aw nw cw) segs ws wr ∧ segs.length ≤ i)) (fun _ _ v7 _ => N - (intOf v7).toNat)
  case atStart => exact ⟨0, none, 0, 0, none, 0, 0, [], [], rfl, rfl, rfl, by omega, ⟨OwnAt.nil _ _, ⟨rfl, .inl ⟨rfl, rfl⟩⟩, fun k hk => (by simp [Value.ownBlock] at hk), fun k hk => (by simp [Value.ownBlock] at hk), Fr.refl _ _, rfl, fun s hs => (by simp at hs), fun z hz => (by simp at hz)⟩, by simp⟩
  case round =>
    obtain ⟨i, ab, nb, cb, aw, nw, cw, segs, ws, rfl, rfl, rfl, hi, HR⟩ := hrel
    by_cases hlt : i < N
    case pos =>
      have hlti : (i : Int) < (N : Int) := by omega
      obtain ⟨⟨f, p, cp, q, cq⟩, hz⟩ : ∃ z, ls[i]? = some z := ⟨_, List.getElem?_eq_getElem (by rw [HN.out]; exact hlt)⟩
      obtain ⟨g, o, rfl, hg, hcell, hin⟩ := HL.out.cells i _ hz
      have HIN : Hid (FrIn w f p q cq) := hin
      have HC : Hid (∀ w', Fr (fun _ => False) w w' → ∀ (j : Nat) u, (fcl (f, p, cp, q, cq))[j]? = some u → w'.cell? ⟨g, o + i * 12 + j, none⟩ = some u) := fun w' hf j u hj => (hf.cell (p := ⟨g, o + i * 12 + j, none⟩) hg id).trans (hcell j u hj)
      have KW := rWrite_in f p q cp cq wr (hin.later HR.out.1.fr)
      obtain ⟨⟨er, Bw⟩, hwr⟩ : ∃ o, writeO f = o := ⟨_, rfl⟩
      have HW : Hid (writeO f = (er, Bw)) := hwr
      rw [hwr] at KW
      clear hz hcell hin hwr
      have k0 : wr.cell? ⟨g, o + i * 12, none⟩ = some (.int .i64 f.k) := HC.out wr HR.out.1.fr 0 _ rfl
      have k1 : wr.cell? ⟨g, o + i * 12 + 1, none⟩ = some (.int .i64 f.fl) := HC.out wr HR.out.1.fr 1 _ rfl
      have k2 : wr.cell? ⟨g, o + i * 12 + 2, none⟩ = some (.int .i64 f.st) := HC.out wr HR.out.1.fr 2 _ rfl
      have k3 : wr.cell? ⟨g, o + i * 12 + 3, none⟩ = some (.slice p f.X.length cp) := HC.out wr HR.out.1.fr 3 _ rfl
      have k4 : wr.cell? ⟨g, o + i * 12 + 4, none⟩ = some (.int .i64 f.pad) := HC.out wr HR.out.1.fr 4 _ rfl
      have k5 : wr.cell? ⟨g, o + i * 12 + 5, none⟩ = some (.int .u32 f.code) := HC.out wr HR.out.1.fr 5 _ rfl
      have k6 : wr.cell? ⟨g, o + i * 12 + 6, none⟩ = some (.int .i64 f.last) := HC.out wr HR.out.1.fr 6 _ rfl
      have k7 : wr.cell? ⟨g, o + i * 12 + 7, none⟩ = some (.int .i64 f.inc) := HC.out wr HR.out.1.fr 7 _ rfl
      have k8 : wr.cell? ⟨g, o + i * 12 + 8, none⟩ = some (.int .i64 f.dep) := HC.out wr HR.out.1.fr 8 _ rfl
      have k9 : wr.cell? ⟨g, o + i * 12 + 9, none⟩ = some (.bool f.only) := HC.out wr HR.out.1.fr 9 _ rfl
      have k10 : wr.cell? ⟨g, o + i * 12 + 10, none⟩ = some (.int .i64 f.wt) := HC.out wr HR.out.1.fr 10 _ rfl
      have k11 : wr.cell? ⟨g, o + i * 12 + 11, none⟩ = some (.slice q f.Y.length cq) := HC.out wr HR.out.1.fr 11 _ rfl
      go_upto_region 7 with (first | (go_at_call 20; refine KW.mono ?_; clear KW; rintro e w1 ⟨xa, xn, xc, rfl, hxn, g1⟩; have G1 : Hid (Gath wr w1 (.slice xa xn xc) Bw ∧ Bw.length = xn) := ⟨g1, hxn⟩; clear g1 hxn))
      clear k0 k1 k2 k3 k4 k5 k6 k7 k8 k9 k10 k11
      have S1 : Hid (BldS w unk (.slice ab nb cb) (.slice aw nw cw) segs ws w1) := HR.out.1.later G1.out.1.2.2
      by_cases her : er = 0
      case neg =>
        have heb : (er == 0) = false := by simp [her]
        have hen : (er != 0) = true := by simp [her]
        have hed : decide (er = 0) = false := by simp [her]
        go_wp2_with (fail)
        go_roundw
        case rel => exact ⟨i + 1, ab, nb, cb, aw, nw, cw, segs, ws, rfl, rfl, by go_num, by omega, S1.out, by have := HR.out.2; omega⟩
        case measure => simp [intOf]; omega
      case pos =>
        subst her
        by_cases hxl : 16384 < xn
        case pos =>
          have hxi : (16384 : Int) < (xn : Int) := by omega
          have hxd : decide ((16384 : Int) < (xn : Int)) = true := decide_eq_true hxi
          go_wp2_with (fail)
          go_roundw
          case rel => exact ⟨i + 1, ab, nb, cb, aw, nw, cw, segs, ws, rfl, rfl, by go_num, by omega, S1.out, by have := HR.out.2; omega⟩
          case measure => simp [intOf]; omega
        case neg =>
          have hxi : ¬ (16384 : Int) < (xn : Int) := by omega
          have hxd : decide ((16384 : Int) < (xn : Int)) = false := decide_eq_false hxi
          have HSG : Hid (SegOk f) := ⟨HIN.out.fits, by rw [HW.out], by rw [HW.out]; have := G1.out.2; show Bw.length ≤ _; omega⟩
          have HLB : Hid ((flatS unk segs).length ≤ 1048576 * 16393) := by have h1 := flatS_len (unk := unk) (by rw [HUL9.out]; omega) S1.out.ok; have h2 := HR.out.2; show _ ≤ _; omega
          have HSL : Hid (ws.length ≤ 1048576) := by have h1 := congrArg List.length S1.out.mp; simp at h1; have h2 := HR.out.2; show _ ≤ _; omega
          go_upto_region 9 with (first | (refine wpList_append_bytes rfl (.tmp 40) (.tmp 41) 31 31 rfl 5 bi Try.underlying31 Try.underlying31 IB.out.1 IB.out.2.1 IB.out.2.2.1 IB.out.2.2.2 (.slice ab nb cb) (flatS unk segs) (by go_simp) S1.out.ob xa xn xc (by go_simp) Bw (own_src G1.out.1.1) G1.out.2 (by have := HLB.out; omega) ?_; intro a2 n2 c2 w2 N2 o2 F2 B2; have O2 : Hid (OwnAt w2 5 (.slice a2 n2 c2) (bv (flatS unk segs ++ Bw))) := o2; clear o2))
          have S2 : Hid (w2.ownsRow 0 36 12 (.slice aw nw cw) ws.length (frows ws) ∧ Fr (fun _ => False) w w2 ∧ (∀ k, (Value.slice a2 n2 c2).ownBlock = some k → w.heap.size ≤ k)) := ⟨row_fr S1.out.fl F2.out (fun k hk e => S1.out.apart k e hk), fr_new S1.out.fr F2.out S1.out.nb, new_own S1.out.fr.size S1.out.nb B2.out⟩
          have k0 : w2.cell? ⟨g, o + i * 12, none⟩ = some (.int .i64 f.k) := HC.out w2 S2.out.2.1 0 _ rfl
          have k1 : w2.cell? ⟨g, o + i * 12 + 1, none⟩ = some (.int .i64 f.fl) := HC.out w2 S2.out.2.1 1 _ rfl
          have k2 : w2.cell? ⟨g, o + i * 12 + 2, none⟩ = some (.int .i64 f.st) := HC.out w2 S2.out.2.1 2 _ rfl
          have k3 : w2.cell? ⟨g, o + i * 12 + 3, none⟩ = some (.slice p f.X.length cp) := HC.out w2 S2.out.2.1 3 _ rfl
          have k4 : w2.cell? ⟨g, o + i * 12 + 4, none⟩ = some (.int .i64 f.pad) := HC.out w2 S2.out.2.1 4 _ rfl
          have k5 : w2.cell? ⟨g, o + i * 12 + 5, none⟩ = some (.int .u32 f.code) := HC.out w2 S2.out.2.1 5 _ rfl
          have k6 : w2.cell? ⟨g, o + i * 12 + 6, none⟩ = some (.int .i64 f.last) := HC.out w2 S2.out.2.1 6 _ rfl
          have k7 : w2.cell? ⟨g, o + i * 12 + 7, none⟩ = some (.int .i64 f.inc) := HC.out w2 S2.out.2.1 7 _ rfl
          have k8 : w2.cell? ⟨g, o + i * 12 + 8, none⟩ = some (.int .i64 f.dep) := HC.out w2 S2.out.2.1 8 _ rfl
          have k9 : w2.cell? ⟨g, o + i * 12 + 9, none⟩ = some (.bool f.only) := HC.out w2 S2.out.2.1 9 _ rfl
          have k10 : w2.cell? ⟨g, o + i * 12 + 10, none⟩ = some (.int .i64 f.wt) := HC.out w2 S2.out.2.1 10 _ rfl
          have k11 : w2.cell? ⟨g, o + i * 12 + 11, none⟩ = some (.slice q f.Y.length cq) := HC.out w2 S2.out.2.1 11 _ rfl
          obtain ⟨w3, hw3⟩ : ∃ w3, w3 = w2.alloc (.cells #[.int .i64 f.k, .int .i64 f.fl, .int .i64 f.st, .slice p f.X.length cp, .int .i64 f.pad, .int .u32 f.code, .int .i64 f.last, .int .i64 f.inc, .int .i64 f.dep, .bool f.only, .int .i64 f.wt, .slice q f.Y.length cq] 36) := ⟨_, rfl⟩
          have B3 : Hid (w3.heap[w2.heap.size]? = some (.cells #[.int .i64 f.k, .int .i64 f.fl, .int .i64 f.st, .slice p f.X.length cp, .int .i64 f.pad, .int .u32 f.code, .int .i64 f.last, .int .i64 f.inc, .int .i64 f.dep, .bool f.only, .int .i64 f.wt, .slice q f.Y.length cq] 36 (0, 0)) ∧ Fr (fun _ => False) w2 w3) := by rw [hw3]; exact ⟨heap_alloc_new w2 _, (Fr.refl _ _).alloc _⟩
          have HNW : Hid (∀ (j : Nat) u, (fcl (f, p, cp, q, cq))[j]? = some u → w3.cell? ((⟨w2.heap.size, 0, none⟩ : Addr).add j) = some u) := fun j u hj => by
            rw [add_none, Nat.zero_add]; exact cell_of_heap B3.out.1 (by simpa [fcl] using hj)
          have HFL : Hid (w3.ownsRow 0 36 12 (.slice aw nw cw) ws.length (frows ws)) := row_fr S2.out.1 B3.out.2 (fun _ _ => id)
          have HBY : Hid (ws.length + 1 ≤ maxLen ∧ ((ws.length + 1) + (ws.length + 1) / 4 + 192) * 128 ≤ 281474976710656) := by have h1 := HSL.out; refine ⟨?_, ?_⟩; unfold maxLen; omega; omega
          go_upto_region 10 with (first | (rw [← hw3]; refine wpList_append_wide2 rfl (.tmp 43) (.tmp 48) 47 rfl 36 fi0 (.agg #[.int .i64 0, .int .i64 0, .int .i64 0, .slice none 0 0, .int .i64 0, .int .u32 0, .int .i64 0, .int .i64 0, .int .i64 0, .bool false, .int .i64 0, .slice none 0 0]) 12 128 Try.underlying47 IF.out.1 IF.out.2.1 IF.out.2.2.1 IF.out.2.2.2 rfl (by omega) (.slice aw nw cw) ws.length (frows ws) (by go_simp) HFL.out ⟨w2.heap.size, 0, none⟩ 1 1 (fcl (f, p, cp, q, cq)) (by go_simp) (by omega) rfl HNW.out (fcl_one _) HBY.out.1 HBY.out.2 ?_; intro a4 n4 c4 w4 N4 H4 F4 O4))
          clear hw3 k0 k1 k2 k3 k4 k5 k6 k7 k8 k9 k10 k11
          have F24 : Hid (Fr (fun k => (Value.slice aw nw cw).ownBlock = some k) w2 w4) := (B3.out.2.mono (fun _ _ e => e.elim)).trans F4.out
          have hap2 : ∀ k, (Value.slice a2 n2 c2).ownBlock = some k → ¬ (Value.slice aw nw cw).ownBlock = some k := fun k hk e => by
            obtain ⟨-, cur, hc⟩ := row_lt S2.out.1 k e
            rcases O2.out with ⟨hv, -⟩ | ⟨g', off, cap, cur', hv, hgg, -⟩
            · rw [hv] at hk; simp [Value.ownBlock] at hk
            · rw [hv] at hk; simp [Value.ownBlock] at hk; subst hk; rw [hc] at hgg; simp at hgg
          have O4b : Hid (OwnAt w4 5 (.slice a2 n2 c2) (bv (flatS unk segs ++ Bw))) := O2.out.fr F24.out hap2
          have HW4 : Hid (w4.ownsRow 0 36 12 (.slice a4 n4 c4) (ws ++ [(f, p, cp, q, cq)]).length (frows (ws ++ [(f, p, cp, q, cq)]))) := by show World.ownsRow _ _ _ _ _ _ _; rw [frows_snoc, List.length_append]; exact H4.out
          have HN4 : Hid (∀ k, (Value.slice a4 n4 c4).ownBlock = some k → w.heap.size ≤ k) := new_own (w := w) (wr := w3) (Nat.le_trans S2.out.2.1.size B3.out.2.size) S1.out.nw (by rcases O4.out with e | e; exact .inl e; exact .inr ⟨_, e, Nat.le_refl _⟩)
          have FW4 : Hid (Fr (fun _ => False) w w4) := fr_new S2.out.2.1 F24.out S1.out.nw
          have HMP : Hid (∀ b : Bool, (ws ++ [((f, p, cp, q, cq) : FM)]).map Prod.fst = (segs ++ [(f, b)]).map Prod.fst) := fun b => by rw [List.map_append, List.map_append, S1.out.mp]; rfl
          have HOK : Hid (∀ b : Bool, ∀ s ∈ segs ++ [(f, b)], SegOk s.1) := fun b s hs => by
            rcases List.mem_append.1 hs with h | h
            · exact S1.out.ok s h
            · rw [List.mem_singleton.1 h]; exact HSG.out
          have HZI : Hid (∀ z ∈ ws ++ [((f, p, cp, q, cq) : FM)], FrIn w z.1 z.2.1 z.2.2.2.1 z.2.2.2.2) := fun z hz => by
            rcases List.mem_append.1 hz with h | h
            · exact S1.out.zi z h
            · rw [List.mem_singleton.1 h]; exact HIN.out
          have HFS : Hid (flatS unk (segs ++ [(f, false)]) = flatS unk segs ++ Bw ∧ flatS unk (segs ++ [(f, true)]) = flatS unk segs ++ Bw ++ unk) := by
            show _ ∧ _
            rw [flatS_snoc, flatS_snoc]
            simp [segB, HW.out]
          by_cases hul : 0 < ul
          case neg =>
            have hui : ¬ (0 : Int) < (ul : Int) := by omega
            have hui2 : decide ((0 : Int) < (ul : Int)) = false := decide_eq_false hui
            go_wp2_with (fail)
            go_roundw
            case rel => exact ⟨i + 1, a2, n2, c2, a4, n4, c4, segs ++ [(f, false)], ws ++ [(f, p, cp, q, cq)], rfl, rfl, by go_num, by omega, ⟨by rw [HFS.out.1]; exact O4b.out, HW4.out, S2.out.2.2, HN4.out, FW4.out, HMP.out _, HOK.out _, HZI.out⟩, by have := HR.out.2; simp; omega⟩
            case measure => simp [intOf]; omega
          case pos =>
            have hui : (0 : Int) < (ul : Int) := by omega
            cases hev : ((i : Int) % 2 == 0)
            case false =>
              go_wp2_with (fail)
              go_roundw
              case rel => exact ⟨i + 1, a2, n2, c2, a4, n4, c4, segs ++ [(f, false)], ws ++ [(f, p, cp, q, cq)], rfl, rfl, by go_num, by omega, ⟨by rw [HFS.out.1]; exact O4b.out, HW4.out, S2.out.2.2, HN4.out, FW4.out, HMP.out _, HOK.out _, HZI.out⟩, by have := HR.out.2; simp; omega⟩
              case measure => simp [intOf]; omega
            case true =>
              obtain ⟨ad, rfl, huc⟩ := HUC.out hul
              have hu4 := huc w4 FW4.out
              have hub : u0.toNat < 256 := u0.toNat_lt
              have hkn := HKK.out.2
              have hwrap : IntKind.u8.wrap (10 + (u0.toNat : Int) % 200) = (kk.toNat : Int) := by rw [show IntKind.u8.wrap (10 + (u0.toNat : Int) % 200) = (10 + (u0.toNat : Int) % 200) % 256 from rfl]; omega
              have hwrap2 : (10 : Int) + (u0.toNat : Int) % 200 = (kk.toNat : Int) := by omega
              have htm : (u0.toNat : Int).tmod 200 = (u0.toNat : Int) % 200 := Int.tmod_eq_emod_of_nonneg (by omega)
              have hw256 : (10 + (u0.toNat : Int) % 200) % 256 = (kk.toNat : Int) := by omega
              have hwk : IntKind.u8.wrap (kk.toNat : Int) = (kk.toNat : Int) := by rw [show IntKind.u8.wrap (kk.toNat : Int) = (kk.toNat : Int) % 256 from rfl]; have := kk.toNat_lt; omega
              clear hkn
              go_wp2_with (fail)
              refine wp_region_held_drew (S := fun w2 => w2.cell? ad = some (.int .u8 u0.toNat)) (by kernel_rfl) hu4 (fun hHeld => ?_)
              refine wpAnyH_take (i := 0) (oi := _) (v := .slice a2 n2 c2) rfl (by kernel_rfl) (by kernel_rfl) (by kernel_rfl) (fun _ _ _ h => h) (Or.inl ⟨by kernel_rfl, fun w2 hw => by go_simp⟩) hHeld ?_
              refine wpAnyH_take (i := 1) (oi := _) (v := .slice (some ad) ul uc) rfl (by kernel_rfl) (by kernel_rfl) (by kernel_rfl) (fun _ _ _ h => h) (Or.inl ⟨by kernel_rfl, fun w2 hw => by go_simp⟩) hHeld ?_
              refine wpAnyH_take (i := 2) (oi := _) (v := .pointer (some ad)) rfl (by kernel_rfl) (by kernel_rfl) (by kernel_rfl) (fun _ _ _ h => h) (Or.inl ⟨by kernel_rfl, fun w2 hw => by go_simp⟩) hHeld ?_
              refine wpAnyH_take (i := 3) (oi := _) (v := .int .u8 (u0.toNat : Int)) rfl (by kernel_rfl) (by kernel_rfl) (by kernel_rfl) (fun _ _ _ h => h) (Or.inl ⟨by kernel_rfl, fun w2 hw => by go_simp⟩) hHeld ?_
              refine wpAnyH_take (i := 4) (oi := _) (v := .int .u8 ((u0.toNat : Int) % 200)) rfl (by kernel_rfl) (by kernel_rfl) (by kernel_rfl) (fun _ _ _ h => h) (Or.inl ⟨by kernel_rfl, fun w2 hw => by go_simp⟩) hHeld ?_
              refine wpAnyH_take (i := 5) (oi := _) (v := .int .u8 (kk.toNat : Int)) rfl (by kernel_rfl) (by kernel_rfl) (by kernel_rfl) (fun _ _ _ h => h) (Or.inl ⟨by kernel_rfl, fun w2 hw => by go_simp⟩) hHeld ?_
              refine wpAnyH_take (i := 6) (oi := _) (v := .slice (some ad) ul uc) rfl (by kernel_rfl) (by kernel_rfl) (by kernel_rfl) (fun _ _ _ h => h) (Or.inl ⟨by kernel_rfl, fun w2 hw => by go_simp⟩) hHeld ?_
              refine wpAnyH_take (i := 7) (oi := _) (v := .pointer (some ad)) rfl (by kernel_rfl) (by kernel_rfl) (by kernel_rfl) (fun _ _ _ h => h) (Or.inl ⟨by kernel_rfl, fun w2 hw => by go_simp⟩) hHeld ?_
              refine wpAnyH_take (i := 8) (oi := _) (v := .int .u8 (u0.toNat : Int)) rfl (by kernel_rfl) (by kernel_rfl) (by kernel_rfl) (fun _ _ _ h => h) (Or.inl ⟨by kernel_rfl, fun w2 hw => by go_simp⟩) hHeld ?_
              simp only [Act.put, List.getElem_toArray, List.getElem_cons_succ, List.getElem_cons_zero, List.setIfInBounds_toArray, List.set_cons_zero, List.set_cons_succ]
              obtain ⟨w5, hw5⟩ : ∃ w5, w5 = (w4.alloc (.cells (bv unk).toArray 5)).drew := ⟨_, rfl⟩
              have HROW : Hid ((#[.int .u8 0, .int .u8 0, .int .u8 0, .int .u8 (kk.toNat : Int), .int .u8 (u0.toNat : Int), .int .u8 0, .int .u8 0, .int .u8 0, .int .u8 1] : Array Value) = (bv unk).toArray) := by show _ = _; rw [HUNK.out]; rfl
              have F45 : Hid (Fr (fun _ => False) w4 w5 ∧ SrcAt w5 (some ⟨w4.heap.size, 0, none⟩) unk) := by rw [hw5]; exact ⟨((Fr.refl _ _).alloc _).drew, SrcAt.row (w := (w4.alloc (.cells (bv unk).toArray 5)).drew) (show (w4.alloc _).heap[w4.heap.size]? = _ from heap_alloc_new w4 _) 0⟩
              refine wpAnyH_ready (rs := [9]) (by kernel_rfl) (by simp) ?_
              refine AllReadyH.cons rfl (fun K hK => ?_) AllReadyH.nil
              go_simp
              rw [HROW.out, ← hw5]
              refine hK.out _ _ (huc _ (FW4.out.trans F45.out.1)) (fun _ => ?_)
              clear hK K
              clear hw5
              refine wpAnyH_ready (rs := [10]) (by kernel_rfl) (by simp) ?_
              refine AllReadyH.cons rfl (fun K hK => ?_) AllReadyH.nil
              refine step_append_bytes rfl (.tmp 58) (.tmp 67) 31 31 rfl 5 bi Try.underlying31 Try.underlying31 IB.out.1 IB.out.2.1 IB.out.2.2.1 IB.out.2.2.2 (.slice a2 n2 c2) (flatS unk segs ++ Bw) (by go_simp) (O4b.out.fr F45.out.1 (fun _ _ => id)) (some ⟨w4.heap.size, 0, none⟩) 9 9 (by go_simp) unk F45.out.2 HUL9.out (by have := HLB.out; have := G1.out.2; rw [List.length_append]; omega) ?_
              intro a6 n6 c6 w6 N6 O6 F6 B6
              have FW6 : Hid (Fr (fun _ => False) w w6) := fr_new (FW4.out.trans F45.out.1) F6.out S2.out.2.2
              refine hK.out _ _ (huc _ FW6.out) (fun hHeld6 => ?_)
              clear hK K
              refine wpAnyH_ready (rs := [11]) (by kernel_rfl) (by simp) ?_
              refine AllReadyH.cons rfl (fun K hK => ?_) AllReadyH.nil
              go_simp
              refine hK.out _ _ hHeld6 (fun _ => ?_)
              clear hK K
              refine wpAnyH_done (by kernel_rfl) ?_ _
              have hap6 : ∀ k, (Value.slice a4 n4 c4).ownBlock = some k → ¬ (Value.slice a2 n2 c2).ownBlock = some k := fun k hk e => by
                obtain ⟨-, cur, hc⟩ := row_lt HW4.out k hk
                rcases O4b.out with ⟨hv, -⟩ | ⟨g', off, cap, cur', hv, hgg, -⟩
                · rw [hv] at e; simp [Value.ownBlock] at e
                · rw [hv] at e; simp [Value.ownBlock] at e; subst e; rw [hc] at hgg; simp at hgg
              have S6 : Hid (BldS w unk (.slice a6 n6 c6) (.slice a4 n4 c4) (segs ++ [(f, true)]) (ws ++ [(f, p, cp, q, cq)]) w6) := ⟨by rw [HFS.out.2]; exact O6, row_fr (row_fr HW4.out F45.out.1 (fun _ _ => id)) F6.out (fun k hk => hap6 k hk), new_own (Nat.le_trans FW4.out.size F45.out.1.size) S2.out.2.2 B6.out, HN4.out, FW6.out, HMP.out _, HOK.out _, HZI.out⟩
              clear O6
              go_wp2_with (fail)
              go_roundw
              case rel => exact ⟨i + 1, a6, n6, c6, a4, n4, c4, segs ++ [(f, true)], ws ++ [(f, p, cp, q, cq)], rfl, rfl, by go_num, by omega, S6.out, by have := HR.out.2; simp; omega⟩
              case measure => simp [intOf]; omega
    case neg =>
      have hlti : ¬ (i : Int) < (N : Int) := by omega
      have HLB : Hid ((flatS unk segs).length ≤ 1048576 * 16393) := by have h1 := flatS_len (unk := unk) (by rw [HUL9.out]; omega) HR.out.1.ok; have h2 := HR.out.2; show _ ≤ _; omega
      have HNB : Hid ((flatS unk segs).length = nb) := (own_len HR.out.1.ob).1.symm
      have HNWL : Hid (nw = ws.length ∧ ws.length = segs.length) := ⟨(row_at HR.out.1.fl).1, by have h1 := congrArg List.length HR.out.1.mp; simpa using h1⟩
      go_upto_region 15 with (first | (go_at_call 8; refine (New_rdr 16384 _ (by omega) (by omega)).mono ?_; rintro e w1 ⟨rfl, r1, f1⟩; have R1 : Hid (Rdr w1 wr.heap.size 16384 [] ⟨false, 0, 0⟩ none 0 ∧ Fr (fun _ => False) wr w1) := ⟨r1, f1⟩; clear r1 f1))
      have KF := Feed_rdr wr.heap.size 16384 [] ⟨false, 0, 0⟩ none 0 ab nb cb (flatS unk segs) w1 R1.out.1 (by omega) rfl (own_src (HR.out.1.ob.fr R1.out.2 (fun _ _ => id))) HNB.out (by have := HLB.out; have := HNB.out; omega)
      obtain ⟨gr, hgr⟩ : ∃ gr, gr = wr.heap.size := ⟨_, rfl⟩
      have HGR : Hid (w.heap.size ≤ gr) := by rw [hgr]; exact HR.out.1.fr.size
      have HGW : Hid (∀ k, (Value.slice aw nw cw).ownBlock = some k → k < gr) := by rw [hgr]; exact fun k hk => (row_lt HR.out.1.fl k hk).1
      rw [← hgr] at KF R1 ⊢
      obtain ⟨M, hM⟩ : ∃ M, 0 + nb = M := ⟨_, rfl⟩
      have HMM : Hid (M ≤ 1048576 * 16393) := by have := HLB.out; have := HNB.out; show _ ≤ _; omega
      rw [hM] at KF
      have HGW1 : Hid (gr < w1.heap.size) := R1.out.1.lt.1
      clear hM hgr
      go_wp2_with (go_at_call 10; refine KF.mono ?_; clear KF; rintro e w2 ⟨rfl, ob2, r2, f2, o2⟩; have R2 : Hid (Rdr w2 gr 16384 ([] ++ flatS unk segs) ⟨false, 0, 0⟩ ob2 M ∧ Fr (fun k => k = gr ∨ none = some k) w1 w2 ∧ (ob2 = none ∨ ∃ k, ob2 = some k ∧ w1.heap.size ≤ k)) := ⟨r2, f2, o2⟩; clear r2 f2 o2)
      have S2 : Hid (RedS w unk gr (flatS unk segs) ob2 M aw nw cw segs ws 0 w2) := by
        have f2 : Fr (fun k => k = gr) w1 w2 := R2.out.2.1.mono (fun k _ e => by rcases e with e | e; exact e; cases e)
        have hz1 := R1.out.2.size
        have hz2 := HGW1.out
        refine ⟨by have := R2.out.1; rw [List.nil_append] at this; exact this, by simp, row_fr (row_fr HR.out.1.fl R1.out.2 (fun _ _ => id)) f2 (fun k hk => by have := HGW.out k hk; omega), fun k hk => ⟨by have := HGW.out k hk; omega, ?_, HR.out.1.nw k hk⟩, HGR.out, fun k hk => ?_, ?_⟩
        · intro e; have := HGW.out k hk; rcases R2.out.2.2 with e2 | ⟨j, hj, hj2⟩; rw [e2] at e; cases e; rw [hj] at e; cases e; omega
        · have := HGR.out; rcases R2.out.2.2 with e2 | ⟨j, hj, hj2⟩; rw [e2] at hk; cases hk; rw [hj] at hk; cases hk; omega
        · exact (((HR.out.1.fr.trans R1.out.2).mono (T := fun k => w.heap.size ≤ k) (fun _ _ e => e.elim)).trans (f2.mono (fun k _ e => by rw [e]; exact HGR.out))).mono (fun k hk e => by omega)
      have HB : Hid (ws.map Prod.fst = segs.map Prod.fst ∧ (∀ s ∈ segs, SegOk s.1) ∧ (∀ z ∈ ws, FrIn w z.1 z.2.1 z.2.2.2.1 z.2.2.2.2)) := ⟨HR.out.1.mp, HR.out.1.ok, HR.out.1.zi⟩
      obtain ⟨n, hn⟩ : ∃ n, nw = n := ⟨_, rfl⟩
      subst hn
      have hnw : nw ≤ 1048576 := by have := HNWL.out; have := HR.out.2; omega
      clear HR R1 R2
      rename World => wq
      go_loopw [12] (fun v12 wr => ∃ (k : Nat) (B : List UInt8) (ob : Option Nat), v12 = .int .i64 (k : Int) ∧ k ≤ nw ∧ Hid (RedS w unk gr B ob M aw nw cw segs ws k wr)) (fun v12 _ => nw - (intOf v12).toNat)
      case atStart => exact ⟨0, flatS unk segs, ob2, rfl, by omega, S2.out⟩
      case round =>
        rename World => wk
        obtain ⟨k, B, ob, rfl, hk, HK⟩ := hrel
        have KN := Next_in gr 16384 B ⟨false, 0, 0⟩ ob M wk HK.out.rd (by have := HMM.out; omega) (by omega) (by decide)
        rw [HK.out.nx] at KN
        by_cases hlt2 : k < nw
        case pos =>
          have hltk : (k : Int) < (nw : Int) := by omega
          obtain ⟨⟨f, p', cp', q', cq'⟩, hz⟩ : ∃ z, ws[k]? = some z := ⟨_, List.getElem?_eq_getElem (by have := HNWL.out; omega)⟩
          obtain ⟨bb, hs⟩ : ∃ bb, segs[k]? = some (f, bb) := by
            have h1 := congrArg (fun l => l[k]?) HB.out.1
            simp only [List.getElem?_map, hz, Option.map_some] at h1
            obtain ⟨s, hs, e⟩ := Option.map_eq_some_iff.1 h1.symm
            obtain ⟨f', bb⟩ := s
            cases e
            exact ⟨bb, hs⟩
          have hsd : segs.drop k = (f, bb) :: segs.drop (k + 1) := by
            have hl := (List.getElem?_eq_some_iff.1 hs).1
            rw [List.drop_eq_getElem_cons hl]
            congr 1
            have := List.getElem?_eq_getElem (l := segs) (i := k) hl
            rw [hs] at this
            exact (Option.some.inj this).symm
          have HSK : Hid (SegOk f) := HB.out.2.1 (f, bb) (List.mem_of_getElem? hs)
          have HIZ : Hid (FrIn w f p' q' cq') := HB.out.2.2 _ (List.mem_of_getElem? hz)
          rw [hsd, next_seg HSK.out] at KN
          have HNX : Hid (nextR 16384 ((if bb then unk else []) ++ flatS unk (segs.drop (k + 1))) ⟨false, 0, 0⟩ = nextR 16384 (flatS unk (segs.drop (k + 1))) ⟨false, 0, 0⟩) := by show _ = _; rw [HUNK.out]; exact next_pass HKK.out.1 bb _
          obtain ⟨B', hB'⟩ : ∃ B', (if bb then unk else []) ++ flatS unk (segs.drop (k + 1)) = B' := ⟨_, rfl⟩
          rw [hB'] at KN HNX
          obtain ⟨gf, hgf⟩ : ∃ gf, nf f = gf := ⟨_, rfl⟩
          have HGF : Hid (nf f = gf) := hgf
          rw [hgf] at KN
          clear hs hsd hB' hgf
          obtain ⟨gw, hgw, hrow⟩ : ∃ gw, aw = some ⟨gw, 0, none⟩ ∧ ∀ w' : World, w'.ownsRow 0 36 12 (.slice aw nw cw) ws.length (frows ws) → ∀ (j : Nat) u, (fcl (f, p', cp', q', cq'))[j]? = some u → w'.cell? ⟨gw, k * 12 + j, none⟩ = some u := by
            have hl := (List.getElem?_eq_some_iff.1 hz).1
            obtain ⟨gw, e, -⟩ := (row_at HK.out.fl).2 (by omega)
            refine ⟨gw, e, fun w' hr j u hj => ?_⟩
            obtain ⟨g2, e2, hc⟩ := (row_at hr).2 (by omega)
            rw [e] at e2; cases e2
            exact hc _ u (flat_at fcl 12 (fun z => rfl) ws k _ hz j u hj)
          subst hgw
          have HROWK : Hid (∀ w' : World, w'.ownsRow 0 36 12 (.slice (some ⟨gw, 0, none⟩) nw cw) ws.length (frows ws) → ∀ (j : Nat) u, (fcl (f, p', cp', q', cq'))[j]? = some u → w'.cell? ⟨gw, k * 12 + j, none⟩ = some u) := hrow
          clear hz hrow
          go_upto_region 20 with (first
            | (go_at_call 12; refine KN.mono ?_; clear KN; rintro e y1 ⟨p, cp, q, cq, o1, rfl, hs1, hy1, hp1, hq1, r1, f1, n1⟩; have T1 : Hid (RedS w unk gr B' o1 M (some ⟨gw, 0, none⟩) nw cw segs ws (k + 1) y1) := HK.out.step (r1.mono (Nat.min_le_left _ _)) HNX.out f1 n1; have P1 : Hid (SrcAt y1 p gf.X ∧ SetsAt y1 q cq gf.Y) := ⟨hs1, hy1⟩; clear hs1 hy1 hp1 hq1 r1 f1 n1)
            | (refine wpList_storeB rfl 36 (.tmp 13) (.tmp 87) rfl y1.heap.size #[.int .i64 0, .int .i64 0, .int .i64 0, .slice none 0 0, .int .i64 0, .int .u32 0, .int .i64 0, .int .i64 0, .int .i64 0, .bool false, .int .i64 0, .slice none 0 0] #[.int .i64 gf.k, .int .i64 gf.fl, .int .i64 gf.st, .slice p gf.X.length cp, .int .i64 gf.pad, .int .u32 gf.code, .int .i64 gf.last, .int .i64 gf.inc, .int .i64 gf.dep, .bool gf.only, .int .i64 gf.wt, .slice q gf.Y.length cq] 36 rfl rfl (past_at _ (heap_alloc_new y1 _)) rfl (by kernel_rfl) (by simp [Value.oneCell']) ?_; intro y2 H2 G2)
            | (refine wpList_storeB rfl 38 (.tmp 15) (.tmp 89) rfl (y1.heap.size + 1) #[.bool false, .int .i64 0, .int .i64 0] #[.bool false, .int .i64 0, .int .i64 0] 38 rfl rfl ((G2.out.block _ (by simp) (by omega)).trans (last_at _ (by simp))) rfl (by kernel_rfl) (by simp [Value.oneCell']) ?_; intro y3 H3 G3))
          have FF3 : Hid (Fr (fun _ => False) y1 y3) := ((((Fr.refl (fun k => k = y1.heap.size ∨ k = y1.heap.size + 1) _).alloc _).alloc _).trans ((G2.out.mono (fun _ _ e => .inl e)).trans (G3.out.mono (fun _ _ e => .inr e)))).mono (fun k hk e => by omega)
          have A3 : Hid (FAt y3 y1.heap.size gf p cp q cq) := (G3.out.block _ (lt_of_heap H2.out) (by omega)).trans H2.out
          have B3 : Hid (y3.heap[y1.heap.size + 1]? = some (.cells #[.bool false, .int .i64 0, .int .i64 0] 38 (0, 0))) := H3.out
          have T3 : Hid (RedS w unk gr B' o1 M (some ⟨gw, 0, none⟩) nw cw segs ws (k + 1) y3) := T1.out.later FF3.out
          clear H2 G2 H3 G3
          obtain ⟨HS, hHS⟩ : ∃ HS : World → Prop, HS = fun w2 => FAt w2 y1.heap.size gf p cp q cq ∧ w2.heap[y1.heap.size + 1]? = some (.cells #[.bool false, .int .i64 0, .int .i64 0] 38 (0, 0)) ∧ w2.ownsRow 0 36 12 (.slice (some ⟨gw, 0, none⟩) nw cw) ws.length (frows ws) := ⟨_, rfl⟩
          have HSD : Hid (∀ w2, HS w2 = (FAt w2 y1.heap.size gf p cp q cq ∧ w2.heap[y1.heap.size + 1]? = some (.cells #[.bool false, .int .i64 0, .int .i64 0] 38 (0, 0)) ∧ w2.ownsRow 0 36 12 (.slice (some ⟨gw, 0, none⟩) nw cw) ws.length (frows ws))) := fun w2 => by rw [hHS]
          have hS0 : HS y3 := by rw [HSD.out]; exact ⟨A3.out, B3.out, T3.out.fl⟩
          have HKE : Hid (∀ w2 w3, HS w2 → Fr (fun _ => False) w2 w3 → HS w3) := fun w2 w3 hs hf => by
            rw [HSD.out] at hs ⊢
            exact ⟨hs.1.later hf, (hf.block _ (lt_of_heap hs.2.1) id).trans hs.2.1, row_fr hs.2.2 hf (fun _ _ => id)⟩
          clear hHS
          refine wp_region_held_drew (S := HS) (by kernel_rfl) (HKE.out _ _ hS0 ((Fr.refl _ _).drew)) (fun hHeld => ?_)
          refine wpAnyH_take (i := 0) (oi := _) (v := .bool true) rfl (by kernel_rfl) (by kernel_rfl) (by kernel_rfl) (fun _ _ _ h => h) (Or.inl ⟨by kernel_rfl, fun w2 hw => by go_simp⟩) hHeld ?_
          refine wpAnyH_take (i := 1) (oi := _) (v := .bool false) rfl (by kernel_rfl) (by kernel_rfl) (by kernel_rfl) (fun _ _ _ h => h) (Or.inl ⟨by kernel_rfl, fun w2 hw => by go_simp⟩) hHeld ?_
          refine wpAnyH_take (i := 2) (oi := _) (v := .bool false) rfl (by kernel_rfl) (by kernel_rfl) (by kernel_rfl) (fun _ _ _ h => h) (Or.inl ⟨by kernel_rfl, fun w2 hw => by go_simp⟩) hHeld ?_
          refine wpAnyH_take (i := 3) (oi := _) (v := .pointer (some ⟨y1.heap.size + 1, 0, none⟩)) rfl (by kernel_rfl) (by kernel_rfl) (by kernel_rfl) (fun _ _ _ h => h) (Or.inl ⟨by kernel_rfl, fun w2 hw => by go_simp⟩) hHeld ?_
          refine wpAnyH_take (i := 4) (oi := _) (v := .bool false) rfl (by kernel_rfl) (by kernel_rfl) (by kernel_rfl) (fun _ _ _ h => h) (Or.inl ⟨by kernel_rfl, fun w2 hw => by rw [HSD.out] at hw; obtain ⟨d0, d1, d2⟩ := cells3 hw.2.1; go_simp⟩) hHeld ?_
          refine wpAnyH_take (i := 5) (oi := _) (v := .bool false) rfl (by kernel_rfl) (by kernel_rfl) (by kernel_rfl) (fun _ _ _ h => h) (Or.inl ⟨by kernel_rfl, fun w2 hw => by go_simp⟩) hHeld ?_
          refine wpAnyH_take (i := 6) (oi := _) (v := .bool false) rfl (by kernel_rfl) (by kernel_rfl) (by kernel_rfl) (fun _ _ _ h => h) (Or.inl ⟨by kernel_rfl, fun w2 hw => by go_simp⟩) hHeld ?_
          refine wpAnyH_take (i := 7) (oi := _) (v := .agg #[.int .i64 gf.k, .int .i64 gf.fl, .int .i64 gf.st, .slice p gf.X.length cp, .int .i64 gf.pad, .int .u32 gf.code, .int .i64 gf.last, .int .i64 gf.inc, .int .i64 gf.dep, .bool gf.only, .int .i64 gf.wt, .slice q gf.Y.length cq]) rfl (by kernel_rfl) (by kernel_rfl) (by kernel_rfl) (fun _ _ _ h => h) (Or.inl ⟨by kernel_rfl, fun w2 hw => by rw [HSD.out] at hw; obtain ⟨c0, c1, c2, c3, c4, c5, c6, c7, c8, c9, c10, c11⟩ := fcells hw.1; go_simp⟩) hHeld ?_
          refine wpAnyH_take (i := 8) (oi := _) (v := .slice (some ⟨gw, 0, none⟩) nw cw) rfl (by kernel_rfl) (by kernel_rfl) (by kernel_rfl) (fun _ _ _ h => h) (Or.inl ⟨by kernel_rfl, fun w2 hw => by go_simp⟩) hHeld ?_
          refine wpAnyH_take (i := 9) (oi := _) (v := .int .i64 (k : Int)) rfl (by kernel_rfl) (by kernel_rfl) (by kernel_rfl) (fun _ _ _ h => h) (Or.inl ⟨by kernel_rfl, fun w2 hw => by go_simp⟩) hHeld ?_
          refine wpAnyH_take (i := 10) (oi := _) (v := .pointer (some ⟨gw, k * 12, none⟩)) rfl (by kernel_rfl) (by kernel_rfl) (by kernel_rfl) (fun _ _ _ h => h) (Or.inl ⟨by kernel_rfl, fun w2 hw => by go_simp⟩) hHeld ?_
          refine wpAnyH_take (i := 11) (oi := _) (v := .agg #[.int .i64 f.k, .int .i64 f.fl, .int .i64 f.st, .slice p' f.X.length cp', .int .i64 f.pad, .int .u32 f.code, .int .i64 f.last, .int .i64 f.inc, .int .i64 f.dep, .bool f.only, .int .i64 f.wt, .slice q' f.Y.length cq']) rfl (by kernel_rfl) (by kernel_rfl) (by kernel_rfl) (fun _ _ _ h => h) (Or.inl ⟨by kernel_rfl, fun w2 hw => by rw [HSD.out] at hw; have c0 : w2.cell? ⟨gw, k * 12, none⟩ = some (.int .i64 f.k) := HROWK.out w2 hw.2.2 0 _ rfl; have c1 : w2.cell? ⟨gw, k * 12 + 1, none⟩ = some (.int .i64 f.fl) := HROWK.out w2 hw.2.2 1 _ rfl; have c2 : w2.cell? ⟨gw, k * 12 + 2, none⟩ = some (.int .i64 f.st) := HROWK.out w2 hw.2.2 2 _ rfl; have c3 : w2.cell? ⟨gw, k * 12 + 3, none⟩ = some (.slice p' f.X.length cp') := HROWK.out w2 hw.2.2 3 _ rfl; have c4 : w2.cell? ⟨gw, k * 12 + 4, none⟩ = some (.int .i64 f.pad) := HROWK.out w2 hw.2.2 4 _ rfl; have c5 : w2.cell? ⟨gw, k * 12 + 5, none⟩ = some (.int .u32 f.code) := HROWK.out w2 hw.2.2 5 _ rfl; have c6 : w2.cell? ⟨gw, k * 12 + 6, none⟩ = some (.int .i64 f.last) := HROWK.out w2 hw.2.2 6 _ rfl; have c7 : w2.cell? ⟨gw, k * 12 + 7, none⟩ = some (.int .i64 f.inc) := HROWK.out w2 hw.2.2 7 _ rfl; have c8 : w2.cell? ⟨gw, k * 12 + 8, none⟩ = some (.int .i64 f.dep) := HROWK.out w2 hw.2.2 8 _ rfl; have c9 : w2.cell? ⟨gw, k * 12 + 9, none⟩ = some (.bool f.only) := HROWK.out w2 hw.2.2 9 _ rfl; have c10 : w2.cell? ⟨gw, k * 12 + 10, none⟩ = some (.int .i64 f.wt) := HROWK.out w2 hw.2.2 10 _ rfl; have c11 : w2.cell? ⟨gw, k * 12 + 11, none⟩ = some (.slice q' f.Y.length cq') := HROWK.out w2 hw.2.2 11 _ rfl; go_simp⟩) hHeld ?_
          simp only [Act.put, List.getElem_toArray, List.getElem_cons_succ, List.getElem_cons_zero, List.setIfInBounds_toArray, List.set_cons_zero, List.set_cons_succ]
          refine wpAnyH_ready (rs := [12]) (by kernel_rfl) (by simp) ?_
          refine AllReadyH.cons rfl (fun K hK => ?_) AllReadyH.nil
          go_simp
          refine (nsame2_in gf f p q p' q' cp cq cp' cq' _ (by rw [← HGF.out]; exact HIZ.out.nums.nf) HIZ.out.nums (P1.out.1.oldF (FF3.out.trans ((Fr.refl _ _).drew))) (HIZ.out.src.oldF (T3.out.fr.trans ((Fr.refl _ _).drew))) (P1.out.2.later (FF3.out.trans ((Fr.refl _ _).drew))) (HIZ.out.sets.later (T3.out.fr.trans ((Fr.refl _ _).drew))) (by rw [← HGF.out]; exact (nf_write HSK.out.2.1).symm) (by rw [← HGF.out]; exact (nf_head f).1.symm)).mono ?_
          rintro e u1 ⟨rfl, fu⟩
          have FU : Hid (Fr (fun _ => False) y3 u1) := ((Fr.refl _ _).drew).trans fu
          refine hK.out _ _ (HKE.out _ _ hS0 FU.out) (fun hH1 => ?_)
          clear fu
          clear hK K
          refine wpAnyH_take (i := 13) (oi := _) (v := .bool false) rfl (by kernel_rfl) (by kernel_rfl) (by kernel_rfl) (fun _ _ _ h => h) (Or.inl ⟨by kernel_rfl, fun w2 hw => by go_simp⟩) hH1 ?_
          refine wpAnyH_take (i := 14) (oi := _) (v := .bool false) rfl (by kernel_rfl) (by kernel_rfl) (by kernel_rfl) (fun _ _ _ h => h) (Or.inl ⟨by kernel_rfl, fun w2 hw => by go_simp⟩) hH1 ?_
          simp only [Act.put, List.getElem_toArray, List.getElem_cons_succ, List.getElem_cons_zero, List.setIfInBounds_toArray, List.set_cons_zero, List.set_cons_succ]
          refine wpAnyH_done (by kernel_rfl) ?_ _
          have T6 : Hid (RedS w unk gr B' o1 M (some ⟨gw, 0, none⟩) nw cw segs ws (k + 1) u1) := T3.out.later FU.out
          clear hH1 hHeld hS0
          go_wp2_with (fail)
          go_roundw
          case rel => exact ⟨k + 1, B', o1, by go_num, by omega, T6.out⟩
          case measure => simp [intOf]; omega
        case neg =>
          have hltk : ¬ (k : Int) < (nw : Int) := by omega
          rw [List.drop_of_length_le (by have := HNWL.out; omega), show flatS unk [] = [] from rfl, next_nil 16384 (by omega) _ rfl] at KN
          go_upto_region 23 with (first
            | (go_at_call 12; refine KN.mono ?_; clear KN; rintro e y1 ⟨p, cp, q, cq, o1, rfl, hs1, hy1, hp1, hq1, r1, f1, n1⟩; have T1 : Hid (Rdr y1 gr 16384 [] ⟨false, 0, 0⟩ o1 M ∧ Fr (fun k => k = gr) wk y1) := ⟨r1.mono (Nat.min_le_left _ _), f1⟩; clear hs1 hy1 hp1 hq1 r1 f1 n1)
            | (refine wpList_storeB rfl 36 (.tmp 16) (.tmp 108) rfl y1.heap.size #[.int .i64 0, .int .i64 0, .int .i64 0, .slice none 0 0, .int .i64 0, .int .u32 0, .int .i64 0, .int .i64 0, .int .i64 0, .bool false, .int .i64 0, .slice none 0 0] #[.int .i64 zeroF.k, .int .i64 zeroF.fl, .int .i64 zeroF.st, .slice p zeroF.X.length cp, .int .i64 zeroF.pad, .int .u32 zeroF.code, .int .i64 zeroF.last, .int .i64 zeroF.inc, .int .i64 zeroF.dep, .bool zeroF.only, .int .i64 zeroF.wt, .slice q zeroF.Y.length cq] 36 rfl rfl (past_at _ (heap_alloc_new y1 _)) rfl (by kernel_rfl) (by simp [Value.oneCell']) ?_; intro y2 H2 G2)
            | (refine wpList_storeB rfl 38 (.tmp 18) (.tmp 110) rfl (y1.heap.size + 1) #[.bool false, .int .i64 0, .int .i64 0] #[.bool false, .int .i64 0, .int .i64 0] 38 rfl rfl ((G2.out.block _ (by simp) (by omega)).trans (last_at _ (by simp))) rfl (by kernel_rfl) (by simp [Value.oneCell']) ?_; intro y3 H3 G3))
          have FF3 : Hid (Fr (fun _ => False) y1 y3) := ((((Fr.refl (fun k => k = y1.heap.size ∨ k = y1.heap.size + 1) _).alloc _).alloc _).trans ((G2.out.mono (fun _ _ e => .inl e)).trans (G3.out.mono (fun _ _ e => .inr e)))).mono (fun k hk e => by omega)
          have R3 : Hid (Rdr y3 gr 16384 [] ⟨false, 0, 0⟩ o1 M) := T1.out.1.later FF3.out
          have FE : Hid (Fr (fun _ => False) w y3) := (((HK.out.fr.mono (T := fun k => w.heap.size ≤ k) (fun _ _ e => e.elim)).trans (T1.out.2.mono (fun k _ e => by rw [e]; exact HGR.out))).mono (fun k hk e => by omega)).trans FF3.out
          obtain ⟨d0, d1, d2⟩ := cells3 H3.out
          have KR := Rest_rdr gr 16384 [] ⟨false, 0, 0⟩ o1 M y3 R3.out (by omega)
          go_wp2_with (go_at_call 16; refine KR.mono ?_; clear KR; rintro e u1 ⟨rfl, fu⟩; have FU : Hid (Fr (fun _ => False) y3 u1) := fu; clear fu)
          have KA := Failed_rdr gr 16384 [] ⟨false, 0, 0⟩ o1 M u1 (R3.out.later FU.out) (by omega)
          try (refine KA.mono ?_)
          try (rintro e w' ⟨rfl, rfl⟩)
          go_wp2_with (go_at_call 15; refine KA.mono ?_; rintro e w' ⟨rfl, rfl⟩)
          go_ret
          exact ⟨rfl, (FE.out.trans FU.out).below (fun _ _ => id)⟩
end Go.Proofs.Ytikaefjhmgcidaa
