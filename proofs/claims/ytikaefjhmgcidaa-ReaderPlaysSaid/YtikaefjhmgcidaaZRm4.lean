/- What stands in a frame, by the document: settings. -/
import Derived.Test.YtikaefjhmgcidaaZRm
import Derived.Deep.Cut
namespace Go.Proofs.Ytikaefjhmgcidaa
open Go.RowKit
set_option linter.unusedVariables false
set_option maxRecDepth 100000
set_option maxHeartbeats 4000000

/-- One setting more. -/
theorem SSt.step {w : World} {g : Nat} {f : Fra} {p : Option Addr} {cp : Nat} {b : List UInt8} (hg : g < w.heap.size) (k : Nat) (qa : Option Addr) (qc : Nat) (w1 : World) (id : Int) (val : Nat) (hk : k ≤ 16777215) (hid : id = ((num ((b.drop (6 * k)).take 2) : Nat) : Int)) (hval : val = num ((b.drop (6 * k + 2)).take 4)) (hS : SSt w g f p cp b k qa qc w1) :
    (∀ (j : Nat) u, ([.int .i64 id, .int .u32 (val : Nat)] : List Value)[j]? = some u → (w1.alloc (.cells #[.int .i64 id, .int .u32 (val : Nat)] 80)).cell? ((⟨w1.heap.size, 0, none⟩ : Addr).add j) = some u) ∧
    (w1.alloc (.cells #[.int .i64 id, .int .u32 (val : Nat)] 80)).ownsRow w.heap.size 80 2 (.slice qa k qc) k (setCells (setsOf k b)) ∧
    w.heap.size ≤ (w1.alloc (.cells #[.int .i64 id, .int .u32 (val : Nat)] 80)).heap.size ∧
    (∀ v2 w2, w2.ownsRow w.heap.size 80 2 v2 (k + 1) (setCells (setsOf k b) ++ [.int .i64 id, .int .u32 (val : Nat)]) → (w1.alloc (.cells #[.int .i64 id, .int .u32 (val : Nat)] 80)).grownBy w2 (Value.slice qa k qc).ownBlock → ∃ qa2 qc2, v2 = .slice qa2 (k + 1) qc2 ∧ w2.cell? ⟨g, 11, none⟩ = some (.slice qa k qc) ∧ w2.frozen? ⟨g, 11, none⟩ = false ∧ SSt w g f p cp b (k + 1) qa2 qc2 (w2.setCell ⟨g, 11, none⟩ (.slice qa2 (k + 1) qc2))) := by
  have hal : Fr (fun _ => False) w1 (w1.alloc (.cells #[.int .i64 id, .int .u32 (val : Nat)] 80)) := (Fr.refl _ _).alloc _
  have hS2 := hS.later hal
  refine ⟨fun j u hj => ?_, hS2.own, by have := hS2.fr.size; omega, fun v2 w2 hO hgr => ?_⟩
  · rw [add_none, Nat.zero_add]
    exact cell_of_heap (heap_alloc_new w1 _) (by simpa using hj)
  · have hne : some g ≠ (Value.slice qa k qc).ownBlock := fun e => by have := hS.apart e.symm; omega
    have hb : w2.heap[g]? = _ := (hgr.block g (lt_of_heap hS2.at_) hne).trans hS2.at_
    obtain ⟨hx1, ⟨hx2, hx3⟩ | ⟨gg, cc, cur, rfl, hx3, hx4, hx5, hx6, hx7, hx8⟩⟩ := hO
    · omega
    · have hgg : gg ≠ g := by omega
      refine ⟨some ⟨gg, 0, none⟩, cc, rfl, cell_of_heap hb rfl, frozen_of_heap hb, ⟨block_set hb, ?_, ?_⟩⟩
      · refine ⟨?_, .inr ⟨gg, cc, cur, rfl, hx3, ?_, hx5, hx6, hx7, ?_⟩⟩
        · rw [setCells_len, setsOf_len]
        · rw [Below.heap_setCell _ _ _ _ (by exact hgg)]; exact hx4
        · rw [hx8, setsOf_next, setCells_append, hid, hval]
          rfl
      · have hf2 : Fr (fun j => j = g ∨ w.heap.size ≤ j) w w2 := (hS2.fr.mono (fun _ _ e => .inl e)).trans ⟨hgr.os, hgr.tape, hgr.output, hgr.size, fun j hj hn => hgr.block j hj (fun e => hn (.inr (hS.apart e.symm)))⟩
        exact Fr.setB (hf2.mono (fun j hj e => by rcases e with e | e; exact e; omega)) _ _

theorem fd_4 (fl st : Int) (x : Nat) (a : Option Addr) (len cap : Nat) (b : List UInt8) (w : World) (hs : SrcAt w a b) (hl : b.length = len) (h6 : len % 6 = 0) (hm : len ≤ 16777215) :
    Calls Try.prog 37 #[.agg #[.int .i64 4, .int .i64 fl, .int .i64 st, .slice none 0 0, .int .i64 (x : Int), .int .u32 0, .int .i64 0, .int .i64 0, .int .i64 0, .bool false, .int .i64 0, .slice none 0 0], .slice a len cap] w fun e w' => RdAs w (⟨4, fl, st, [], x, 0, 0, 0, 0, false, 0, setsOf (len / 6) b⟩, ⟨false, 0, 0⟩) e w' := by
  obtain ⟨W, hW⟩ : ∃ W, W = ((w.alloc (.cells #[.int .i64 4, .int .i64 fl, .int .i64 st, .slice none 0 0, .int .i64 (x : Int), .int .u32 0, .int .i64 0, .int .i64 0, .int .i64 0, .bool false, .int .i64 0, .slice none 0 0] 36)).alloc (.cells #[.int .i64 0, .int .i64 0, .int .i64 0, .slice none 0 0, .int .i64 0, .int .u32 0, .int .i64 0, .int .i64 0, .int .i64 0, .bool false, .int .i64 0, .slice none 0 0] 36)).alloc (.cells #[.bool false, .int .i64 0, .int .i64 0] 38) := ⟨_, rfl⟩
  have HFW : Hid (Fr (fun _ => False) w W) := by rw [hW]; exact (((Fr.refl _ _).alloc _).alloc _).alloc _
  have A0 : Hid (W.heap[w.heap.size]? = some (.cells #[.int .i64 4, .int .i64 fl, .int .i64 st, .slice none 0 0, .int .i64 (x : Int), .int .u32 0, .int .i64 0, .int .i64 0, .int .i64 0, .bool false, .int .i64 0, .slice none 0 0] 36 (0, 0))) := by rw [hW]; exact past_at _ (past_at _ (heap_alloc_new w _))
  have hr1 : W.heap[w.heap.size + 1]? = some (.cells #[.int .i64 0, .int .i64 0, .int .i64 0, .slice none 0 0, .int .i64 0, .int .u32 0, .int .i64 0, .int .i64 0, .int .i64 0, .bool false, .int .i64 0, .slice none 0 0] 36 (0, 0)) := by rw [hW]; exact past_at _ (last_at _ (by simp))
  have hr2 : W.heap[w.heap.size + 2]? = some (.cells #[.bool false, .int .i64 0, .int .i64 0] 38 (0, 0)) := by rw [hW]; exact last_at _ (by simp)
  have HRES : Hid (∀ w', Fr (fun k => k = w.heap.size) W w' → w'.heap[w.heap.size + 1]? = some (.cells #[.int .i64 0, .int .i64 0, .int .i64 0, .slice none 0 0, .int .i64 0, .int .u32 0, .int .i64 0, .int .i64 0, .int .i64 0, .bool false, .int .i64 0, .slice none 0 0] 36 (0, 0)) ∧ w'.heap[w.heap.size + 2]? = some (.cells #[.bool false, .int .i64 0, .int .i64 0] 38 (0, 0))) := fun w' hf => ⟨(hf.block _ (lt_of_heap hr1) (by omega)).trans hr1, (hf.block _ (lt_of_heap hr2) (by omega)).trans hr2⟩
  have HS : Hid (∀ w', Fr (fun k => k = w.heap.size) W w' → SrcAt w' a b) := fun w' hf => src_ge hs ((HFW.out.mono (T := fun k => w.heap.size ≤ k) (fun _ _ e => e.elim)).trans (hf.mono (fun k _ e => by omega)))
  have hg : w.heap.size < W.heap.size := lt_of_heap A0.out
  have HG : Hid (w.heap.size < W.heap.size) := hg
  obtain ⟨f, hf⟩ : ∃ f : Fra, f = ⟨4, fl, st, [], x, 0, 0, 0, 0, false, 0, []⟩ := ⟨_, rfl⟩
  have HF : Hid (f = ⟨4, fl, st, [], x, 0, 0, 0, 0, false, 0, []⟩) := hf
  have S0 : Hid (SSt W w.heap.size f none 0 b 0 none 0 W) := by
    refine ⟨?_, ⟨rfl, .inl ⟨rfl, rfl⟩⟩, Fr.refl _ _⟩
    rw [hf]
    exact A0.out
  have K1 : Hid (∀ k w', 6 * k + 6 ≤ len → Fr (fun j => j = w.heap.size) W w' → Calls Try.prog 53 #[.slice a len cap, .int .i64 ((6 * k : Nat) : Int)] w' fun e w2 => e = .returned (.tuple #[.int .i64 ((num ((b.drop (6 * k)).take 2) : Nat) : Int), .int .i64 ((6 * k + 2 : Nat) : Int), .int .i64 0]) ∧ w' = w2) := fun k w' hk hf => by
    have h := RU16 a len cap ((6 * k : Nat) : Int) w' b (HS.out w' hf) hl (by omega)
    rw [read_at 2 (6 * k) b (by omega)] at h
    refine h.mono ?_
    rintro e w2 ⟨he, rfl⟩
    exact ⟨he, rfl⟩
  have K2 : Hid (∀ k w', 6 * k + 6 ≤ len → Fr (fun j => j = w.heap.size) W w' → Calls Try.prog 52 #[.slice a len cap, .int .i64 ((6 * k + 2 : Nat) : Int)] w' fun e w2 => e = .returned (.tuple #[.int .u32 ((num ((b.drop (6 * k + 2)).take 4) : Nat) : Int), .int .i64 ((6 * k + 6 : Nat) : Int), .int .i64 0]) ∧ w' = w2) := fun k w' hk hf => by
    have h := RU32 a len cap ((6 * k + 2 : Nat) : Int) w' b (HS.out w' hf) hl (by omega)
    rw [read_at 4 (6 * k + 2) b (by omega)] at h
    refine h.mono ?_
    rintro e w2 ⟨he, rfl⟩
    exact ⟨he, rfl⟩
  obtain ⟨it, iz, I1, I2, I3, I4, I5⟩ := infoS
  have I : Hid (Try.prog.info? 80 = some it ∧ it.zero = some iz ∧ it.size = 2 ∧ it.bytes = 16 ∧ iz.cells.size = 2) := ⟨I1, I2, I3, I4, I5⟩
  have H6 : Hid (len % 6 = 0) := h6
  obtain ⟨c0, c1, c2, c3, c4, c5, c6, c7, c8, c9, c10, c11⟩ := cells12 A0.out
  clear hs hl hr1 hr2 h6 I1 I2 I3 I4 I5 hg hf
  go_enter Try.func37, Try.ntmps37
  go_upto_region 1 with (fail)
  rw [← hW]
  clear hW
  go_wp2_with (fail)
  clear c0 c1 c2 c3 c4 c5 c6 c7 c8 c9 c10 c11
  go_loopw [6] (fun x6 wr => ∃ (k qc : Nat) (qa : Option Addr), x6 = .int .i64 ((6 * k : Nat) : Int) ∧ 6 * k ≤ len ∧ Hid ((k = 0 → qa = none ∧ qc = 0) ∧ SSt W w.heap.size f none 0 b k qa qc wr)) (fun x6 _ => len - (intOf x6).toNat)
  case atStart => exact ⟨0, 0, none, rfl, by omega, fun _ => ⟨rfl, rfl⟩, S0.out⟩
  case round =>
    obtain ⟨k, qc, qa, rfl, hk, HT⟩ := hrel
    by_cases hin : 6 * k < len
    · have hk6 : 6 * k + 6 ≤ len := by have := H6.out; omega
      have hin2 : ((6 * k : Nat) : Int) < (len : Int) := by omega
      have HK6 : Hid (6 * k + 6 ≤ len) := hk6
      have e6 : ((6 * k : Nat) : Int) + 6 = ((6 * (k + 1) : Nat) : Int) := by omega
      have e2 : ((6 * k : Nat) : Int) + 2 = ((6 * k + 2 : Nat) : Int) := by omega
      obtain ⟨id, hid⟩ : ∃ id, ((num ((b.drop (6 * k)).take 2) : Nat) : Int) = id := ⟨_, rfl⟩
      obtain ⟨val, hval⟩ : ∃ val, num ((b.drop (6 * k + 2)).take 4) = val := ⟨_, rfl⟩
      have HID : Hid (id = ((num ((b.drop (6 * k)).take 2) : Nat) : Int) ∧ val = num ((b.drop (6 * k + 2)).take 4)) := ⟨hid.symm, hval.symm⟩
      have KA : Hid (∀ w', Fr (fun j => j = w.heap.size) W w' → Calls Try.prog 53 #[.slice a len cap, .int .i64 ((6 * k : Nat) : Int)] w' fun e w2 => e = .returned (.tuple #[.int .i64 id, .int .i64 ((6 * k + 2 : Nat) : Int), .int .i64 0]) ∧ w' = w2) := fun w' hf => by rw [← hid]; exact K1.out k w' HK6.out hf
      have KB : Hid (∀ w', Fr (fun j => j = w.heap.size) W w' → Calls Try.prog 52 #[.slice a len cap, .int .i64 ((6 * k + 2 : Nat) : Int)] w' fun e w2 => e = .returned (.tuple #[.int .u32 (val : Nat), .int .i64 ((6 * k + 6 : Nat) : Int), .int .i64 0]) ∧ w' = w2) := fun w' hf => by rw [← hval]; exact K2.out k w' HK6.out hf
      clear hid hval
      obtain ⟨n6, hn6⟩ : ∃ n6 : Nat, 6 * k = n6 := ⟨_, rfl⟩
      obtain ⟨n8, hn8⟩ : ∃ n8 : Nat, 6 * k + 2 = n8 := ⟨_, rfl⟩
      obtain ⟨n9, hn9⟩ : ∃ n9 : Nat, 6 * (k + 1) = n9 := ⟨_, rfl⟩
      have HN9 : Hid (n9 = 6 * (k + 1) ∧ n6 = 6 * k) := ⟨hn9.symm, hn6.symm⟩
      rw [hn8] at KA KB e2
      rw [hn6] at KA hin2 e6 e2 ⊢
      rw [hn9] at e6
      have ST : Hid (∀ w1, SSt W w.heap.size f none 0 b k qa qc w1 → _) := fun w1 hS => SSt.step HG.out k qa qc w1 id val (by have := HK6.out; omega) HID.out.1 HID.out.2 hS
      have HK1 : Hid (k + 1 ≤ maxLen ∧ ((k + 1) + (k + 1) / 4 + 192) * 16 ≤ 281474976710656) := by
        have := HK6.out
        refine ⟨?_, ?_⟩
        · unfold maxLen; omega
        · omega
      clear hn6 hn8 hn9 hin hk6 hk
      obtain ⟨wa, hwa⟩ : ∃ wa, wa = wr.alloc (.cells #[.int .i64 0, .int .u32 0] 80) := ⟨_, rfl⟩
      have HWA : Hid (wa.heap[wr.heap.size]? = some (.cells #[.int .i64 0, .int .u32 0] 80 (0, 0)) ∧ Fr (fun _ => False) wr wa) := by rw [hwa]; exact ⟨heap_alloc_new wr _, (Fr.refl _ _).alloc _⟩
      go_wp2_with (first
        | (refine wpList_storeB rfl 80 (.tmp 7) (.tmp 53) rfl wr.heap.size #[.int .i64 0, .int .u32 0] #[.int .i64 0, .int .u32 0] 80 rfl rfl (by rw [← hwa]; exact HWA.out.1) rfl (by kernel_rfl) (by simp [Value.oneCell']) ?_; intro wb HB0 FB0; refine Hid.out ?_))
      unfold Hid
      rw [← hwa] at FB0
      clear hwa
      have FB : Hid (Fr (fun j => j = wr.heap.size) wa wb) := FB0.out
      have HB : Hid (wb.heap[wr.heap.size]? = some (.cells #[.int .i64 0, .int .u32 0] 80 (0, 0))) := HB0.out
      clear FB0 HB0
      have c0 : wb.cell? ⟨wr.heap.size, 0, none⟩ = some (.int .i64 0) := cell_of_heap HB.out rfl
      have z0 : wb.frozen? ⟨wr.heap.size, 0, none⟩ = false := frozen_of_heap HB.out
      have B1 : Hid ((wb.setCell ⟨wr.heap.size, 0, none⟩ (.int .i64 id)).heap[wr.heap.size]? = some (.cells #[.int .i64 id, .int .u32 0] 80 (0, 0))) := block_set HB.out
      have z1 : (wb.setCell ⟨wr.heap.size, 0, none⟩ (.int .i64 id)).frozen? ⟨wr.heap.size, 1, none⟩ = false := frozen_of_heap B1.out
      have c1 : wb.cell? ⟨wr.heap.size, 1, none⟩ = some (.int .u32 0) := cell_of_heap HB.out rfl
      have B2 : Hid (((wb.setCell ⟨wr.heap.size, 0, none⟩ (.int .i64 id)).setCell ⟨wr.heap.size, 1, none⟩ (.int .u32 (val : Nat))).heap[wr.heap.size]? = some (.cells #[.int .i64 id, .int .u32 (val : Nat)] 80 (0, 0))) := block_set B1.out
      have FF : Hid (∀ w', Fr (fun j => j = wr.heap.size) wa w' → Fr (fun _ => False) wr w') := fun w' hf => ((HWA.out.2.mono (T := fun j => j = wr.heap.size) (fun _ _ e => e.elim)).trans hf).mono (fun k hk e => by omega)
      have F2 : Hid (Fr (fun _ => False) wr ((wb.setCell ⟨wr.heap.size, 0, none⟩ (.int .i64 id)).setCell ⟨wr.heap.size, 1, none⟩ (.int .u32 (val : Nat)))) := FF.out _ (Fr.setB (Fr.setB FB.out _ _) _ _)
      have FK1 : Hid (Fr (fun j => j = w.heap.size) W wb) := HT.out.2.fr.trans ((FF.out _ FB.out).mono (fun _ _ e => e.elim))
      have FK2 : Hid (Fr (fun j => j = w.heap.size) W (wb.setCell ⟨wr.heap.size, 0, none⟩ (.int .i64 id))) := HT.out.2.fr.trans ((FF.out _ (Fr.setB FB.out _ _)).mono (fun _ _ e => e.elim))
      have S2 : Hid (SSt W w.heap.size f none 0 b k qa qc ((wb.setCell ⟨wr.heap.size, 0, none⟩ (.int .i64 id)).setCell ⟨wr.heap.size, 1, none⟩ (.int .u32 (val : Nat)))) := HT.out.2.later F2.out
      go_upto_region 19 with (first
        | (go_at_call 53; refine (KA.out _ FK1.out).mono ?_; rintro e w' ⟨rfl, rfl⟩)
        | (go_at_call 52; refine (KB.out _ FK2.out).mono ?_; rintro e w' ⟨rfl, rfl⟩))
      clear c0 c1 z0 z1 KA KB FK1 FK2 F2 B1
      obtain ⟨w2, hw2⟩ : ∃ w2, w2 = (wb.setCell ⟨wr.heap.size, 0, none⟩ (.int .i64 id)).setCell ⟨wr.heap.size, 1, none⟩ (.int .u32 (val : Nat)) := ⟨_, rfl⟩
      rw [← hw2] at S2 B2 ⊢
      clear hw2
      have d11 : w2.cell? ⟨w.heap.size, 11, none⟩ = some (.slice qa k qc) := cell_of_heap S2.out.at_ rfl
      have e0 : w2.cell? ⟨wr.heap.size, 0, none⟩ = some (.int .i64 id) := cell_of_heap B2.out rfl
      have e1 : w2.cell? ⟨wr.heap.size, 1, none⟩ = some (.int .u32 (val : Nat)) := cell_of_heap B2.out rfl
      obtain ⟨hA1, hA2, hA3, hA4⟩ := ST.out w2 S2.out
      have A1 : Hid _ := hA1
      have A2 : Hid _ := hA2
      have A3 : Hid _ := hA3
      have A4 : Hid _ := hA4
      clear hA1 hA2 hA3 hA4
      go_wp2_with (refine wpList_append_own_wide _ rfl (.tmp 72) (.tmp 74) 34 rfl W.heap.size 80 it iz 2 16 Try.underlying34 I.out.1 I.out.2.1 I.out.2.2.1 I.out.2.2.2.1 I.out.2.2.2.2 (by omega) (.slice qa k qc) k (setCells (setsOf k b)) (by go_simp) A2.out ⟨w2.heap.size, 0, none⟩ 1 1 [.int .i64 id, .int .u32 (val : Nat)] (by go_simp) rfl A1.out (by simp [Value.oneCell']) HK1.out.1 HK1.out.2 A3.out ?_; intro v3 w3 Hrow Hgr Hiff; obtain ⟨qa3, qc3, rfl, d12, z12, hS3⟩ := A4.out v3 w3 Hrow Hgr; have S3 : Hid (SSt W w.heap.size f none 0 b (k + 1) qa3 qc3 (w3.setCell ⟨w.heap.size, 11, none⟩ (.slice qa3 (k + 1) qc3))) := hS3; clear Hrow Hgr Hiff hS3)
      go_roundw
      case rel =>
        refine ⟨k + 1, qc3, qa3, ?_, ?_, fun h => by omega, S3.out⟩
        · rw [← HN9.out.1]
        · have := HK6.out; omega
      case measure =>
        have h1 := HN9.out
        have h2 := HK6.out
        simp [intOf]
        omega
    · have hin2 : ¬ ((6 * k : Nat) : Int) < (len : Int) := by omega
      have hk2 : 6 * k = len := by omega
      have hT := HT.out.2
      have hln := setsOf_len k b
      have HST : Hid (SetsAt wr qa qc (setsOf k b)) := owns_sets hT.own hln (by omega) (setsOf_ok k b)
      have HQ : Hid (∀ ad, qa = some ad → W.heap.size ≤ ad.block) := fun ad e => hT.apart (j := ad.block) (by rw [e]; rfl)
      have hat := hT.at_
      rw [HF.out] at hat
      obtain ⟨c0, c1, c2, c3, c4, c5, c6, c7, c8, c9, c10, c11⟩ := cells12 hat
      have HFR : Hid (Fr (fun k => k = w.heap.size) W wr) := hT.fr
      have HY : Hid (setsOf (len / 6) b = setsOf k b) := by show _ = _; congr 1; omega
      clear hT hat
      go_wp2_with (first
        | (refine wpList_storeB rfl 36 (.tmp 4) (.tmp 77) rfl (w.heap.size + 1) #[.int .i64 0, .int .i64 0, .int .i64 0, .slice none 0 0, .int .i64 0, .int .u32 0, .int .i64 0, .int .i64 0, .int .i64 0, .bool false, .int .i64 0, .slice none 0 0] #[.int .i64 4, .int .i64 fl, .int .i64 st, .slice none 0 0, .int .i64 (x : Int), .int .u32 0, .int .i64 0, .int .i64 0, .int .i64 0, .bool false, .int .i64 0, .slice qa k qc] 36 rfl rfl (HRES.out _ HFR.out).1 rfl (by kernel_rfl) (by simp [Value.oneCell']) ?_; intro w4 H4 F4)
        | (refine wpList_storeB rfl 38 (.tmp 5) (.tmp 78) rfl (w.heap.size + 2) #[.bool false, .int .i64 0, .int .i64 0] #[.bool false, .int .i64 0, .int .i64 0] 38 rfl rfl ((F4.out.block _ (lt_of_heap (HRES.out _ HFR.out).2) (by omega)).trans (HRES.out _ HFR.out).2) rfl (by kernel_rfl) (by simp [Value.oneCell']) ?_; intro w5 H5 F5))
      obtain ⟨r0, r1, r2, r3, r4, r5, r6, r7, r8, r9, r10, r11⟩ := cells12 ((F5.out.block _ (lt_of_heap H4.out) (by omega)).trans H4.out)
      obtain ⟨s0, s1, s2⟩ := cells3 H5.out
      have FALL : Fr (fun k => k = w.heap.size + 1 ∨ k = w.heap.size + 2) wr w5 := (F4.out.mono (fun _ _ e => .inl e)).trans (F5.out.mono (fun _ _ e => .inr e))
      refine bodyPost_ret (v := .tuple #[.agg #[.int .i64 4, .int .i64 fl, .int .i64 st, .slice none 0 0, .int .i64 (x : Int), .int .u32 0, .int .i64 0, .int .i64 0, .int .i64 0, .bool false, .int .i64 0, .slice qa k qc], .agg #[.bool false, .int .i64 0, .int .i64 0]]) (by simp [results, Try.results37, go_sem, r0, r1, r2, r3, r4, r5, r6, r7, r8, r9, r10, r11, s0, s1, s2]) rfl ?_
      have FEND : Fr (fun _ => False) w w5 := ((((HFW.out.mono (T := fun k => w.heap.size ≤ k) (fun _ _ e => e.elim)).trans (HFR.out.mono (fun k _ e => by omega))).trans (FALL.mono (fun k _ e => by omega)))).mono (fun k hk e => by omega)
      have hW3 : w.heap.size + 3 ≤ W.heap.size := by have h2 := lt_of_heap (HRES.out _ (Fr.refl _ _)).2; omega
      rw [HY.out]
      refine ⟨none, 0, qa, qc, ?_, SrcAt.nil _ _, ?_, (fun ad e => by cases e), (fun ad e _ => by have := HQ.out ad e; omega), FEND⟩
      · simp only [hln]; rfl
      · exact HST.out.fr FALL (fun ad e _ e2 => by have := HQ.out ad e; omega)
end Go.Proofs.Ytikaefjhmgcidaa
