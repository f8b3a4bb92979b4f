/- Contract of the program's reader of a frame's parts. -/
import Derived.Test.YtikaefjhmgcidaaZMFk
import Derived.Test.YtikaefjhmgcidaaZMFg
namespace Go.Proofs.Ytikaefjhmgcidaa
open Go.RowKit
set_option linter.unusedVariables false
set_option maxRecDepth 100000
set_option maxHeartbeats 4000000

theorem reader_in (j : Nat) (hj : j < 7) (w0 : World) (f : Fra) (p q : Option Addr) (cp cq g : Nat) (a : Option Addr) (len cap : Nat) (b : List UInt8) (w : World) (h : RSt w0 g f p cp q cq w) (hq : f.Y = [] → q = none ∧ cq = 0) (hs : SrcAt w a b) (hl : b.length = len) (hsz : sizeP j ≤ len) (hY : j = 4 → f.Y = [] ∧ len % 6 = 0) (hm : len ≤ 16777215) (hag : ∀ ad, a = some ad → 0 < b.length → ad.block ≠ g) :
    Calls Try.prog (rfn j) #[.pointer (some ⟨g, 0, none⟩), .slice a len cap] w fun e w' => ReadAs w0 g (rdP j f b) e w' := by
  obtain rfl | rfl | rfl | rfl | rfl | rfl | rfl : j = 0 ∨ j = 1 ∨ j = 2 ∨ j = 3 ∨ j = 4 ∨ j = 5 ∨ j = 6 := by omega
  · exact readLast_in w0 f p q cp cq g a len cap b w h hq hs hl hsz (by omega)
  · exact readCode_in w0 f p q cp cq g a len cap b w h hq hs hl hsz (by omega)
  · exact readPriority_in w0 f p q cp cq g a len cap b w h hq hs hl hsz (by omega) hag
  · exact readRest_in w0 f p q cp cq g a len cap b w h hq hs hl (by omega)
  · obtain ⟨rfl, rfl⟩ := hq (hY rfl).1
    exact readSettings_in w0 f p cp g a len cap b w h (hY rfl).1 hs hl (hY rfl).2 hm hag
  · exact readRest_in w0 f p q cp cq g a len cap b w h hq hs hl (by omega)
  · exact readInc_in w0 f p q cp cq g a len cap b w h hq hs hl hsz (by omega)

/-- A value of several cells is stored over a whole block. -/
theorem wp_storeB {P : Program} {op : Oper} {a : Act} {w : World} {K : Act → World → Prop} {Q : Exit → Act → World → Prop} (ty : TypeId) (x y : Operand) (ho : op.op = .store ty x y)
    (b : Nat) (cs cells : Array Value) (t : TypeId) (hx : a.eval x = .pointer (some ⟨b, 0, none⟩)) (hy : a.eval y = .agg cells) (hh : w.heap[b]? = some (.cells cs t (0, 0))) (hsz : cs.size = cells.size) (hi : (P.info? ty).map (·.size) = some cells.size) (h1 : cells.all (·.oneCell') = true)
    (h : ∀ w', Hid (w'.heap[b]? = some (.cells cells t (0, 0))) → Hid (Fr (fun k => k = b) w w') → K (a.put op.dst undef) w') : op.wp P a w K Q := by
  have hst := run_storeCells_at (P := P) b 0 t cells.toList 0 cs w hh (by simp; omega) (fun v hv => (Array.all_eq_true_iff_forall_mem.1 h1) v (by simpa using hv))
  have hrow : (cs.toList.take (0 + 0) ++ cells.toList ++ cs.toList.drop (0 + 0 + cells.toList.length)).toArray = cells := by
    rw [List.drop_of_length_le (by simp; omega)]
    simp
  rw [hrow] at hst
  have hrun : (storeVar ty ⟨b, 0, none⟩ (.agg cells)).run P w = .ok () (w.setRow b cells) := by
    cases hq : P.info? ty with
    | none => simp [hq] at hi
    | some i =>
      have hs : cells.size = i.size := by simp [hq] at hi; omega
      simp [storeVar, sizeOf, typeInfo, hq, Value.cells, hs, hst]
  unfold Oper.wp execOp
  simp only [ho, hx, hy, Instr.storeAt, Instr.sureAddr, Sem.run_bind, Sem.run_pure, Result.andThen_ok, hrun]
  have hfr : Fr (fun k => k = b) w (w.setRow b cells) := Fr.setRow (S := fun k => k = b) (Fr.refl _ _) b (fun _ => rfl) _
  exact h _ (setRow_heap w b cs _ t _ hh) hfr
theorem wpList_storeB {P : Program} {ops : Array Oper} {rest : List Oper} {op : Oper} {a : Act} {w : World} {Q : Exit → Act → World → Prop} (hgd : op.guard = none) (ty : TypeId) (x y : Operand) (ho : op.op = .store ty x y)
    (b : Nat) (cs cells : Array Value) (t : TypeId) (hx : a.eval x = .pointer (some ⟨b, 0, none⟩)) (hy : a.eval y = .agg cells) (hh : w.heap[b]? = some (.cells cs t (0, 0))) (hsz : cs.size = cells.size) (hi : (P.info? ty).map (·.size) = some cells.size) (h1 : cells.all (·.oneCell') = true)
    (h : ∀ w', Hid (w'.heap[b]? = some (.cells cells t (0, 0))) → Hid (Fr (fun k => k = b) w w') → wpList P ops Q rest (a.put op.dst undef) w') : wpList P ops Q (op :: rest) a w :=
  wpList_plain hgd fun _ hK => wp_storeB ty x y ho b cs cells t hx hy hh hsz hi h1 (fun w' h2 h3 => hK _ _ (h w' h2 h3))
theorem stepR_storeB {P : Program} {ops : Array Oper} {op : Oper} {a : Act} {w : World} {K : Act → World → Prop} {Q : Exit → Act → World → Prop} {E : Prop} (hgd : op.guard = none) (hdst : op.dst = none) (ty : TypeId) (x y : Operand) (ho : op.op = .store ty x y)
    (b : Nat) (cs cells : Array Value) (t : TypeId) (hx : a.eval x = .pointer (some ⟨b, 0, none⟩)) (hy : a.eval y = .agg cells) (hh : w.heap[b]? = some (.cells cs t (0, 0))) (hsz : cs.size = cells.size) (hi : (P.info? ty).map (·.size) = some cells.size) (h1 : cells.all (·.oneCell') = true)
    (h : ∀ w', Hid (w'.heap[b]? = some (.cells cells t (0, 0))) → Hid (Fr (fun k => k = b) w w') → K (a.put none undef) w') : if Region.wanted op (yielded ops a.tmps) = true then Oper.wp P op a w K Q else E := by
  have hw : Region.wanted op (yielded ops a.tmps) = true := by simp [Region.wanted, hgd]
  rw [if_pos hw]
  rw [← hdst] at h
  exact wp_storeB ty x y ho b cs cells t hx hy hh hsz hi h1 h

theorem readParts_in (f : Fra) (p q : Option Addr) (cp cq : Nat) (sp : Option Addr) (js : List Nat) (n c : Nat) (a : Option Addr) (len cap : Nat) (b : List UInt8) (w : World)
    (hP : PartsC w sp js) (hn : js.length = n) (hn3 : n ≤ 3) (h7 : ∀ j ∈ js, j < 7) (hz : ∀ i j, js[i]? = some j → sizeP j = 0 → i + 1 = n) (h4 : 4 ∈ js → js = [4] ∧ len % 6 = 0)
    (hX : SrcAt w p f.X) (hX0 : f.X = []) (hY : SetsAt w q cq f.Y) (hY0 : f.Y = []) (hq0 : q = none) (hc0 : cq = 0) (hs : SrcAt w a b) (hl : b.length = len) (hc : len ≤ cap) (hm : len ≤ 16777215) (hle : leastP js ≤ len) :
    Calls Try.prog 65 #[.agg #[.int .i64 f.k, .int .i64 f.fl, .int .i64 f.st, .slice p f.X.length cp, .int .i64 f.pad, .int .u32 f.code, .int .i64 f.last, .int .i64 f.inc, .int .i64 f.dep, .bool f.only, .int .i64 f.wt, .slice q f.Y.length cq], .slice sp n c, .slice a len cap] w fun e w' => ∃ p' cp' q' cq', e = .returned (.agg #[.int .i64 (rd js f b).k, .int .i64 (rd js f b).fl, .int .i64 (rd js f b).st, .slice p' (rd js f b).X.length cp', .int .i64 (rd js f b).pad, .int .u32 (rd js f b).code, .int .i64 (rd js f b).last, .int .i64 (rd js f b).inc, .int .i64 (rd js f b).dep, .bool (rd js f b).only, .int .i64 (rd js f b).wt, .slice q' (rd js f b).Y.length cq']) ∧ SrcAt w' p' (rd js f b).X ∧ SetsAt w' q' cq' (rd js f b).Y ∧ (∀ ad, p' = some ad → 0 < (rd js f b).X.length → w.heap.size ≤ ad.block) ∧ (∀ ad, q' = some ad → 0 < (rd js f b).Y.length → w.heap.size ≤ ad.block) ∧ Fr (fun _ => False) w w' := by
  obtain ⟨W, hW⟩ : ∃ W, W = (w.alloc (.cells #[.int .i64 f.k, .int .i64 f.fl, .int .i64 f.st, .slice p f.X.length cp, .int .i64 f.pad, .int .u32 f.code, .int .i64 f.last, .int .i64 f.inc, .int .i64 f.dep, .bool f.only, .int .i64 f.wt, .slice q f.Y.length cq] 36)).alloc (.cells #[.int .i64 0, .int .i64 0, .int .i64 0, .slice none 0 0, .int .i64 0, .int .u32 0, .int .i64 0, .int .i64 0, .int .i64 0, .bool false, .int .i64 0, .slice none 0 0] 36) := ⟨_, rfl⟩
  have HFW : Hid (Fr (fun _ => False) w W) := by rw [hW]; exact ((Fr.refl _ _).alloc _).alloc _
  have hat : FAt W w.heap.size f p cp q cq := by rw [hW]; exact past_at _ (heap_alloc_new w _)
  have hres : W.heap[w.heap.size + 1]? = some (.cells #[.int .i64 0, .int .i64 0, .int .i64 0, .slice none 0 0, .int .i64 0, .int .u32 0, .int .i64 0, .int .i64 0, .int .i64 0, .bool false, .int .i64 0, .slice none 0 0] 36) := by rw [hW]; exact last_at _ (by simp)
  have R0 : Hid (RSt W w.heap.size f p cp q cq W) := ⟨hat, hX.oldF HFW.out, hY.later HFW.out, fun ad e hl => by rw [hX0] at hl; simp at hl, fun ad e hl => by rw [hY0] at hl; simp at hl, by rw [hW]; simp, Fr.refl _ _⟩
  have HO : Hid (∀ w', Fr (fun k => k = w.heap.size) W w' → Fr (fun _ => False) w w') := fun w' hf => ((HFW.out.mono (T := fun k => k = w.heap.size) (fun _ _ e => e.elim)).trans hf).mono (fun k hk e => by omega)
  have HY0 : Hid (f.Y = [] ∧ q = none ∧ cq = 0) := ⟨hY0, hq0, hc0⟩
  have HP : Hid (PartsC w sp js) := hP
  have HN : Hid (js.length = n) := hn
  have H7 : Hid (∀ j ∈ js, j < 7) := h7
  have HZ : Hid (∀ i j, js[i]? = some j → sizeP j = 0 → i + 1 = n) := hz
  have H4 : Hid (4 ∈ js → js = [4] ∧ len % 6 = 0) := h4
  have HS : Hid (SrcAt w a b) := hs
  have HL : Hid (b.length = len) := hl
  have HLE : Hid (leastP js ≤ len) := hle
  have HAG : Hid (∀ ad, a = some ad → 0 < b.length → ad.block < w.heap.size) := fun ad e hl => by
      obtain ⟨ad', e', hc⟩ := hs 0 _ (getD_some b 0 hl)
      rw [e] at e'
      cases e'
      have := World.block_lt_of_cell? _ _ hc
      have hb : (ad.add 0).block = ad.block := by unfold Addr.add; split <;> rfl
      show _ < _
      omega
  have HRES : Hid (W.heap[w.heap.size + 1]? = some (.cells #[.int .i64 0, .int .i64 0, .int .i64 0, .slice none 0 0, .int .i64 0, .int .u32 0, .int .i64 0, .int .i64 0, .int .i64 0, .bool false, .int .i64 0, .slice none 0 0] 36)) := hres
  clear hY0 hX0 hq0 hc0 hP hn h7 hz h4 hX hY hs hl hle hat hres
  go_enter Try.func65, Try.ntmps65
  go_wp2_with (fail)
  rw [← hW]
  go_loopw [7, 13] (fun x7 x13 wr => ∃ (i at_ : Nat) (fz : Fra) (pz : Option Addr) (kz : Nat) (qz : Option Addr) (dz : Nat), x7 = .int .i64 (at_ : Int) ∧ x13 = .int .i64 (i : Int) ∧ i ≤ n ∧ at_ ≤ len ∧ Hid (leastP (js.drop i) ≤ len - at_ ∧ rd (js.drop i) fz (b.drop at_) = rd js f b ∧ RSt W w.heap.size fz pz kz qz dz wr ∧ (fz.Y = [] → qz = none ∧ dz = 0) ∧ (4 ∈ js.drop i → fz.Y = [] ∧ at_ = 0))) (fun _ x13 _ => n - (intOf x13).toNat)
  case atStart => exact ⟨0, 0, f, p, cp, q, cq, rfl, rfl, by omega, by omega, by simpa using HLE.out, rfl, R0.out, fun _ => HY0.out.2, fun _ => ⟨HY0.out.1, rfl⟩⟩
  case round =>
    obtain ⟨i, at_, fz, pz, kz, qz, dz, rfl, rfl, hi, hat, HR⟩ := hrel
    by_cases hin : i < n
    · obtain ⟨j, hj⟩ : ∃ j, js[i]? = some j := ⟨js[i]'(by rw [HN.out]; exact hin), List.getElem?_eq_getElem _⟩
      have FO : Hid (Fr (fun _ => False) w wr) := HO.out wr HR.out.2.2.1.fr
      obtain ⟨gp, o, rfl, d0, d1, d2⟩ := (HP.out.fr FO.out (fun _ _ _ _ => id)) i j hj
      have hdrop : js.drop i = j :: js.drop (i + 1) := by
        rw [List.drop_eq_getElem_cons (by rw [HN.out]; exact hin)]
        congr 1
        have := List.getElem?_eq_getElem (l := js) (i := i) (by rw [HN.out]; exact hin)
        rw [hj] at this
        exact (Option.some.inj this).symm
      have HX : Hid (js[i]? = some j ∧ j ∈ js ∧ j < 7 ∧ js.drop i = j :: js.drop (i + 1)) := ⟨hj, List.mem_of_getElem? hj, H7.out j (List.mem_of_getElem? hj), hdrop⟩
      have hin2 : (i : Int) < (n : Int) := by omega
      have hls : leastP (js.drop i) = sizeP j + leastP (js.drop (i + 1)) := by rw [hdrop]; simp [leastP]
      have hl1 := HR.out.1
      obtain ⟨cut, hcut⟩ : ∃ cut, cutP j (b.drop at_) = cut := ⟨_, rfl⟩
      have hcl : cut ≤ len - at_ ∧ sizeP j ≤ cut ∧ leastP (js.drop (i + 1)) ≤ len - at_ - cut ∧ (sizeP j = 0 → cut = len - at_) ∧ (sizeP j ≠ 0 → cut = sizeP j) := by
        have hb := HL.out
        rw [← hcut, cutP]
        by_cases h0 : sizeP j = 0
        · rw [if_pos h0]
          have hlast := HZ.out i j hj h0
          have : js.drop (i + 1) = [] := List.drop_eq_nil_of_le (by rw [HN.out]; omega)
          rw [this]
          simp [leastP, hb, h0]
        · rw [if_neg h0]
          omega
      obtain ⟨dp, hdp1, hdp2, hdp3⟩ := cut3 a len cap at_ (at_ + cut) b HL.out hc (by omega) (by omega)
      rw [show at_ + cut - at_ = cut by omega] at hdp1 hdp2
      have hpl : ((b.drop at_).take cut).length = cut := by rw [List.length_take, List.length_drop, HL.out]; omega
      have S4 : Hid (RSt W w.heap.size fz pz kz qz dz (wr.alloc (.cells #[.int .i64 (sizeP j : Nat), .func (.func (wfn j)) #[] #[], .func (.func (rfn j)) #[] #[]] 110)).drew) := HR.out.2.2.1.later (((Fr.refl _ _).alloc _).drew)
      have KR := reader_in j HX.out.2.2.1 (wr.alloc (.cells #[.int .i64 (sizeP j : Nat), .func (.func (wfn j)) #[] #[], .func (.func (rfn j)) #[] #[]] 110)).drew fz pz qz kz dz w.heap.size dp cut cut ((b.drop at_).take cut) (wr.alloc (.cells #[.int .i64 (sizeP j : Nat), .func (.func (wfn j)) #[] #[], .func (.func (rfn j)) #[] #[]] 110)).drew { S4.out with fr := Fr.refl _ _ } HR.out.2.2.2.1 (hdp2 _ (HS.out.oldF (FO.out.trans (((Fr.refl _ _).alloc _).drew)))) hpl hcl.2.1 (fun h4 => by
          subst h4
          have hm4 : 4 ∈ js.drop i := by rw [HX.out.2.2.2]; simp
          have hy := HR.out.2.2.2.2 hm4
          refine ⟨hy.1, ?_⟩
          have h6 := (H4.out HX.out.2.1).2
          have h7 := hcl.2.2.2.1 (by decide)
          rw [h7, hy.2]
          omega) (by omega) (fun ad e hlp => by
          obtain ⟨ad', e1, e2⟩ := hdp3 ad e
          rw [e2]
          intro e3
          have := HAG.out ad' e1 (by rw [hpl] at hlp; rw [HL.out]; omega)
          omega)
      have hen := fun args w => enters_r j HX.out.2.2.1 args w
      have HCUT : Hid (cut ≤ len - at_ ∧ sizeP j ≤ cut ∧ leastP (js.drop (i + 1)) ≤ len - at_ - cut ∧ (sizeP j = 0 → cut = len - at_) ∧ (sizeP j ≠ 0 → cut = sizeP j)) := hcl
      have HPC : Hid (cutP j (b.drop at_) = cut) := hcut
      have HD : Hid (∀ w, (Instr.slice 31 (.slice a len cap) (some (.int .i64 (at_ : Int))) (some (.int .i64 ((at_ + cut : Nat) : Int))) (some (.int .i64 ((at_ + cut : Nat) : Int)))).run Try.prog w = .ok (.slice dp cut cut) w) := hdp1
      obtain ⟨sz, hsz⟩ : ∃ sz : Nat, sizeP j = sz := ⟨_, rfl⟩
      have HSZ : Hid (sizeP j = sz ∧ sz ≤ 8) := ⟨hsz, by rw [← hsz]; exact sizeP_le j⟩
      rw [hsz] at d0 KR S4
      obtain ⟨en, hen2⟩ : ∃ en : Nat, at_ + cut = en := ⟨_, rfl⟩
      have HEN : Hid (at_ + cut = en ∧ en ≤ len) := ⟨hen2, by omega⟩
      rw [hen2] at hdp1
      have hsz8 : sz ≤ 8 := HSZ.out.2
      have hdr : (wr.alloc (.cells #[.int .i64 (sz : Nat), .func (.func (wfn j)) #[] #[], .func (.func (rfn j)) #[] #[]] 110)).drew.cell? ⟨wr.heap.size, 2, none⟩ = some (.func (.func (rfn j)) #[] #[]) := cell_of_heap (show (wr.alloc _).heap[wr.heap.size]? = _ from heap_alloc_new wr _) rfl
      have FF : Hid (rd js f b = rd (js.drop (i + 1)) (rdP j fz ((b.drop at_).take cut)) (b.drop en)) := by
        show _ = _
        rw [← HR.out.2.1, HX.out.2.2.2, rd, HPC.out, List.drop_drop, HEN.out.1]
      have HY4 : Hid (4 ∈ js.drop (i + 1) → False) := fun h => by
        have h4 : 4 ∈ js := List.mem_of_mem_drop h
        obtain ⟨h5, _⟩ := H4.out h4
        rw [h5] at h
        simp at h
      clear hdrop hls hl1 hcl hcut hdp2 hdp3 hpl hsz hj hen2
      by_cases h0 : sz = 0
      case' pos =>
        subst h0
        have hce : len = en := by have h1 := HCUT.out.2.2.2.1 HSZ.out.1; have h2 := HEN.out; omega
        subst hce
      case' neg =>
        have hce : (at_ : Int) + (sz : Int) = (en : Int) := by have h1 := HCUT.out.2.2.2.2 (by rw [HSZ.out.1]; exact h0); have h2 := HSZ.out.1; have h3 := HEN.out; omega
        have hne0 : ((sz : Int) == 0) = false := by simp; omega
      all_goals
        go_wp2_with (fail)
        go_region_held_law (fun w' => w'.cell? ⟨wr.heap.size, 2, none⟩ = some (.func (.func (rfn j)) #[] #[])) (first | exact hdr | exact hdr5 | go_keep)
          ((refine KR.mono ?_; rintro e w5 ⟨rfl, p5, k5, q5, d5, hR5, hq5⟩; have R5 : Hid (RSt W w.heap.size (rdP j fz ((b.drop at_).take cut)) p5 k5 q5 d5 w5 ∧ ((rdP j fz ((b.drop at_).take cut)).Y = [] → q5 = none ∧ d5 = 0)) := ⟨{ hR5 with fr := S4.out.fr.trans hR5.fr }, hq5⟩; have hdr5 : w5.cell? ⟨wr.heap.size, 2, none⟩ = some (.func (.func (rfn j)) #[] #[]) := (hR5.fr.cell (p := ⟨wr.heap.size, 2, none⟩) (World.block_lt_of_cell? _ _ hdr) (fun e => Nat.lt_irrefl w.heap.size (by have h1 := lt_of_heap HR.out.2.2.1.at_; have h2 : wr.heap.size = w.heap.size := e; omega))).trans hdr; clear hR5 hq5))
        clear hdr5
        go_wp2_with (fail)
        go_roundw
        case rel =>
          have hC := HCUT.out
          have hE := HEN.out
          refine ⟨i + 1, at_ + cut, rdP j fz ((b.drop at_).take cut), p5, k5, q5, d5, by rw [hE.1], by go_num, by omega, by omega, ?_, ?_, R5.out.1, R5.out.2, fun h => (HY4.out h).elim⟩
          · omega
          · rw [hE.1]; exact FF.out.symm
        case measure => simp [intOf]; omega
    · obtain rfl : n = i := by omega
      have hfin : rd js f b = fz := by
        rw [← HR.out.2.1, List.drop_eq_nil_of_le (by rw [HN.out]; exact Nat.le_refl _)]
        rfl
      obtain ⟨c0, c1, c2, c3, c4, c5, c6, c7, c8, c9, c10, c11⟩ := fcells HR.out.2.2.1.at_
      have hone : (#[.int .i64 fz.k, .int .i64 fz.fl, .int .i64 fz.st, .slice pz fz.X.length kz, .int .i64 fz.pad, .int .u32 fz.code, .int .i64 fz.last, .int .i64 fz.inc, .int .i64 fz.dep, .bool fz.only, .int .i64 fz.wt, .slice qz fz.Y.length dz] : Array Value).all (·.oneCell') = true := by simp [Value.oneCell']
      have hinf : (Try.prog.info? 36).map (·.size) = some (#[.int .i64 fz.k, .int .i64 fz.fl, .int .i64 fz.st, .slice pz fz.X.length kz, .int .i64 fz.pad, .int .u32 fz.code, .int .i64 fz.last, .int .i64 fz.inc, .int .i64 fz.dep, .bool fz.only, .int .i64 fz.wt, .slice qz fz.Y.length dz] : Array Value).size := by kernel_rfl
      have HW5 : Hid (wr.heap[w.heap.size + 1]? = some (.cells #[.int .i64 0, .int .i64 0, .int .i64 0, .slice none 0 0, .int .i64 0, .int .u32 0, .int .i64 0, .int .i64 0, .int .i64 0, .bool false, .int .i64 0, .slice none 0 0] 36)) := (HR.out.2.2.1.fr.block (w.heap.size + 1) (lt_of_heap HRES.out) (by omega)).trans HRES.out
      go_wp2_with (refine wpList_storeB rfl 36 (.tmp 6) (.tmp 36) rfl (w.heap.size + 1) #[.int .i64 0, .int .i64 0, .int .i64 0, .slice none 0 0, .int .i64 0, .int .u32 0, .int .i64 0, .int .i64 0, .int .i64 0, .bool false, .int .i64 0, .slice none 0 0] #[.int .i64 fz.k, .int .i64 fz.fl, .int .i64 fz.st, .slice pz fz.X.length kz, .int .i64 fz.pad, .int .u32 fz.code, .int .i64 fz.last, .int .i64 fz.inc, .int .i64 fz.dep, .bool fz.only, .int .i64 fz.wt, .slice qz fz.Y.length dz] 36 (by go_simp) (by go_simp) HW5.out rfl hinf hone ?_; intro w6 H6 F6)
      have hx6 : FAt w6 (w.heap.size + 1) fz pz kz qz dz := H6.out
      obtain ⟨r0, r1, r2, r3, r4, r5, r6, r7, r8, r9, r10, r11⟩ := fcells hx6
      refine bodyPost_ret (v := .agg #[.int .i64 fz.k, .int .i64 fz.fl, .int .i64 fz.st, .slice pz fz.X.length kz, .int .i64 fz.pad, .int .u32 fz.code, .int .i64 fz.last, .int .i64 fz.inc, .int .i64 fz.dep, .bool fz.only, .int .i64 fz.wt, .slice qz fz.Y.length dz]) (by simp [results, Try.results65, go_sem, r0, r1, r2, r3, r4, r5, r6, r7, r8, r9, r10, r11]) rfl ?_
      rw [hfin]
      refine ⟨pz, kz, qz, dz, rfl, ?_, ?_, fun ad e hl => by have := HR.out.2.2.1.pg ad e hl; omega, fun ad e hl => by have := HR.out.2.2.1.qg ad e hl; omega, ?_⟩
      · exact HR.out.2.2.1.src.fr F6.out (fun ad e hl e2 => by have := HR.out.2.2.1.pg ad e hl; omega)
      · exact HR.out.2.2.1.sets.fr F6.out (fun ad e hl e2 => by have := HR.out.2.2.1.qg ad e hl; omega)
      · exact ((HO.out wr HR.out.2.2.1.fr).mono (T := fun k => k = w.heap.size + 1) (fun _ _ e => e.elim)).trans F6.out |>.mono (fun k hk e => by omega)
end Go.Proofs.Ytikaefjhmgcidaa
