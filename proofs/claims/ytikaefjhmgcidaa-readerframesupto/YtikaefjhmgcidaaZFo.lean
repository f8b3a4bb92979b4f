/- Contract of the program's reader of what stands behind a head. -/
import Derived.Test.YtikaefjhmgcidaaZFn
import Derived.Test.YtikaefjhmgcidaaZMXp
import Derived.Test.YtikaefjhmgcidaaZMFb
import Derived.ScopeJumps
import Derived.WalkMore
namespace Go.Proofs.Ytikaefjhmgcidaa
open Go.RowKit
set_option linter.unusedVariables false
set_option maxRecDepth 100000
set_option maxHeartbeats 4000000

theorem PartsAt.put {w w' : World} {sp : Option Addr} {js : List Nat} {k : Nat} {cs : Array Value} {t : TypeId} (h : PartsAt w sp js) (hb : w.heap[k]? = some (.cells cs t (0, 0))) (ht : t ≠ 110) (hf : Fr (fun j => j = k) w w') : PartsAt w' sp js := by
  rcases h with h | ⟨g, h1, h2⟩
  · exact .inl h
  · refine .inr ⟨g, h1, (hf.block g (lt_of_heap h2) (fun e => ?_)).trans h2⟩
    subst e
    rw [h2] at hb
    simp only [Option.some.injEq, Obj.cells.injEq] at hb
    exact ht hb.2.1.symm
theorem partsOf_is (f : Fra) : partsOf f ∈ [[2, 3], [3], [2], [1], [4], [0, 3], [5], [0, 1, 3], [6], []] := by
  unfold partsOf
  repeat' split
  all_goals simp
theorem partsOf_last {f : Fra} : ∀ i j, (partsOf f)[i]? = some j → sizeP j = 0 → i + 1 = (partsOf f).length := by
  have h := partsOf_is f
  generalize partsOf f = L at h
  intro i j hi hj
  simp only [List.mem_cons, List.not_mem_nil, or_false] at h
  rcases h with rfl | rfl | rfl | rfl | rfl | rfl | rfl | rfl | rfl | rfl
  all_goals rcases i with _ | _ | _ | i
  all_goals simp at hi
  all_goals first | rfl | (subst hi; revert hj; decide)
theorem partsOf_sets {f : Fra} (h : 4 ∈ partsOf f) : f.k = 4 ∧ partsOf f = [4] := by
  unfold partsOf at *
  repeat' split at h
  all_goals simp at h
  all_goals simp_all

/-- Where the reader stands: the frame, the two results as yet empty, the fault. -/
structure RdS (w W : World) (f : Fra) (p : Option Addr) (cp : Nat) (q : Option Addr) (cq : Nat) (bad : Flt) (wr : World) : Prop where
  at_ : FAt wr w.heap.size f p cp q cq
  res : wr.heap[w.heap.size + 1]? = some (.cells #[.int .i64 0, .int .i64 0, .int .i64 0, .slice none 0 0, .int .i64 0, .int .u32 0, .int .i64 0, .int .i64 0, .int .i64 0, .bool false, .int .i64 0, .slice none 0 0] 36 (0, 0))
  rft : wr.heap[w.heap.size + 2]? = some (.cells #[.bool false, .int .i64 0, .int .i64 0] 38 (0, 0))
  bd : wr.heap[w.heap.size + 3]? = some (.cells #[.bool bad.is, .int .i64 bad.st, .int .i64 bad.code] 38 (0, 0))
  fr : Fr (fun _ => False) w wr
theorem RdS.later {w W : World} {f : Fra} {p q : Option Addr} {cp cq : Nat} {bad : Flt} {wr w' : World} (h : RdS w W f p cp q cq bad wr) (hf : Fr (fun _ => False) wr w') : RdS w W f p cp q cq bad w' :=
  ⟨h.at_.later hf, (hf.block _ (lt_of_heap h.res) id).trans h.res, (hf.block _ (lt_of_heap h.rft) id).trans h.rft, (hf.block _ (lt_of_heap h.bd) id).trans h.bd, h.fr.trans hf⟩
theorem RdS.put {w W : World} {f : Fra} {p q : Option Addr} {cp cq : Nat} {bad bad' : Flt} {wr : World} (h : RdS w W f p cp q cq bad wr) (j : Nat) (v : Value) (hc : (#[.bool bad.is, .int .i64 bad.st, .int .i64 bad.code] : Array Value).setIfInBounds j v = #[.bool bad'.is, .int .i64 bad'.st, .int .i64 bad'.code]) : RdS w W f p cp q cq bad' (wr.setCell ⟨w.heap.size + 3, j, none⟩ v) := by
  have hb := block_set (j := j) (v := v) h.bd
  rw [hc] at hb
  have hf : Fr (fun k => k = w.heap.size + 3) wr (wr.setCell ⟨w.heap.size + 3, j, none⟩ v) := (Fr.refl _ _).setB j v
  exact ⟨(hf.block _ (lt_of_heap h.at_) (by omega)).trans h.at_, (hf.block _ (lt_of_heap h.res) (by omega)).trans h.res, (hf.block _ (lt_of_heap h.rft) (by omega)).trans h.rft, hb, ((h.fr.mono (T := fun k => k = w.heap.size + 3) (fun _ _ e => e.elim)).trans hf).mono (fun k hk e => by omega)⟩
/-- The frame's block is written anew. -/
theorem RdS.frame {w W : World} {f f' : Fra} {p q p' q' : Option Addr} {cp cq cp' cq' : Nat} {bad : Flt} {wr w' : World} (h : RdS w W f p cp q cq bad wr) (h' : FAt w' w.heap.size f' p' cp' q' cq') (hf : Fr (fun k => k = w.heap.size) wr w') : RdS w W f' p' cp' q' cq' bad w' :=
  ⟨h', (hf.block _ (lt_of_heap h.res) (by omega)).trans h.res, (hf.block _ (lt_of_heap h.rft) (by omega)).trans h.rft, (hf.block _ (lt_of_heap h.bd) (by omega)).trans h.bd, ((h.fr.mono (T := fun k => k = w.heap.size) (fun _ _ e => e.elim)).trans hf).mono (fun k hk e => by omega)⟩

/-- What the reader answers. -/
def RdAs (w : World) (o : Fra × Flt) (e : Ending) (w' : World) : Prop := ∃ p cp q cq, e = .returned (.tuple #[.agg #[.int .i64 o.1.k, .int .i64 o.1.fl, .int .i64 o.1.st, .slice p o.1.X.length cp, .int .i64 o.1.pad, .int .u32 o.1.code, .int .i64 o.1.last, .int .i64 o.1.inc, .int .i64 o.1.dep, .bool o.1.only, .int .i64 o.1.wt, .slice q o.1.Y.length cq], .agg #[.bool o.2.is, .int .i64 o.2.st, .int .i64 o.2.code]]) ∧ SrcAt w' p o.1.X ∧ SetsAt w' q cq o.1.Y ∧ (∀ ad, p = some ad → 0 < o.1.X.length → w.heap.size ≤ ad.block) ∧ (∀ ad, q = some ad → 0 < o.1.Y.length → w.heap.size ≤ ad.block) ∧ Fr (fun _ => False) w w'

/-- What holds at the label: the fault stands, and is the answer. -/
def AtFault (w W : World) (out : Fra × Flt) (a' : Act) (w' : World) : Prop :=
  ∃ (f : Fra) (p : Option Addr) (cp : Nat) (q : Option Addr) (cq : Nat) (bad : Flt) (u0 u1 u2 u3 u7 u8 u9 u10 u11 u12 u13 u14 u15 u16 u17 u18 u19 u20 u21 u22 u23 u24 u25 u26 u27 u28 u29 u30 u31 u32 u33 u34 u35 u36 u37 u38 u39 u40 u41 u42 u43 u44 u45 u46 u47 u48 u49 u50 u51 u52 u53 u54 u55 u56 u57 u58 u59 u60 u61 u62 u63 u64 u65 u66 u67 u68 u69 u70 u71 u72 u73 u74 u75 u76 u77 u78 u79 u80 u81 u82 u83 u84 u85 : Value), a' = { tmps := #[u0, u1, u2, u3, .pointer (some ⟨w.heap.size + 1, 0, none⟩), .pointer (some ⟨w.heap.size + 2, 0, none⟩), .pointer (some ⟨w.heap.size + 3, 0, none⟩), u7, u8, u9, u10, u11, u12, u13, u14, u15, u16, u17, u18, u19, u20, u21, u22, u23, u24, u25, u26, u27, u28, u29, u30, u31, u32, u33, u34, u35, u36, u37, u38, u39, u40, u41, u42, u43, u44, u45, u46, u47, u48, u49, u50, u51, u52, u53, u54, u55, u56, u57, u58, u59, u60, u61, u62, u63, u64, u65, u66, u67, u68, u69, u70, u71, u72, u73, u74, u75, u76, u77, u78, u79, u80, u81, u82, u83, u84, u85], defers := [] } ∧ RdS w W f p cp q cq bad w' ∧ out = (zeroF, bad)
theorem atFault_mk {w W : World} {out : Fra × Flt} {w' : World} {f : Fra} {p q : Option Addr} {cp cq : Nat} {bad : Flt} (u0 u1 u2 u3 u7 u8 u9 u10 u11 u12 u13 u14 u15 u16 u17 u18 u19 u20 u21 u22 u23 u24 u25 u26 u27 u28 u29 u30 u31 u32 u33 u34 u35 u36 u37 u38 u39 u40 u41 u42 u43 u44 u45 u46 u47 u48 u49 u50 u51 u52 u53 u54 u55 u56 u57 u58 u59 u60 u61 u62 u63 u64 u65 u66 u67 u68 u69 u70 u71 u72 u73 u74 u75 u76 u77 u78 u79 u80 u81 u82 u83 u84 u85 : Value) (h : RdS w W f p cp q cq bad w') (ho : out = (zeroF, bad)) : AtFault w W out { tmps := #[u0, u1, u2, u3, .pointer (some ⟨w.heap.size + 1, 0, none⟩), .pointer (some ⟨w.heap.size + 2, 0, none⟩), .pointer (some ⟨w.heap.size + 3, 0, none⟩), u7, u8, u9, u10, u11, u12, u13, u14, u15, u16, u17, u18, u19, u20, u21, u22, u23, u24, u25, u26, u27, u28, u29, u30, u31, u32, u33, u34, u35, u36, u37, u38, u39, u40, u41, u42, u43, u44, u45, u46, u47, u48, u49, u50, u51, u52, u53, u54, u55, u56, u57, u58, u59, u60, u61, u62, u63, u64, u65, u66, u67, u68, u69, u70, u71, u72, u73, u74, u75, u76, u77, u78, u79, u80, u81, u82, u83, u84, u85], defers := [] } w' :=
  ⟨f, p, cp, q, cq, bad, u0, u1, u2, u3, u7, u8, u9, u10, u11, u12, u13, u14, u15, u16, u17, u18, u19, u20, u21, u22, u23, u24, u25, u26, u27, u28, u29, u30, u31, u32, u33, u34, u35, u36, u37, u38, u39, u40, u41, u42, u43, u44, u45, u46, u47, u48, u49, u50, u51, u52, u53, u54, u55, u56, u57, u58, u59, u60, u61, u62, u63, u64, u65, u66, u67, u68, u69, u70, u71, u72, u73, u74, u75, u76, u77, u78, u79, u80, u81, u82, u83, u84, u85, rfl, h, ho⟩

theorem read_in (f : Fra) (p q : Option Addr) (cp cq : Nat) (a : Option Addr) (len cap : Nat) (b : List UInt8) (w : World) (h0 : 0 ≤ f.fl) (h1 : f.fl ≤ 255) (hX : SrcAt w p f.X) (hY : SetsAt w q cq f.Y) (hY0 : f.Y = [] ∧ q = none ∧ cq = 0 ∧ f.pad = 0 ∧ f.X = []) (hs : SrcAt w a b) (hl : b.length = len) (hc : len ≤ cap) (hm : len ≤ 16777215) :
    Calls Try.prog 56 #[.agg #[.int .i64 f.k, .int .i64 f.fl, .int .i64 f.st, .slice p f.X.length cp, .int .i64 f.pad, .int .u32 f.code, .int .i64 f.last, .int .i64 f.inc, .int .i64 f.dep, .bool f.only, .int .i64 f.wt, .slice q f.Y.length cq], .slice a len cap] w fun e w' => RdAs w (readO f b) e w' := by
  obtain ⟨W, hW⟩ : ∃ W, W = (((w.alloc (.cells #[.int .i64 f.k, .int .i64 f.fl, .int .i64 f.st, .slice p f.X.length cp, .int .i64 f.pad, .int .u32 f.code, .int .i64 f.last, .int .i64 f.inc, .int .i64 f.dep, .bool f.only, .int .i64 f.wt, .slice q f.Y.length cq] 36)).alloc (.cells #[.int .i64 0, .int .i64 0, .int .i64 0, .slice none 0 0, .int .i64 0, .int .u32 0, .int .i64 0, .int .i64 0, .int .i64 0, .bool false, .int .i64 0, .slice none 0 0] 36)).alloc (.cells #[.bool false, .int .i64 0, .int .i64 0] 38)).alloc (.cells #[.bool true, .int .i64 0, .int .i64 1] 38) := ⟨_, rfl⟩
  have hfw : Fr (fun _ => False) w W := by rw [hW]; exact ((((Fr.refl _ _).alloc _).alloc _).alloc _).alloc _
  have S0 : Hid (RdS w W f p cp q cq ⟨true, 0, 1⟩ W) := by
    rw [hW]
    exact ⟨past_at _ (past_at _ (past_at _ (heap_alloc_new w _))), past_at _ (past_at _ (last_at _ (by simp))), past_at _ (last_at _ (by simp)), last_at _ (by simp), hW ▸ hfw⟩
  have KL : Hid (∀ w, Calls Try.prog 60 #[.agg #[.int .i64 f.k, .int .i64 f.fl, .int .i64 f.st, .slice p f.X.length cp, .int .i64 f.pad, .int .u32 f.code, .int .i64 f.last, .int .i64 f.inc, .int .i64 f.dep, .bool f.only, .int .i64 f.wt, .slice q f.Y.length cq]] w fun e w' => (∃ sp, e = .returned (.slice sp (partsOf f).length (partsOf f).length) ∧ PartsAt w' sp (partsOf f)) ∧ Fr (fun _ => False) w w') := fun w => parts_in f p q cp cq w h0 h1
  have KPl : Hid (∀ w, Calls Try.prog 61 #[.agg #[.int .i64 f.k, .int .i64 f.fl, .int .i64 f.st, .slice p f.X.length cp, .int .i64 f.pad, .int .u32 f.code, .int .i64 f.last, .int .i64 f.inc, .int .i64 f.dep, .bool f.only, .int .i64 f.wt, .slice q f.Y.length cq]] w fun e w' => e = .returned (.bool (placedB f.k f.st)) ∧ Fr (fun _ => False) w w') := fun w => placed_in f p q cp cq w
  have KSz : Hid (∀ w, Calls Try.prog 62 #[.agg #[.int .i64 f.k, .int .i64 f.fl, .int .i64 f.st, .slice p f.X.length cp, .int .i64 f.pad, .int .u32 f.code, .int .i64 f.last, .int .i64 f.inc, .int .i64 f.dep, .bool f.only, .int .i64 f.wt, .slice q f.Y.length cq], .int .i64 len] w fun e w' => e = .returned (.bool (sizedB f len)) ∧ Fr (fun _ => False) w w') := fun w => sized_in f len p q cp cq w h0 h1 (by omega)
  have KPd : Hid (∀ w, Calls Try.prog 63 #[.agg #[.int .i64 f.k, .int .i64 f.fl, .int .i64 f.st, .slice p f.X.length cp, .int .i64 f.pad, .int .u32 f.code, .int .i64 f.last, .int .i64 f.inc, .int .i64 f.dep, .bool f.only, .int .i64 f.wt, .slice q f.Y.length cq]] w fun e w' => e = .returned (.bool (padd f)) ∧ Fr (fun _ => False) w w') := fun w => padded_in f p q cp cq w h0 h1
  have HX : Hid (SrcAt w p f.X) := hX
  have HY : Hid (SetsAt w q cq f.Y) := hY
  have HY0 : Hid (f.Y = [] ∧ q = none ∧ cq = 0 ∧ f.pad = 0 ∧ f.X = []) := hY0
  have HS : Hid (SrcAt w a b) := hs
  have HL : Hid (b.length = len) := hl
  obtain ⟨out, hout⟩ : ∃ out, readO f b = out := ⟨_, rfl⟩
  have HO : Hid (readO f b = out) := hout
  rw [hout]
  obtain ⟨js, hjs⟩ : ∃ js, partsOf f = js := ⟨_, rfl⟩
  obtain ⟨n, hn⟩ : ∃ n, js.length = n := ⟨_, rfl⟩
  have HJ : Hid (partsOf f = js ∧ js.length = n) := ⟨hjs, hn⟩
  rw [hjs, hn] at KL
  clear hX hY hY0 hs hl hout hjs hn h0 h1
  go_enter Try.func56, Try.ntmps56
  go_wp2_with (fail)
  refine wp_scope_jumps 0 (AtFault w W out) (fun _ _ => 0) rfl ?_ ?_
  · go_wp2_with (fail)
    rw [← hW]
    refine (KL.out _).mono ?_
    rintro e w1 ⟨⟨sp, rfl, hpt⟩, hf1⟩
    have S1 : Hid (RdS w W f p cp q cq ⟨true, 0, 1⟩ w1) := S0.out.later hf1
    have P1 : Hid (PartsAt w1 sp js) := hpt
    obtain ⟨c0, c1, c2, c3, c4, c5, c6, c7, c8, c9, c10, c11⟩ := fcells S1.out.at_
    clear hf1 hpt hfw
    go_wp2_with (fail)
    refine (KPl.out _).mono ?_
    rintro e w2 ⟨rfl, hf2⟩
    have S2 : Hid (RdS w W f p cp q cq ⟨true, 0, 1⟩ w2) := S1.out.later hf2
    have P2 : Hid (PartsAt w2 sp js) := P1.out.later hf2
    clear c0 c1 c2 c3 c4 c5 c6 c7 c8 c9 c10 c11 hf2
    have b2 : w2.cell? ⟨w.heap.size + 3, 2, none⟩ = some (.int .i64 1) := cell_of_heap S2.out.bd rfl
    have z2 : w2.frozen? ⟨w.heap.size + 3, 2, none⟩ = false := frozen_of_heap S2.out.bd
    cases hpl : placedB f.k f.st
    case false =>
      have HE : Hid (out = (zeroF, ⟨true, 0, 1⟩)) := by show _ = _; rw [← HO.out, readO, if_pos hpl]
      go_wp2_with (fail)
      go_step3
      simp only [Exit.then, Exit.jump]
      refine ⟨trivial, ?_⟩
      exact atFault_mk _ _ _ _ _ _ _ _ _ _ _ _ _ _ _ _ _ _ _ _ _ _ _ _ _ _ _ _ _ _ _ _ _ _ _ _ _ _ _ _ _ _ _ _ _ _ _ _ _ _ _ _ _ _ _ _ _ _ _ _ _ _ _ _ _ _ _ _ _ _ _ _ _ _ _ _ _ _ _ _ _ _ _ S2.out HE.out
    case true =>
      have S3 : Hid (RdS w W f p cp q cq ⟨true, 0, 6⟩ (w2.setCell ⟨w.heap.size + 3, 2, none⟩ (.int .i64 6))) := S2.out.put 2 _ rfl
      have P3 : Hid (PartsAt (w2.setCell ⟨w.heap.size + 3, 2, none⟩ (.int .i64 6)) sp js) := P2.out.put S2.out.bd (by decide) ((Fr.refl _ _).setB _ _)
      obtain ⟨c0, c1, c2, c3, c4, c5, c6, c7, c8, c9, c10, c11⟩ := fcells S3.out.at_
      have HPL : Hid (placedB f.k f.st = true) := hpl
      clear hpl
      go_wp2_with (fail)
      refine (KSz.out _).mono ?_
      rintro e w4 ⟨rfl, hf4⟩
      have S4 : Hid (RdS w W f p cp q cq ⟨true, 0, 6⟩ w4) := S3.out.later hf4
      have P4 : Hid (PartsAt w4 sp js) := P3.out.later hf4
      clear c0 c1 c2 c3 c4 c5 c6 c7 c8 c9 c10 c11 b2 z2 hf4
      obtain ⟨c0, c1, c2, c3, c4, c5, c6, c7, c8, c9, c10, c11⟩ := fcells S4.out.at_
      cases hsz : sizedB f len
      case false =>
        have HE : Hid (out = (zeroF, ⟨true, if f.k = 2 then f.st else 0, 6⟩)) := by show _ = _; rw [← HO.out, readO, if_neg (by rw [HPL.out]; simp), if_pos (by rw [HL.out]; exact hsz)]
        have b1 : w4.cell? ⟨w.heap.size + 3, 1, none⟩ = some (.int .i64 0) := cell_of_heap S4.out.bd rfl
        have z1 : w4.frozen? ⟨w.heap.size + 3, 1, none⟩ = false := frozen_of_heap S4.out.bd
        cases hk2 : (f.k == 2)
        case false =>
          have hk : ¬ f.k = 2 := by simpa using hk2
          have HE2 : Hid (out = (zeroF, ⟨true, 0, 6⟩)) := by show _ = _; rw [HE.out, if_neg hk]
          clear hk
          go_wp2_with (fail)
          go_step3
          simp only [Exit.then, Exit.jump]
          refine ⟨trivial, ?_⟩
          exact atFault_mk _ _ _ _ _ _ _ _ _ _ _ _ _ _ _ _ _ _ _ _ _ _ _ _ _ _ _ _ _ _ _ _ _ _ _ _ _ _ _ _ _ _ _ _ _ _ _ _ _ _ _ _ _ _ _ _ _ _ _ _ _ _ _ _ _ _ _ _ _ _ _ _ _ _ _ _ _ _ _ _ _ _ _ S4.out HE2.out
        case true =>
          have hk : f.k = 2 := by simpa using hk2
          have HE2 : Hid (out = (zeroF, ⟨true, f.st, 6⟩)) := by show _ = _; rw [HE.out, if_pos hk]
          clear hk
          go_wp2_with (fail)
          go_step3
          simp only [Exit.then, Exit.jump]
          refine ⟨trivial, ?_⟩
          exact atFault_mk _ _ _ _ _ _ _ _ _ _ _ _ _ _ _ _ _ _ _ _ _ _ _ _ _ _ _ _ _ _ _ _ _ _ _ _ _ _ _ _ _ _ _ _ _ _ _ _ _ _ _ _ _ _ _ _ _ _ _ _ _ _ _ _ _ _ _ _ _ _ _ _ _ _ _ _ _ _ _ _ _ _ _ (S4.out.put 1 _ rfl) HE2.out
      case true =>
        have HSZ : Hid (sizedB f b.length = true) := by show _ = _; rw [HL.out]; exact hsz
        clear hsz
        go_wp2_with (fail)
        refine (KPd.out _).mono ?_
        rintro e w5 ⟨rfl, hf5⟩
        have S5 : Hid (RdS w W f p cp q cq ⟨true, 0, 6⟩ w5) := S4.out.later hf5
        have P5 : Hid (PartsAt w5 sp js) := P4.out.later hf5
        clear c0 c1 c2 c3 c4 c5 c6 c7 c8 c9 c10 c11 hf5
        obtain ⟨lst, hlst⟩ : ∃ lst, leastP js = lst := ⟨_, rfl⟩
        have HLS : Hid (leastP js = lst) := hlst
        have hlst24 : lst ≤ 24 := by have h1 := leastP_le js; have h2 := partsOf_few f; rw [HJ.out.1] at h2; rw [← hlst]; omega
        clear hlst
        cases hpd : padd f
        case false =>
          obtain ⟨f1, hf1⟩ : ∃ f1 : Fra, f1 = { f with pad := (0 : Int) } := ⟨_, rfl⟩
          obtain ⟨x, hx⟩ : ∃ x : Nat, x = 0 := ⟨_, rfl⟩
          have hff : f1 = f := by rw [hf1, ← HY0.out.2.2.2.1]
          have HF1 : Hid (f1.pad = (x : Int) ∧ x = padN f b ∧ f1 = { f with pad := ((padN f b : Nat) : Int) }) := by
            have : padN f b = 0 := by simp [padN, hpd]
            rw [this, hx, hf1]
            exact ⟨rfl, rfl, rfl⟩
          have HB1 : Hid (SrcAt w a (padC f b) ∧ (padC f b).length = len ∧ len ≤ cap) := by
            have : padC f b = b := by simp [padC, hpd]
            rw [this]
            exact ⟨HS.out, HL.out, hc⟩
          have HNZ : Hid (¬ (padd f = true ∧ b.length = 0)) := fun h => by rw [hpd] at h; cases h.1
          have HP0 : Hid (f.k = 4 → x = 0 ∧ len = len) := fun _ => ⟨hx, rfl⟩
          have S6 : Hid (RdS w W f1 p cp q cq ⟨true, 0, 6⟩ w5) := by rw [hff]; exact S5.out
          have P6 : Hid (PartsAt w5 sp js) := P5.out
          clear hf1 hx hff hpd
          have hn3 : n ≤ 3 := by rw [← HJ.out.2, ← HJ.out.1]; exact partsOf_few f
          have KLe : Hid (∀ w', PartsAt w' sp js → Calls Try.prog 64 #[.slice sp n n] w' fun e w2 => e = .returned (.int .i64 (lst : Nat)) ∧ Fr (fun _ => False) w' w2) := fun w' hp => by rw [← HLS.out]; exact least_in sp js n n w' HJ.out.2 hn3 hp.cells
          go_wp2_with (fail)
          refine (KLe.out _ P6.out).mono ?_
          rintro e w7 ⟨rfl, hf7⟩
          have S7 : Hid (RdS w W f1 p cp q cq ⟨true, 0, 6⟩ w7) := S6.out.later hf7
          have P7 : Hid (PartsAt w7 sp js) := P6.out.later hf7
          clear hf7
          by_cases hls : len < lst
          case pos =>
            have HE : Hid (out = (zeroF, ⟨true, 0, 6⟩)) := by show _ = _; rw [← HO.out, readO, if_neg (by rw [HPL.out]; simp), if_neg (by rw [HSZ.out]; simp), if_neg HNZ.out, if_pos (by rw [HB1.out.2.1, HJ.out.1, HLS.out]; exact hls)]
            have hls2 : (len : Int) < (lst : Int) := by omega
            go_wp2_with (fail)
            go_step3
            simp only [Exit.then, Exit.jump]
            refine ⟨trivial, ?_⟩
            exact atFault_mk _ _ _ _ _ _ _ _ _ _ _ _ _ _ _ _ _ _ _ _ _ _ _ _ _ _ _ _ _ _ _ _ _ _ _ _ _ _ _ _ _ _ _ _ _ _ _ _ _ _ _ _ _ _ _ _ _ _ _ _ _ _ _ _ _ _ _ _ _ _ _ _ _ _ _ _ _ _ _ _ _ _ _ S7.out HE.out
          case neg =>
            have hls2 : ¬ (len : Int) < (lst : Int) := by omega
            have b2 : w7.cell? ⟨w.heap.size + 3, 2, none⟩ = some (.int .i64 6) := cell_of_heap S7.out.bd rfl
            have z2 : w7.frozen? ⟨w.heap.size + 3, 2, none⟩ = false := frozen_of_heap S7.out.bd
            have S8 : Hid (RdS w W f1 p cp q cq ⟨true, 0, 1⟩ (w7.setCell ⟨w.heap.size + 3, 2, none⟩ (.int .i64 1)).drew) := (S7.out.put (bad' := ⟨true, 0, 1⟩) 2 (.int .i64 1) rfl).later ((Fr.refl _ _).drew)
            have P8 : Hid (PartsAt (w7.setCell ⟨w.heap.size + 3, 2, none⟩ (.int .i64 1)).drew sp js) := (P7.out.put S7.out.bd (by decide) ((Fr.refl _ _).setB _ _)).later ((Fr.refl _ _).drew)
            have d4 : (w7.setCell ⟨w.heap.size + 3, 2, none⟩ (.int .i64 1)).drew.cell? ⟨w.heap.size, 4, none⟩ = some (.int .i64 f1.pad) := cell_of_heap S8.out.at_ rfl
            have hsub : (len : Int) - (lst : Int) = ((len - lst : Nat) : Int) := by omega
            obtain ⟨dif, hdif⟩ : ∃ dif : Nat, len - lst = dif := ⟨_, rfl⟩
            have HDIF : Hid (len - lst = dif ∧ ¬ len < lst) := ⟨hdif, hls⟩
            have hdb : dif ≤ 16777215 := by omega
            have hwd : IntKind.i64.wrap (dif : Int) = (dif : Int) := by rw [IntKind.wrap_i64]; omega
            rw [hdif] at hsub
            clear hdif
            have hpx : f1.pad = (x : Int) := HF1.out.1
            have hgt : decide ((dif : Int) < f1.pad) = decide (dif < x) := by rw [hpx]; simp
            cases hover : decide (dif < x)
            case true =>
              have hov : dif < x := of_decide_eq_true hover
              have HE : Hid (out = (zeroF, ⟨true, 0, 1⟩)) := by show _ = _; rw [← HO.out, readO, if_neg (by rw [HPL.out]; simp), if_neg (by rw [HSZ.out]; simp), if_neg HNZ.out, if_neg (by rw [HB1.out.2.1, HJ.out.1, HLS.out]; exact HDIF.out.2), if_pos (by rw [HB1.out.2.1, HJ.out.1, HLS.out, HDIF.out.1, ← HF1.out.2.1]; exact hov)]
              rw [hover] at hgt
              clear hpx hover hov
              go_wp2_with (fail)
              go_region_held_law (fun w' => w'.cell? ⟨w.heap.size, 4, none⟩ = some (.int .i64 f1.pad)) (first | exact d4 | exact e4 | go_keep)
                ((go_at_call 64; refine (KLe.out _ P8.out).mono ?_; rintro e w9 ⟨rfl, hf9⟩; have S9 : Hid (RdS w W f1 p cp q cq ⟨true, 0, 1⟩ w9) := S8.out.later hf9; have e4 : w9.cell? ⟨w.heap.size, 4, none⟩ = some (.int .i64 f1.pad) := cell_of_heap S9.out.at_ rfl; clear hf9))
              all_goals clear d4 e4
              all_goals go_wp2_with (fail)
              all_goals go_step3
              all_goals simp only [Exit.then, Exit.jump]
              all_goals refine ⟨trivial, ?_⟩
              all_goals exact atFault_mk _ _ _ _ _ _ _ _ _ _ _ _ _ _ _ _ _ _ _ _ _ _ _ _ _ _ _ _ _ _ _ _ _ _ _ _ _ _ _ _ _ _ _ _ _ _ _ _ _ _ _ _ _ _ _ _ _ _ _ _ _ _ _ _ _ _ _ _ _ _ _ _ _ _ _ _ _ _ _ _ _ _ _ S9.out HE.out
            case false =>
              have hov : ¬ dif < x := of_decide_eq_false hover
              obtain ⟨hi, hhi⟩ : ∃ hi : Nat, len - x = hi := ⟨_, rfl⟩
              obtain ⟨dp, hcut, hcs⟩ := cut3n a len cap hi (padC f b) HB1.out.2.1 HB1.out.2.2 (by omega)
              have hsub2 : (len : Int) - f1.pad = (hi : Int) := by rw [hpx]; have := HDIF.out; omega
              have hhb : hi ≤ 16777215 := by omega
              have hwh : IntKind.i64.wrap (hi : Int) = (hi : Int) := by rw [IntKind.wrap_i64]; omega
              obtain ⟨gf, hgf⟩ : ∃ gf, rd js f1 ((padC f b).take hi) = gf := ⟨_, rfl⟩
              have HOUT : Hid (out = if gf.k = 8 ∧ gf.inc = 0 then (zeroF, ⟨true, gf.st, 1⟩) else (gf, ⟨false, 0, 0⟩)) := by
                show _ = _
                rw [← HO.out, readO, if_neg (by rw [HPL.out]; simp), if_neg (by rw [HSZ.out]; simp), if_neg HNZ.out, if_neg (by rw [HB1.out.2.1, HJ.out.1, HLS.out]; exact HDIF.out.2), if_neg (by rw [HB1.out.2.1, HJ.out.1, HLS.out, HDIF.out.1, ← HF1.out.2.1]; exact hov)]
                have hg : rd (partsOf f) { f with pad := ((padN f b : Nat) : Int) } ((padC f b).take ((padC f b).length - padN f b)) = gf := by
                  rw [← HF1.out.2.2, HJ.out.1, HB1.out.2.1, ← HF1.out.2.1, hhi]; exact hgf
                simp only [hg]
              have H4 : Hid (4 ∈ js → js = [4] ∧ hi % 6 = 0) := fun h => by
                rw [← HJ.out.1] at h
                obtain ⟨h1, h2⟩ := partsOf_sets h
                refine ⟨by rw [← HJ.out.1]; exact h2, ?_⟩
                have h3 := HSZ.out
                have h5 := HP0.out h1
                rw [← hhi]
                simp only [sizedB, h1, HL.out] at h3
                simp at h3
                omega
              have HHI : Hid ((gf = rd js f1 ((padC f b).take hi)) ∧ ((padC f b).take hi).length = hi ∧ leastP js ≤ hi) := ⟨hgf.symm, by rw [List.length_take, HB1.out.2.1]; omega, by rw [HLS.out]; have := HDIF.out; omega⟩
              have KRP : Hid (∀ w', RdS w W f1 p cp q cq ⟨true, 0, 1⟩ w' → PartsAt w' sp js → Calls Try.prog 65 #[.agg #[.int .i64 f1.k, .int .i64 f1.fl, .int .i64 f1.st, .slice p f1.X.length cp, .int .i64 f1.pad, .int .u32 f1.code, .int .i64 f1.last, .int .i64 f1.inc, .int .i64 f1.dep, .bool f1.only, .int .i64 f1.wt, .slice q f1.Y.length cq], .slice sp n n, .slice dp hi hi] w' fun e w2 => ∃ p' cp' q' cq', e = .returned (.agg #[.int .i64 gf.k, .int .i64 gf.fl, .int .i64 gf.st, .slice p' gf.X.length cp', .int .i64 gf.pad, .int .u32 gf.code, .int .i64 gf.last, .int .i64 gf.inc, .int .i64 gf.dep, .bool gf.only, .int .i64 gf.wt, .slice q' gf.Y.length cq']) ∧ SrcAt w2 p' gf.X ∧ SetsAt w2 q' cq' gf.Y ∧ (∀ ad, p' = some ad → 0 < gf.X.length → w'.heap.size ≤ ad.block) ∧ (∀ ad, q' = some ad → 0 < gf.Y.length → w'.heap.size ≤ ad.block) ∧ Fr (fun _ => False) w' w2) := fun w' hS hP => by
                have e1 : f1.X = f.X ∧ f1.Y = f.Y := by rw [HF1.out.2.2]; exact ⟨rfl, rfl⟩
                have h := readParts_in f1 p q cp cq sp js n n dp hi hi ((padC f b).take hi) w' hP.cells HJ.out.2 hn3 (by rw [← HJ.out.1]; exact partsOf_lt) (by rw [← HJ.out.2, ← HJ.out.1]; exact partsOf_last) H4.out (by rw [e1.1]; exact HX.out.oldF hS.fr) (by rw [e1.1]; exact HY0.out.2.2.2.2) (by rw [e1.2]; exact HY.out.later hS.fr) (by rw [e1.2]; exact HY0.out.1) HY0.out.2.1 HY0.out.2.2.1 (hcs _ (HB1.out.1.oldF hS.fr)) HHI.out.2.1 (Nat.le_refl _) hhb HHI.out.2.2
                rw [hgf] at h
                exact h
              rw [hover] at hgt
              clear hpx hover hov hgf hhi hcs
              go_wp2_with (fail)
              go_region_held_law (fun w' => w'.cell? ⟨w.heap.size, 4, none⟩ = some (.int .i64 f1.pad)) (first | exact d4 | exact e4 | go_keep)
                ((go_at_call 64; refine (KLe.out _ P8.out).mono ?_; rintro e w9 ⟨rfl, hf9⟩; have S9 : Hid (RdS w W f1 p cp q cq ⟨true, 0, 1⟩ w9) := S8.out.later hf9; have P9 : Hid (PartsAt w9 sp js) := P8.out.later hf9; have e4 : w9.cell? ⟨w.heap.size, 4, none⟩ = some (.int .i64 f1.pad) := cell_of_heap S9.out.at_ rfl; clear hf9))
              all_goals clear d4 e4 b2 z2
              all_goals obtain ⟨c0, c1, c2, c3, c4, c5, c6, c7, c8, c9, c10, c11⟩ := fcells S9.out.at_
              all_goals go_wp2_with (fail)
              all_goals refine wp_region_cut 14 2 #[true, true, true, true, true, true, true, true, true, true, true, true, true, true, false, false] (by kernel_rfl) (by kernel_rfl) rfl rfl ?_
              all_goals simp only [List.take_succ_cons, List.take_zero]
              all_goals repeat (go_big_quiet_step (fail))
              all_goals refine wpQuiet_nil ?_
              all_goals rintro _ ⟨nq, rfl⟩ mm
              all_goals clear c0 c1 c2 c3 c4 c5 c6 c7 c8 c9 c10 c11
              all_goals have S9n : Hid (RdS w W f1 p cp q cq ⟨true, 0, 1⟩ (w9.drewN nq)) := S9.out.later ((Fr.refl _ _).drewN nq)
              all_goals have P9n : Hid (PartsAt (w9.drewN nq) sp js) := P9.out.later ((Fr.refl _ _).drewN nq)
              all_goals refine wpAny_ready (rs := [14]) (by kernel_rfl) (by simp) ?_
              all_goals refine AllReady.cons rfl (fun K hK => ?_) AllReady.nil
              all_goals go_simp
              all_goals refine (KRP.out _ S9n.out P9n.out).mono ?_
              all_goals rintro e w10 ⟨p', k', q', d', rfl, hX', hY', hpf, hqf, hf10⟩
              all_goals refine hK _ _ ?_
              all_goals clear hK K
              all_goals have S10 : Hid (RdS w W f1 p cp q cq ⟨true, 0, 1⟩ w10) := S9n.out.later hf10
              all_goals have hbig : w.heap.size + 4 ≤ (w9.drewN nq).heap.size := by have := lt_of_heap S9n.out.bd; omega
              all_goals have G10 : Hid (SrcAt w10 p' gf.X ∧ SetsAt w10 q' d' gf.Y ∧ (∀ ad, p' = some ad → 0 < gf.X.length → w.heap.size + 4 ≤ ad.block) ∧ (∀ ad, q' = some ad → 0 < gf.Y.length → w.heap.size + 4 ≤ ad.block)) := ⟨hX', hY', fun ad e hl => Nat.le_trans hbig (hpf ad e hl), fun ad e hl => Nat.le_trans hbig (hqf ad e hl)⟩
              all_goals clear hX' hY' hpf hqf hf10 hbig
              all_goals have hone : (#[.int .i64 gf.k, .int .i64 gf.fl, .int .i64 gf.st, .slice p' gf.X.length k', .int .i64 gf.pad, .int .u32 gf.code, .int .i64 gf.last, .int .i64 gf.inc, .int .i64 gf.dep, .bool gf.only, .int .i64 gf.wt, .slice q' gf.Y.length d'] : Array Value).all (·.oneCell') = true := by simp [Value.oneCell']
              all_goals have hinf : (Try.prog.info? 36).map (·.size) = some (#[.int .i64 gf.k, .int .i64 gf.fl, .int .i64 gf.st, .slice p' gf.X.length k', .int .i64 gf.pad, .int .u32 gf.code, .int .i64 gf.last, .int .i64 gf.inc, .int .i64 gf.dep, .bool gf.only, .int .i64 gf.wt, .slice q' gf.Y.length d'] : Array Value).size := by kernel_rfl
              all_goals refine wpAny_ready (rs := [15]) (by kernel_rfl) (by simp) ?_
              all_goals refine AllReady.cons rfl (fun K hK => ?_) AllReady.nil
              all_goals refine stepR_storeB rfl rfl 36 (.tmp 2) (.tmp 70) rfl w.heap.size #[.int .i64 f1.k, .int .i64 f1.fl, .int .i64 f1.st, .slice p f1.X.length cp, .int .i64 f1.pad, .int .u32 f1.code, .int .i64 f1.last, .int .i64 f1.inc, .int .i64 f1.dep, .bool f1.only, .int .i64 f1.wt, .slice q f1.Y.length cq] #[.int .i64 gf.k, .int .i64 gf.fl, .int .i64 gf.st, .slice p' gf.X.length k', .int .i64 gf.pad, .int .u32 gf.code, .int .i64 gf.last, .int .i64 gf.inc, .int .i64 gf.dep, .bool gf.only, .int .i64 gf.wt, .slice q' gf.Y.length d'] 36 rfl rfl S10.out.at_ rfl hinf hone ?_
              all_goals intro w11 H11 F11
              all_goals refine hK _ _ ?_
              all_goals clear hK K
              all_goals refine wpAny_done (by kernel_rfl) ?_ _
              all_goals have S11 : Hid (RdS w W gf p' k' q' d' ⟨true, 0, 1⟩ w11) := S10.out.frame H11.out F11.out
              all_goals have G11 : Hid (SrcAt w11 p' gf.X ∧ SetsAt w11 q' d' gf.Y) := ⟨G10.out.1.fr F11.out (fun ad e hl e2 => by have := G10.out.2.2.1 ad e hl; omega), G10.out.2.1.fr F11.out (fun ad e hl e2 => by have := G10.out.2.2.2 ad e hl; omega)⟩
              all_goals clear H11 F11
              all_goals obtain ⟨c0, c1, c2, c3, c4, c5, c6, c7, c8, c9, c10, c11⟩ := fcells S11.out.at_
              cases hk8 : (gf.k == 8)
              case false =>
                have hk : ¬ gf.k = 8 := by simpa using hk8
                have HE : Hid (out = (gf, ⟨false, 0, 0⟩)) := by show _ = _; rw [HOUT.out, if_neg (fun h => hk h.1)]
                clear hk
                have HR12 : Hid (∀ w12, Fr (fun k => k = w.heap.size + 1) w11 w12 → w12.heap[w.heap.size + 2]? = some (.cells #[.bool false, .int .i64 0, .int .i64 0] 38 (0, 0))) := fun w12 hf => (hf.block _ (lt_of_heap S11.out.rft) (by omega)).trans S11.out.rft
                have hone3 : (#[.bool false, .int .i64 0, .int .i64 0] : Array Value).all (·.oneCell') = true := by simp [Value.oneCell']
                have hinf3 : (Try.prog.info? 38).map (·.size) = some (#[.bool false, .int .i64 0, .int .i64 0] : Array Value).size := by kernel_rfl
                go_wp2_with (first
                  | (refine wpList_storeB rfl 36 (.tmp 4) (.tmp 82) rfl (w.heap.size + 1) #[.int .i64 0, .int .i64 0, .int .i64 0, .slice none 0 0, .int .i64 0, .int .u32 0, .int .i64 0, .int .i64 0, .int .i64 0, .bool false, .int .i64 0, .slice none 0 0] #[.int .i64 gf.k, .int .i64 gf.fl, .int .i64 gf.st, .slice p' gf.X.length k', .int .i64 gf.pad, .int .u32 gf.code, .int .i64 gf.last, .int .i64 gf.inc, .int .i64 gf.dep, .bool gf.only, .int .i64 gf.wt, .slice q' gf.Y.length d'] 36 rfl rfl S11.out.res rfl hinf hone ?_; intro w12 H12 F12)
                  | (refine wpList_storeB rfl 38 (.tmp 5) (.tmp 83) rfl (w.heap.size + 2) #[.bool false, .int .i64 0, .int .i64 0] #[.bool false, .int .i64 0, .int .i64 0] 38 rfl rfl (HR12.out w12 F12.out) rfl hinf3 hone3 ?_; intro w13 H13 F13))
                try simp only [Exit.jump]
                have hx12 : FAt w13 (w.heap.size + 1) gf p' k' q' d' := (F13.out.block _ (lt_of_heap H12.out) (by omega)).trans H12.out
                have hx13 : w13.heap[w.heap.size + 2]? = some (.cells #[.bool false, .int .i64 0, .int .i64 0] 38 (0, 0)) := H13.out
                obtain ⟨r0, r1, r2, r3, r4, r5, r6, r7, r8, r9, r10, r11⟩ := fcells hx12
                have s0 : w13.cell? ⟨w.heap.size + 2, 0, none⟩ = some (.bool false) := cell_of_heap hx13 rfl
                have s1 : w13.cell? ⟨w.heap.size + 2, 1, none⟩ = some (.int .i64 0) := cell_of_heap hx13 rfl
                have s2 : w13.cell? ⟨w.heap.size + 2, 2, none⟩ = some (.int .i64 0) := cell_of_heap hx13 rfl
                refine bodyPost_ret (v := .tuple #[.agg #[.int .i64 gf.k, .int .i64 gf.fl, .int .i64 gf.st, .slice p' gf.X.length k', .int .i64 gf.pad, .int .u32 gf.code, .int .i64 gf.last, .int .i64 gf.inc, .int .i64 gf.dep, .bool gf.only, .int .i64 gf.wt, .slice q' gf.Y.length d'], .agg #[.bool false, .int .i64 0, .int .i64 0]]) (by simp [results, Try.results56, go_sem, r0, r1, r2, r3, r4, r5, r6, r7, r8, r9, r10, r11, s0, s1, s2]) rfl ?_
                rw [HE.out]
                have hF : Fr (fun k => k = w.heap.size + 1 ∨ k = w.heap.size + 2) w11 w13 := (F12.out.mono (fun _ _ e => .inl e)).trans (F13.out.mono (fun _ _ e => .inr e))
                refine ⟨p', k', q', d', rfl, ?_, ?_, fun ad e hl => ?_, fun ad e hl => ?_, ?_⟩
                · exact G11.out.1.fr hF (fun ad e hl e2 => by have := G10.out.2.2.1 ad e hl; omega)
                · exact G11.out.2.fr hF (fun ad e hl e2 => by have := G10.out.2.2.2 ad e hl; omega)
                · have := G10.out.2.2.1 ad e hl; omega
                · have := G10.out.2.2.2 ad e hl; omega
                · exact ((S11.out.fr.mono (T := fun k => k = w.heap.size + 1 ∨ k = w.heap.size + 2) (fun _ _ e => e.elim)).trans hF).mono (fun k hk e => by omega)
              case true =>
                have hk : gf.k = 8 := by simpa using hk8
                cases hin0 : (gf.inc == 0)
                case false =>
                  have hn0 : ¬ gf.inc = 0 := by simpa using hin0
                  have HE : Hid (out = (gf, ⟨false, 0, 0⟩)) := by show _ = _; rw [HOUT.out, if_neg (fun h => hn0 h.2)]
                  clear hk hn0
                  have HR12 : Hid (∀ w12, Fr (fun k => k = w.heap.size + 1) w11 w12 → w12.heap[w.heap.size + 2]? = some (.cells #[.bool false, .int .i64 0, .int .i64 0] 38 (0, 0))) := fun w12 hf => (hf.block _ (lt_of_heap S11.out.rft) (by omega)).trans S11.out.rft
                  have hone3 : (#[.bool false, .int .i64 0, .int .i64 0] : Array Value).all (·.oneCell') = true := by simp [Value.oneCell']
                  have hinf3 : (Try.prog.info? 38).map (·.size) = some (#[.bool false, .int .i64 0, .int .i64 0] : Array Value).size := by kernel_rfl
                  go_wp2_with (first
                    | (refine wpList_storeB rfl 36 (.tmp 4) (.tmp 82) rfl (w.heap.size + 1) #[.int .i64 0, .int .i64 0, .int .i64 0, .slice none 0 0, .int .i64 0, .int .u32 0, .int .i64 0, .int .i64 0, .int .i64 0, .bool false, .int .i64 0, .slice none 0 0] #[.int .i64 gf.k, .int .i64 gf.fl, .int .i64 gf.st, .slice p' gf.X.length k', .int .i64 gf.pad, .int .u32 gf.code, .int .i64 gf.last, .int .i64 gf.inc, .int .i64 gf.dep, .bool gf.only, .int .i64 gf.wt, .slice q' gf.Y.length d'] 36 rfl rfl S11.out.res rfl hinf hone ?_; intro w12 H12 F12)
                    | (refine wpList_storeB rfl 38 (.tmp 5) (.tmp 83) rfl (w.heap.size + 2) #[.bool false, .int .i64 0, .int .i64 0] #[.bool false, .int .i64 0, .int .i64 0] 38 rfl rfl (HR12.out w12 F12.out) rfl hinf3 hone3 ?_; intro w13 H13 F13))
                  try simp only [Exit.jump]
                  have hx12 : FAt w13 (w.heap.size + 1) gf p' k' q' d' := (F13.out.block _ (lt_of_heap H12.out) (by omega)).trans H12.out
                  have hx13 : w13.heap[w.heap.size + 2]? = some (.cells #[.bool false, .int .i64 0, .int .i64 0] 38 (0, 0)) := H13.out
                  obtain ⟨r0, r1, r2, r3, r4, r5, r6, r7, r8, r9, r10, r11⟩ := fcells hx12
                  have s0 : w13.cell? ⟨w.heap.size + 2, 0, none⟩ = some (.bool false) := cell_of_heap hx13 rfl
                  have s1 : w13.cell? ⟨w.heap.size + 2, 1, none⟩ = some (.int .i64 0) := cell_of_heap hx13 rfl
                  have s2 : w13.cell? ⟨w.heap.size + 2, 2, none⟩ = some (.int .i64 0) := cell_of_heap hx13 rfl
                  refine bodyPost_ret (v := .tuple #[.agg #[.int .i64 gf.k, .int .i64 gf.fl, .int .i64 gf.st, .slice p' gf.X.length k', .int .i64 gf.pad, .int .u32 gf.code, .int .i64 gf.last, .int .i64 gf.inc, .int .i64 gf.dep, .bool gf.only, .int .i64 gf.wt, .slice q' gf.Y.length d'], .agg #[.bool false, .int .i64 0, .int .i64 0]]) (by simp [results, Try.results56, go_sem, r0, r1, r2, r3, r4, r5, r6, r7, r8, r9, r10, r11, s0, s1, s2]) rfl ?_
                  rw [HE.out]
                  have hF : Fr (fun k => k = w.heap.size + 1 ∨ k = w.heap.size + 2) w11 w13 := (F12.out.mono (fun _ _ e => .inl e)).trans (F13.out.mono (fun _ _ e => .inr e))
                  refine ⟨p', k', q', d', rfl, ?_, ?_, fun ad e hl => ?_, fun ad e hl => ?_, ?_⟩
                  · exact G11.out.1.fr hF (fun ad e hl e2 => by have := G10.out.2.2.1 ad e hl; omega)
                  · exact G11.out.2.fr hF (fun ad e hl e2 => by have := G10.out.2.2.2 ad e hl; omega)
                  · have := G10.out.2.2.1 ad e hl; omega
                  · have := G10.out.2.2.2 ad e hl; omega
                  · exact ((S11.out.fr.mono (T := fun k => k = w.heap.size + 1 ∨ k = w.heap.size + 2) (fun _ _ e => e.elim)).trans hF).mono (fun k hk e => by omega)
                case true =>
                  have hn0 : gf.inc = 0 := by simpa using hin0
                  have HE : Hid (out = (zeroF, ⟨true, gf.st, 1⟩)) := by show _ = _; rw [HOUT.out, if_pos ⟨hk, hn0⟩]
                  have b1 : w11.cell? ⟨w.heap.size + 3, 1, none⟩ = some (.int .i64 0) := cell_of_heap S11.out.bd rfl
                  have z1 : w11.frozen? ⟨w.heap.size + 3, 1, none⟩ = false := frozen_of_heap S11.out.bd
                  clear hk hn0
                  go_wp2_with (fail)
                  go_step3
                  simp only [Exit.then, Exit.jump]
                  refine ⟨trivial, ?_⟩
                  exact atFault_mk _ _ _ _ _ _ _ _ _ _ _ _ _ _ _ _ _ _ _ _ _ _ _ _ _ _ _ _ _ _ _ _ _ _ _ _ _ _ _ _ _ _ _ _ _ _ _ _ _ _ _ _ _ _ _ _ _ _ _ _ _ _ _ _ _ _ _ _ _ _ _ _ _ _ _ _ _ _ _ _ _ _ _ (S11.out.put (bad' := ⟨true, gf.st, 1⟩) 1 (.int .i64 gf.st) rfl) HE.out

        case true =>
          by_cases hl0 : len = 0
          case pos =>
            have HE : Hid (out = (zeroF, ⟨true, 0, 6⟩)) := by show _ = _; rw [← HO.out, readO, if_neg (by rw [HPL.out]; simp), if_neg (by rw [HSZ.out]; simp), if_pos ⟨hpd, by rw [HL.out]; exact hl0⟩]
            have hz : ((len : Int) == 0) = true := by simp; omega
            clear hl0
            go_wp2_with (fail)
            go_step3
            simp only [Exit.then, Exit.jump]
            refine ⟨trivial, ?_⟩
            exact atFault_mk _ _ _ _ _ _ _ _ _ _ _ _ _ _ _ _ _ _ _ _ _ _ _ _ _ _ _ _ _ _ _ _ _ _ _ _ _ _ _ _ _ _ _ _ _ _ _ _ _ _ _ _ _ _ _ _ _ _ _ _ _ _ _ _ _ _ _ _ _ _ _ _ _ _ _ _ _ _ _ _ _ _ _ S5.out HE.out
          case neg =>
            have hz : ((len : Int) == 0) = false := by simp; omega
            have hlp : 0 < len := by omega
            have hlp2 : (0 : Int) < (len : Int) := by omega
            obtain ⟨ad, rfl, hc0⟩ := HS.out 0 _ (getD_some b 0 (by rw [HL.out]; omega))
            obtain ⟨x0, hx0⟩ : ∃ x0, b.getD 0 0 = x0 := ⟨_, rfl⟩
            have hspot : ad.spot = none := by
              have := World.cell?_spot hc0
              simpa [Addr.add] using this
            obtain ⟨bb, oo, ss⟩ := ad
            dsimp only at hspot
            subst hspot
            obtain ⟨f1, hf1⟩ : ∃ f1 : Fra, f1 = { f with pad := (x0.toNat : Int) } := ⟨_, rfl⟩
            obtain ⟨x, hx⟩ : ∃ x : Nat, x0.toNat = x := ⟨_, rfl⟩
            have hu := x0.toNat_lt
            rw [hx0] at hc0
            rw [hx] at hc0 hf1 hu
            have hx255 : x ≤ 255 := by omega
            have hwx : IntKind.i64.wrap (x : Int) = (x : Int) := by rw [IntKind.wrap_i64]; omega
            have HF1 : Hid (f1.pad = (x : Int) ∧ x = padN f b ∧ f1 = { f with pad := ((padN f b : Nat) : Int) }) := by
              have : padN f b = x := by simp only [padN, hpd, if_true, hx0, hx]
              rw [this, hf1]
              exact ⟨rfl, rfl, rfl⟩
            obtain ⟨dp1, hcut1, hcs1, -⟩ := cut3 (some ⟨bb, oo, none⟩) len cap 1 len b HL.out hc (by omega) (Nat.le_refl _)
            obtain ⟨l1, hl1⟩ : ∃ l1, len - 1 = l1 := ⟨_, rfl⟩
            rw [hl1] at hcut1 hcs1
            have hl1b : l1 ≤ 16777215 := by omega
            have HB1 : Hid (SrcAt w dp1 (padC f b) ∧ (padC f b).length = l1 ∧ l1 ≤ l1) := by
              have hb : padC f b = (b.drop 1).take l1 := by
                simp only [padC, hpd, if_true]
                rw [List.take_of_length_le (by rw [List.length_drop, HL.out]; omega)]
              have hlen : (padC f b).length = l1 := by simp only [padC, hpd, if_true, List.length_drop, HL.out]; omega
              refine ⟨?_, hlen, Nat.le_refl _⟩
              rw [hb]
              exact hcs1 _ HS.out
            have HNZ : Hid (¬ (padd f = true ∧ b.length = 0)) := fun h => by rw [HL.out] at h; exact hl0 h.2
            have HP0 : Hid (f.k = 4 → x = 0 ∧ l1 = len) := fun h => by rw [padd, h] at hpd; cases hpd
            have hcut1' : ∀ w, (Instr.slice 31 (.slice (some ⟨bb, oo, none⟩) len cap) (some (.int .i64 1)) (some (.int .i64 (len : Int))) (some (.int .i64 (len : Int)))).run Try.prog w = .ok (.slice dp1 l1 l1) w := hcut1
            have hbw : bb < w.heap.size := World.block_lt_of_cell? _ _ hc0
            have x5 : w5.drew.cell? ⟨bb, oo, none⟩ = some (.int .u8 (x : Int)) := (S5.out.fr.drew.cell (p := ⟨bb, oo, none⟩) hbw id).trans hc0
            have c4 : w5.drew.cell? ⟨w.heap.size, 4, none⟩ = some (.int .i64 f.pad) := cell_of_heap (show w5.drew.heap[w.heap.size]? = _ from S5.out.at_) rfl
            have z4 : w5.drew.frozen? ⟨w.heap.size, 4, none⟩ = false := frozen_of_heap (show w5.drew.heap[w.heap.size]? = _ from S5.out.at_)
            have hfs : Fr (fun k => k = w.heap.size) w5 ((w5.setCell ⟨w.heap.size, 4, none⟩ (.int .i64 (x : Int))).drew) := ((Fr.refl _ _).setB _ _).drew
            have S6 : Hid (RdS w W f1 p cp q cq ⟨true, 0, 6⟩ ((w5.setCell ⟨w.heap.size, 4, none⟩ (.int .i64 (x : Int))).drew)) := by
              refine S5.out.frame ?_ hfs
              rw [hf1]
              exact block_set S5.out.at_
            have P6 : Hid (PartsAt ((w5.setCell ⟨w.heap.size, 4, none⟩ (.int .i64 (x : Int))).drew) sp js) := P5.out.put S5.out.at_ (by decide) hfs
            have x6 : ((w5.setCell ⟨w.heap.size, 4, none⟩ (.int .i64 (x : Int))).drew).cell? ⟨bb, oo, none⟩ = some (.int .u8 (x : Int)) := (((Fr.refl (fun k => k = w.heap.size) w5).setB 4 (.int .i64 (x : Int))).drew).cell (p := ⟨bb, oo, none⟩) (World.block_lt_of_cell? _ _ x5) (by show ¬ bb = w.heap.size; omega) |>.trans x5
            clear hf1 hx hx0 hpd hc0 hcut1 hcs1 hl0 hbw hfs hl1
            go_wp2_with (fail)
            go_region_held_law (fun w' => w'.cell? ⟨bb, oo, none⟩ = some (.int .u8 (x : Int))) (first | exact x5 | exact x6 | go_keep) (fail)
            clear c4 z4
            have hn3 : n ≤ 3 := by rw [← HJ.out.2, ← HJ.out.1]; exact partsOf_few f
            have KLe : Hid (∀ w', PartsAt w' sp js → Calls Try.prog 64 #[.slice sp n n] w' fun e w2 => e = .returned (.int .i64 (lst : Nat)) ∧ Fr (fun _ => False) w' w2) := fun w' hp => by rw [← HLS.out]; exact least_in sp js n n w' HJ.out.2 hn3 hp.cells
            go_wp2_with (fail)
            refine (KLe.out _ P6.out).mono ?_
            rintro e w7 ⟨rfl, hf7⟩
            have S7 : Hid (RdS w W f1 p cp q cq ⟨true, 0, 6⟩ w7) := S6.out.later hf7
            have P7 : Hid (PartsAt w7 sp js) := P6.out.later hf7
            clear hf7
            by_cases hls : l1 < lst
            case pos =>
              have HE : Hid (out = (zeroF, ⟨true, 0, 6⟩)) := by show _ = _; rw [← HO.out, readO, if_neg (by rw [HPL.out]; simp), if_neg (by rw [HSZ.out]; simp), if_neg HNZ.out, if_pos (by rw [HB1.out.2.1, HJ.out.1, HLS.out]; exact hls)]
              have hls2 : (l1 : Int) < (lst : Int) := by omega
              go_wp2_with (fail)
              go_step3
              simp only [Exit.then, Exit.jump]
              refine ⟨trivial, ?_⟩
              exact atFault_mk _ _ _ _ _ _ _ _ _ _ _ _ _ _ _ _ _ _ _ _ _ _ _ _ _ _ _ _ _ _ _ _ _ _ _ _ _ _ _ _ _ _ _ _ _ _ _ _ _ _ _ _ _ _ _ _ _ _ _ _ _ _ _ _ _ _ _ _ _ _ _ _ _ _ _ _ _ _ _ _ _ _ _ S7.out HE.out
            case neg =>
              have hls2 : ¬ (l1 : Int) < (lst : Int) := by omega
              have b2 : w7.cell? ⟨w.heap.size + 3, 2, none⟩ = some (.int .i64 6) := cell_of_heap S7.out.bd rfl
              have z2 : w7.frozen? ⟨w.heap.size + 3, 2, none⟩ = false := frozen_of_heap S7.out.bd
              have S8 : Hid (RdS w W f1 p cp q cq ⟨true, 0, 1⟩ (w7.setCell ⟨w.heap.size + 3, 2, none⟩ (.int .i64 1)).drew) := (S7.out.put (bad' := ⟨true, 0, 1⟩) 2 (.int .i64 1) rfl).later ((Fr.refl _ _).drew)
              have P8 : Hid (PartsAt (w7.setCell ⟨w.heap.size + 3, 2, none⟩ (.int .i64 1)).drew sp js) := (P7.out.put S7.out.bd (by decide) ((Fr.refl _ _).setB _ _)).later ((Fr.refl _ _).drew)
              have d4 : (w7.setCell ⟨w.heap.size + 3, 2, none⟩ (.int .i64 1)).drew.cell? ⟨w.heap.size, 4, none⟩ = some (.int .i64 f1.pad) := cell_of_heap S8.out.at_ rfl
              have hsub : (l1 : Int) - (lst : Int) = ((l1 - lst : Nat) : Int) := by omega
              obtain ⟨dif, hdif⟩ : ∃ dif : Nat, l1 - lst = dif := ⟨_, rfl⟩
              have HDIF : Hid (l1 - lst = dif ∧ ¬ l1 < lst) := ⟨hdif, hls⟩
              have hdb : dif ≤ 16777215 := by omega
              have hwd : IntKind.i64.wrap (dif : Int) = (dif : Int) := by rw [IntKind.wrap_i64]; omega
              rw [hdif] at hsub
              clear hdif
              have hpx : f1.pad = (x : Int) := HF1.out.1
              have hgt : decide ((dif : Int) < f1.pad) = decide (dif < x) := by rw [hpx]; simp
              cases hover : decide (dif < x)
              case true =>
                have hov : dif < x := of_decide_eq_true hover
                have HE : Hid (out = (zeroF, ⟨true, 0, 1⟩)) := by show _ = _; rw [← HO.out, readO, if_neg (by rw [HPL.out]; simp), if_neg (by rw [HSZ.out]; simp), if_neg HNZ.out, if_neg (by rw [HB1.out.2.1, HJ.out.1, HLS.out]; exact HDIF.out.2), if_pos (by rw [HB1.out.2.1, HJ.out.1, HLS.out, HDIF.out.1, ← HF1.out.2.1]; exact hov)]
                rw [hover] at hgt
                clear hpx hover hov
                go_wp2_with (fail)
                go_region_held_law (fun w' => w'.cell? ⟨w.heap.size, 4, none⟩ = some (.int .i64 f1.pad)) (first | exact d4 | exact e4 | go_keep)
                  ((go_at_call 64; refine (KLe.out _ P8.out).mono ?_; rintro e w9 ⟨rfl, hf9⟩; have S9 : Hid (RdS w W f1 p cp q cq ⟨true, 0, 1⟩ w9) := S8.out.later hf9; have e4 : w9.cell? ⟨w.heap.size, 4, none⟩ = some (.int .i64 f1.pad) := cell_of_heap S9.out.at_ rfl; clear hf9))
                all_goals clear d4 e4
                all_goals go_wp2_with (fail)
                all_goals go_step3
                all_goals simp only [Exit.then, Exit.jump]
                all_goals refine ⟨trivial, ?_⟩
                all_goals exact atFault_mk _ _ _ _ _ _ _ _ _ _ _ _ _ _ _ _ _ _ _ _ _ _ _ _ _ _ _ _ _ _ _ _ _ _ _ _ _ _ _ _ _ _ _ _ _ _ _ _ _ _ _ _ _ _ _ _ _ _ _ _ _ _ _ _ _ _ _ _ _ _ _ _ _ _ _ _ _ _ _ _ _ _ _ S9.out HE.out
              case false =>
                have hov : ¬ dif < x := of_decide_eq_false hover
                obtain ⟨hi, hhi⟩ : ∃ hi : Nat, l1 - x = hi := ⟨_, rfl⟩
                obtain ⟨dp, hcut, hcs⟩ := cut3n dp1 l1 l1 hi (padC f b) HB1.out.2.1 HB1.out.2.2 (by omega)
                have hsub2 : (l1 : Int) - f1.pad = (hi : Int) := by rw [hpx]; have := HDIF.out; omega
                have hhb : hi ≤ 16777215 := by omega
                have hwh : IntKind.i64.wrap (hi : Int) = (hi : Int) := by rw [IntKind.wrap_i64]; omega
                obtain ⟨gf, hgf⟩ : ∃ gf, rd js f1 ((padC f b).take hi) = gf := ⟨_, rfl⟩
                have HOUT : Hid (out = if gf.k = 8 ∧ gf.inc = 0 then (zeroF, ⟨true, gf.st, 1⟩) else (gf, ⟨false, 0, 0⟩)) := by
                  show _ = _
                  rw [← HO.out, readO, if_neg (by rw [HPL.out]; simp), if_neg (by rw [HSZ.out]; simp), if_neg HNZ.out, if_neg (by rw [HB1.out.2.1, HJ.out.1, HLS.out]; exact HDIF.out.2), if_neg (by rw [HB1.out.2.1, HJ.out.1, HLS.out, HDIF.out.1, ← HF1.out.2.1]; exact hov)]
                  have hg : rd (partsOf f) { f with pad := ((padN f b : Nat) : Int) } ((padC f b).take ((padC f b).length - padN f b)) = gf := by
                    rw [← HF1.out.2.2, HJ.out.1, HB1.out.2.1, ← HF1.out.2.1, hhi]; exact hgf
                  simp only [hg]
                have H4 : Hid (4 ∈ js → js = [4] ∧ hi % 6 = 0) := fun h => by
                  rw [← HJ.out.1] at h
                  obtain ⟨h1, h2⟩ := partsOf_sets h
                  refine ⟨by rw [← HJ.out.1]; exact h2, ?_⟩
                  have h3 := HSZ.out
                  have h5 := HP0.out h1
                  rw [← hhi]
                  simp only [sizedB, h1, HL.out] at h3
                  simp at h3
                  omega
                have HHI : Hid ((gf = rd js f1 ((padC f b).take hi)) ∧ ((padC f b).take hi).length = hi ∧ leastP js ≤ hi) := ⟨hgf.symm, by rw [List.length_take, HB1.out.2.1]; omega, by rw [HLS.out]; have := HDIF.out; omega⟩
                have KRP : Hid (∀ w', RdS w W f1 p cp q cq ⟨true, 0, 1⟩ w' → PartsAt w' sp js → Calls Try.prog 65 #[.agg #[.int .i64 f1.k, .int .i64 f1.fl, .int .i64 f1.st, .slice p f1.X.length cp, .int .i64 f1.pad, .int .u32 f1.code, .int .i64 f1.last, .int .i64 f1.inc, .int .i64 f1.dep, .bool f1.only, .int .i64 f1.wt, .slice q f1.Y.length cq], .slice sp n n, .slice dp hi hi] w' fun e w2 => ∃ p' cp' q' cq', e = .returned (.agg #[.int .i64 gf.k, .int .i64 gf.fl, .int .i64 gf.st, .slice p' gf.X.length cp', .int .i64 gf.pad, .int .u32 gf.code, .int .i64 gf.last, .int .i64 gf.inc, .int .i64 gf.dep, .bool gf.only, .int .i64 gf.wt, .slice q' gf.Y.length cq']) ∧ SrcAt w2 p' gf.X ∧ SetsAt w2 q' cq' gf.Y ∧ (∀ ad, p' = some ad → 0 < gf.X.length → w'.heap.size ≤ ad.block) ∧ (∀ ad, q' = some ad → 0 < gf.Y.length → w'.heap.size ≤ ad.block) ∧ Fr (fun _ => False) w' w2) := fun w' hS hP => by
                  have e1 : f1.X = f.X ∧ f1.Y = f.Y := by rw [HF1.out.2.2]; exact ⟨rfl, rfl⟩
                  have h := readParts_in f1 p q cp cq sp js n n dp hi hi ((padC f b).take hi) w' hP.cells HJ.out.2 hn3 (by rw [← HJ.out.1]; exact partsOf_lt) (by rw [← HJ.out.2, ← HJ.out.1]; exact partsOf_last) H4.out (by rw [e1.1]; exact HX.out.oldF hS.fr) (by rw [e1.1]; exact HY0.out.2.2.2.2) (by rw [e1.2]; exact HY.out.later hS.fr) (by rw [e1.2]; exact HY0.out.1) HY0.out.2.1 HY0.out.2.2.1 (hcs _ (HB1.out.1.oldF hS.fr)) HHI.out.2.1 (Nat.le_refl _) hhb HHI.out.2.2
                  rw [hgf] at h
                  exact h
                rw [hover] at hgt
                clear hpx hover hov hgf hhi hcs
                go_wp2_with (fail)
                go_region_held_law (fun w' => w'.cell? ⟨w.heap.size, 4, none⟩ = some (.int .i64 f1.pad)) (first | exact d4 | exact e4 | go_keep)
                  ((go_at_call 64; refine (KLe.out _ P8.out).mono ?_; rintro e w9 ⟨rfl, hf9⟩; have S9 : Hid (RdS w W f1 p cp q cq ⟨true, 0, 1⟩ w9) := S8.out.later hf9; have P9 : Hid (PartsAt w9 sp js) := P8.out.later hf9; have e4 : w9.cell? ⟨w.heap.size, 4, none⟩ = some (.int .i64 f1.pad) := cell_of_heap S9.out.at_ rfl; clear hf9))
                all_goals clear d4 e4 b2 z2
                all_goals obtain ⟨c0, c1, c2, c3, c4, c5, c6, c7, c8, c9, c10, c11⟩ := fcells S9.out.at_
                all_goals go_wp2_with (fail)
                all_goals refine wp_region_cut 14 2 #[true, true, true, true, true, true, true, true, true, true, true, true, true, true, false, false] (by kernel_rfl) (by kernel_rfl) rfl rfl ?_
                all_goals simp only [List.take_succ_cons, List.take_zero]
                all_goals repeat (go_big_quiet_step (fail))
                all_goals refine wpQuiet_nil ?_
                all_goals rintro _ ⟨nq, rfl⟩ mm
                all_goals clear c0 c1 c2 c3 c4 c5 c6 c7 c8 c9 c10 c11
                all_goals have S9n : Hid (RdS w W f1 p cp q cq ⟨true, 0, 1⟩ (w9.drewN nq)) := S9.out.later ((Fr.refl _ _).drewN nq)
                all_goals have P9n : Hid (PartsAt (w9.drewN nq) sp js) := P9.out.later ((Fr.refl _ _).drewN nq)
                all_goals refine wpAny_ready (rs := [14]) (by kernel_rfl) (by simp) ?_
                all_goals refine AllReady.cons rfl (fun K hK => ?_) AllReady.nil
                all_goals go_simp
                all_goals refine (KRP.out _ S9n.out P9n.out).mono ?_
                all_goals rintro e w10 ⟨p', k', q', d', rfl, hX', hY', hpf, hqf, hf10⟩
                all_goals refine hK _ _ ?_
                all_goals clear hK K
                all_goals have S10 : Hid (RdS w W f1 p cp q cq ⟨true, 0, 1⟩ w10) := S9n.out.later hf10
                all_goals have hbig : w.heap.size + 4 ≤ (w9.drewN nq).heap.size := by have := lt_of_heap S9n.out.bd; omega
                all_goals have G10 : Hid (SrcAt w10 p' gf.X ∧ SetsAt w10 q' d' gf.Y ∧ (∀ ad, p' = some ad → 0 < gf.X.length → w.heap.size + 4 ≤ ad.block) ∧ (∀ ad, q' = some ad → 0 < gf.Y.length → w.heap.size + 4 ≤ ad.block)) := ⟨hX', hY', fun ad e hl => Nat.le_trans hbig (hpf ad e hl), fun ad e hl => Nat.le_trans hbig (hqf ad e hl)⟩
                all_goals clear hX' hY' hpf hqf hf10 hbig
                all_goals have hone : (#[.int .i64 gf.k, .int .i64 gf.fl, .int .i64 gf.st, .slice p' gf.X.length k', .int .i64 gf.pad, .int .u32 gf.code, .int .i64 gf.last, .int .i64 gf.inc, .int .i64 gf.dep, .bool gf.only, .int .i64 gf.wt, .slice q' gf.Y.length d'] : Array Value).all (·.oneCell') = true := by simp [Value.oneCell']
                all_goals have hinf : (Try.prog.info? 36).map (·.size) = some (#[.int .i64 gf.k, .int .i64 gf.fl, .int .i64 gf.st, .slice p' gf.X.length k', .int .i64 gf.pad, .int .u32 gf.code, .int .i64 gf.last, .int .i64 gf.inc, .int .i64 gf.dep, .bool gf.only, .int .i64 gf.wt, .slice q' gf.Y.length d'] : Array Value).size := by kernel_rfl
                all_goals refine wpAny_ready (rs := [15]) (by kernel_rfl) (by simp) ?_
                all_goals refine AllReady.cons rfl (fun K hK => ?_) AllReady.nil
                all_goals refine stepR_storeB rfl rfl 36 (.tmp 2) (.tmp 70) rfl w.heap.size #[.int .i64 f1.k, .int .i64 f1.fl, .int .i64 f1.st, .slice p f1.X.length cp, .int .i64 f1.pad, .int .u32 f1.code, .int .i64 f1.last, .int .i64 f1.inc, .int .i64 f1.dep, .bool f1.only, .int .i64 f1.wt, .slice q f1.Y.length cq] #[.int .i64 gf.k, .int .i64 gf.fl, .int .i64 gf.st, .slice p' gf.X.length k', .int .i64 gf.pad, .int .u32 gf.code, .int .i64 gf.last, .int .i64 gf.inc, .int .i64 gf.dep, .bool gf.only, .int .i64 gf.wt, .slice q' gf.Y.length d'] 36 rfl rfl S10.out.at_ rfl hinf hone ?_
                all_goals intro w11 H11 F11
                all_goals refine hK _ _ ?_
                all_goals clear hK K
                all_goals refine wpAny_done (by kernel_rfl) ?_ _
                all_goals have S11 : Hid (RdS w W gf p' k' q' d' ⟨true, 0, 1⟩ w11) := S10.out.frame H11.out F11.out
                all_goals have G11 : Hid (SrcAt w11 p' gf.X ∧ SetsAt w11 q' d' gf.Y) := ⟨G10.out.1.fr F11.out (fun ad e hl e2 => by have := G10.out.2.2.1 ad e hl; omega), G10.out.2.1.fr F11.out (fun ad e hl e2 => by have := G10.out.2.2.2 ad e hl; omega)⟩
                all_goals clear H11 F11
                all_goals obtain ⟨c0, c1, c2, c3, c4, c5, c6, c7, c8, c9, c10, c11⟩ := fcells S11.out.at_
                cases hk8 : (gf.k == 8)
                case false =>
                  have hk : ¬ gf.k = 8 := by simpa using hk8
                  have HE : Hid (out = (gf, ⟨false, 0, 0⟩)) := by show _ = _; rw [HOUT.out, if_neg (fun h => hk h.1)]
                  clear hk
                  have HR12 : Hid (∀ w12, Fr (fun k => k = w.heap.size + 1) w11 w12 → w12.heap[w.heap.size + 2]? = some (.cells #[.bool false, .int .i64 0, .int .i64 0] 38 (0, 0))) := fun w12 hf => (hf.block _ (lt_of_heap S11.out.rft) (by omega)).trans S11.out.rft
                  have hone3 : (#[.bool false, .int .i64 0, .int .i64 0] : Array Value).all (·.oneCell') = true := by simp [Value.oneCell']
                  have hinf3 : (Try.prog.info? 38).map (·.size) = some (#[.bool false, .int .i64 0, .int .i64 0] : Array Value).size := by kernel_rfl
                  go_wp2_with (first
                    | (refine wpList_storeB rfl 36 (.tmp 4) (.tmp 82) rfl (w.heap.size + 1) #[.int .i64 0, .int .i64 0, .int .i64 0, .slice none 0 0, .int .i64 0, .int .u32 0, .int .i64 0, .int .i64 0, .int .i64 0, .bool false, .int .i64 0, .slice none 0 0] #[.int .i64 gf.k, .int .i64 gf.fl, .int .i64 gf.st, .slice p' gf.X.length k', .int .i64 gf.pad, .int .u32 gf.code, .int .i64 gf.last, .int .i64 gf.inc, .int .i64 gf.dep, .bool gf.only, .int .i64 gf.wt, .slice q' gf.Y.length d'] 36 rfl rfl S11.out.res rfl hinf hone ?_; intro w12 H12 F12)
                    | (refine wpList_storeB rfl 38 (.tmp 5) (.tmp 83) rfl (w.heap.size + 2) #[.bool false, .int .i64 0, .int .i64 0] #[.bool false, .int .i64 0, .int .i64 0] 38 rfl rfl (HR12.out w12 F12.out) rfl hinf3 hone3 ?_; intro w13 H13 F13))
                  try simp only [Exit.jump]
                  have hx12 : FAt w13 (w.heap.size + 1) gf p' k' q' d' := (F13.out.block _ (lt_of_heap H12.out) (by omega)).trans H12.out
                  have hx13 : w13.heap[w.heap.size + 2]? = some (.cells #[.bool false, .int .i64 0, .int .i64 0] 38 (0, 0)) := H13.out
                  obtain ⟨r0, r1, r2, r3, r4, r5, r6, r7, r8, r9, r10, r11⟩ := fcells hx12
                  have s0 : w13.cell? ⟨w.heap.size + 2, 0, none⟩ = some (.bool false) := cell_of_heap hx13 rfl
                  have s1 : w13.cell? ⟨w.heap.size + 2, 1, none⟩ = some (.int .i64 0) := cell_of_heap hx13 rfl
                  have s2 : w13.cell? ⟨w.heap.size + 2, 2, none⟩ = some (.int .i64 0) := cell_of_heap hx13 rfl
                  refine bodyPost_ret (v := .tuple #[.agg #[.int .i64 gf.k, .int .i64 gf.fl, .int .i64 gf.st, .slice p' gf.X.length k', .int .i64 gf.pad, .int .u32 gf.code, .int .i64 gf.last, .int .i64 gf.inc, .int .i64 gf.dep, .bool gf.only, .int .i64 gf.wt, .slice q' gf.Y.length d'], .agg #[.bool false, .int .i64 0, .int .i64 0]]) (by simp [results, Try.results56, go_sem, r0, r1, r2, r3, r4, r5, r6, r7, r8, r9, r10, r11, s0, s1, s2]) rfl ?_
                  rw [HE.out]
                  have hF : Fr (fun k => k = w.heap.size + 1 ∨ k = w.heap.size + 2) w11 w13 := (F12.out.mono (fun _ _ e => .inl e)).trans (F13.out.mono (fun _ _ e => .inr e))
                  refine ⟨p', k', q', d', rfl, ?_, ?_, fun ad e hl => ?_, fun ad e hl => ?_, ?_⟩
                  · exact G11.out.1.fr hF (fun ad e hl e2 => by have := G10.out.2.2.1 ad e hl; omega)
                  · exact G11.out.2.fr hF (fun ad e hl e2 => by have := G10.out.2.2.2 ad e hl; omega)
                  · have := G10.out.2.2.1 ad e hl; omega
                  · have := G10.out.2.2.2 ad e hl; omega
                  · exact ((S11.out.fr.mono (T := fun k => k = w.heap.size + 1 ∨ k = w.heap.size + 2) (fun _ _ e => e.elim)).trans hF).mono (fun k hk e => by omega)
                case true =>
                  have hk : gf.k = 8 := by simpa using hk8
                  cases hin0 : (gf.inc == 0)
                  case false =>
                    have hn0 : ¬ gf.inc = 0 := by simpa using hin0
                    have HE : Hid (out = (gf, ⟨false, 0, 0⟩)) := by show _ = _; rw [HOUT.out, if_neg (fun h => hn0 h.2)]
                    clear hk hn0
                    have HR12 : Hid (∀ w12, Fr (fun k => k = w.heap.size + 1) w11 w12 → w12.heap[w.heap.size + 2]? = some (.cells #[.bool false, .int .i64 0, .int .i64 0] 38 (0, 0))) := fun w12 hf => (hf.block _ (lt_of_heap S11.out.rft) (by omega)).trans S11.out.rft
                    have hone3 : (#[.bool false, .int .i64 0, .int .i64 0] : Array Value).all (·.oneCell') = true := by simp [Value.oneCell']
                    have hinf3 : (Try.prog.info? 38).map (·.size) = some (#[.bool false, .int .i64 0, .int .i64 0] : Array Value).size := by kernel_rfl
                    go_wp2_with (first
                      | (refine wpList_storeB rfl 36 (.tmp 4) (.tmp 82) rfl (w.heap.size + 1) #[.int .i64 0, .int .i64 0, .int .i64 0, .slice none 0 0, .int .i64 0, .int .u32 0, .int .i64 0, .int .i64 0, .int .i64 0, .bool false, .int .i64 0, .slice none 0 0] #[.int .i64 gf.k, .int .i64 gf.fl, .int .i64 gf.st, .slice p' gf.X.length k', .int .i64 gf.pad, .int .u32 gf.code, .int .i64 gf.last, .int .i64 gf.inc, .int .i64 gf.dep, .bool gf.only, .int .i64 gf.wt, .slice q' gf.Y.length d'] 36 rfl rfl S11.out.res rfl hinf hone ?_; intro w12 H12 F12)
                      | (refine wpList_storeB rfl 38 (.tmp 5) (.tmp 83) rfl (w.heap.size + 2) #[.bool false, .int .i64 0, .int .i64 0] #[.bool false, .int .i64 0, .int .i64 0] 38 rfl rfl (HR12.out w12 F12.out) rfl hinf3 hone3 ?_; intro w13 H13 F13))
                    try simp only [Exit.jump]
                    have hx12 : FAt w13 (w.heap.size + 1) gf p' k' q' d' := (F13.out.block _ (lt_of_heap H12.out) (by omega)).trans H12.out
                    have hx13 : w13.heap[w.heap.size + 2]? = some (.cells #[.bool false, .int .i64 0, .int .i64 0] 38 (0, 0)) := H13.out
                    obtain ⟨r0, r1, r2, r3, r4, r5, r6, r7, r8, r9, r10, r11⟩ := fcells hx12
                    have s0 : w13.cell? ⟨w.heap.size + 2, 0, none⟩ = some (.bool false) := cell_of_heap hx13 rfl
                    have s1 : w13.cell? ⟨w.heap.size + 2, 1, none⟩ = some (.int .i64 0) := cell_of_heap hx13 rfl
                    have s2 : w13.cell? ⟨w.heap.size + 2, 2, none⟩ = some (.int .i64 0) := cell_of_heap hx13 rfl
                    refine bodyPost_ret (v := .tuple #[.agg #[.int .i64 gf.k, .int .i64 gf.fl, .int .i64 gf.st, .slice p' gf.X.length k', .int .i64 gf.pad, .int .u32 gf.code, .int .i64 gf.last, .int .i64 gf.inc, .int .i64 gf.dep, .bool gf.only, .int .i64 gf.wt, .slice q' gf.Y.length d'], .agg #[.bool false, .int .i64 0, .int .i64 0]]) (by simp [results, Try.results56, go_sem, r0, r1, r2, r3, r4, r5, r6, r7, r8, r9, r10, r11, s0, s1, s2]) rfl ?_
                    rw [HE.out]
                    have hF : Fr (fun k => k = w.heap.size + 1 ∨ k = w.heap.size + 2) w11 w13 := (F12.out.mono (fun _ _ e => .inl e)).trans (F13.out.mono (fun _ _ e => .inr e))
                    refine ⟨p', k', q', d', rfl, ?_, ?_, fun ad e hl => ?_, fun ad e hl => ?_, ?_⟩
                    · exact G11.out.1.fr hF (fun ad e hl e2 => by have := G10.out.2.2.1 ad e hl; omega)
                    · exact G11.out.2.fr hF (fun ad e hl e2 => by have := G10.out.2.2.2 ad e hl; omega)
                    · have := G10.out.2.2.1 ad e hl; omega
                    · have := G10.out.2.2.2 ad e hl; omega
                    · exact ((S11.out.fr.mono (T := fun k => k = w.heap.size + 1 ∨ k = w.heap.size + 2) (fun _ _ e => e.elim)).trans hF).mono (fun k hk e => by omega)
                  case true =>
                    have hn0 : gf.inc = 0 := by simpa using hin0
                    have HE : Hid (out = (zeroF, ⟨true, gf.st, 1⟩)) := by show _ = _; rw [HOUT.out, if_pos ⟨hk, hn0⟩]
                    have b1 : w11.cell? ⟨w.heap.size + 3, 1, none⟩ = some (.int .i64 0) := cell_of_heap S11.out.bd rfl
                    have z1 : w11.frozen? ⟨w.heap.size + 3, 1, none⟩ = false := frozen_of_heap S11.out.bd
                    clear hk hn0
                    go_wp2_with (fail)
                    go_step3
                    simp only [Exit.then, Exit.jump]
                    refine ⟨trivial, ?_⟩
                    exact atFault_mk _ _ _ _ _ _ _ _ _ _ _ _ _ _ _ _ _ _ _ _ _ _ _ _ _ _ _ _ _ _ _ _ _ _ _ _ _ _ _ _ _ _ _ _ _ _ _ _ _ _ _ _ _ _ _ _ _ _ _ _ _ _ _ _ _ _ _ _ _ _ _ _ _ _ _ _ _ _ _ _ _ _ _ (S11.out.put (bad' := ⟨true, gf.st, 1⟩) 1 (.int .i64 gf.st) rfl) HE.out

  · rintro a' w' ⟨f', p', cp', q', cq', bad, u0, u1, u2, u3, u7, u8, u9, u10, u11, u12, u13, u14, u15, u16, u17, u18, u19, u20, u21, u22, u23, u24, u25, u26, u27, u28, u29, u30, u31, u32, u33, u34, u35, u36, u37, u38, u39, u40, u41, u42, u43, u44, u45, u46, u47, u48, u49, u50, u51, u52, u53, u54, u55, u56, u57, u58, u59, u60, u61, u62, u63, u64, u65, u66, u67, u68, u69, u70, u71, u72, u73, u74, u75, u76, u77, u78, u79, u80, u81, u82, u83, u84, u85, rfl, hS, ho⟩
    have HS' : Hid (RdS w W f' p' cp' q' cq' bad w' ∧ out = (zeroF, bad)) := ⟨hS, ho⟩
    clear hS ho
    go_wp2_with (fail)
    try go_step3
    go_wp2_with (fail)
    have hone : (#[.int .i64 0, .int .i64 0, .int .i64 0, .slice none 0 0, .int .i64 0, .int .u32 0, .int .i64 0, .int .i64 0, .int .i64 0, .bool false, .int .i64 0, .slice none 0 0] : Array Value).all (·.oneCell') = true := by simp [Value.oneCell']
    have hinf : (Try.prog.info? 36).map (·.size) = some (#[.int .i64 0, .int .i64 0, .int .i64 0, .slice none 0 0, .int .i64 0, .int .u32 0, .int .i64 0, .int .i64 0, .int .i64 0, .bool false, .int .i64 0, .slice none 0 0] : Array Value).size := by kernel_rfl
    have hone2 : (#[.bool bad.is, .int .i64 bad.st, .int .i64 bad.code] : Array Value).all (·.oneCell') = true := by simp [Value.oneCell']
    have hinf2 : (Try.prog.info? 38).map (·.size) = some (#[.bool bad.is, .int .i64 bad.st, .int .i64 bad.code] : Array Value).size := by kernel_rfl
    have HA : Hid (∀ w2, Fr (fun k => k = w.heap.size + 1) w' w2 → w2.heap[w.heap.size + 3]? = some (.cells #[.bool bad.is, .int .i64 bad.st, .int .i64 bad.code] 38 (0, 0)) ∧ w2.heap[w.heap.size + 2]? = some (.cells #[.bool false, .int .i64 0, .int .i64 0] 38 (0, 0))) := fun w2 hf => ⟨(hf.block _ (lt_of_heap HS'.out.1.bd) (by omega)).trans HS'.out.1.bd, (hf.block _ (lt_of_heap HS'.out.1.rft) (by omega)).trans HS'.out.1.rft⟩
    have HR1 : Hid (w'.drew.heap[w.heap.size + 1]? = some (.cells #[.int .i64 0, .int .i64 0, .int .i64 0, .slice none 0 0, .int .i64 0, .int .u32 0, .int .i64 0, .int .i64 0, .int .i64 0, .bool false, .int .i64 0, .slice none 0 0] 36 (0, 0))) := HS'.out.1.res
    have b0 : w'.drew.cell? ⟨w.heap.size + 3, 0, none⟩ = some (.bool bad.is) := cell_of_heap (show w'.drew.heap[w.heap.size + 3]? = _ from HS'.out.1.bd) rfl
    have b1 : w'.drew.cell? ⟨w.heap.size + 3, 1, none⟩ = some (.int .i64 bad.st) := cell_of_heap (show w'.drew.heap[w.heap.size + 3]? = _ from HS'.out.1.bd) rfl
    have b2 : w'.drew.cell? ⟨w.heap.size + 3, 2, none⟩ = some (.int .i64 bad.code) := cell_of_heap (show w'.drew.heap[w.heap.size + 3]? = _ from HS'.out.1.bd) rfl
    refine wp_region_held_drew (S := fun w2 => w2.cell? ⟨w.heap.size + 3, 0, none⟩ = some (.bool bad.is) ∧ w2.cell? ⟨w.heap.size + 3, 1, none⟩ = some (.int .i64 bad.st) ∧ w2.cell? ⟨w.heap.size + 3, 2, none⟩ = some (.int .i64 bad.code)) (by kernel_rfl) ⟨b0, b1, b2⟩ (fun hHeld => ?_)
    refine wpAnyH_take (i := 0) (oi := _) (v := .agg #[.int .i64 0, .int .i64 0, .int .i64 0, .slice none 0 0, .int .i64 0, .int .u32 0, .int .i64 0, .int .i64 0, .int .i64 0, .bool false, .int .i64 0, .slice none 0 0]) rfl (by kernel_rfl) (by kernel_rfl) (by kernel_rfl) (fun _ _ _ h => h) (Or.inl ⟨by kernel_rfl, fun w _ => by go_simp⟩) hHeld ?_
    refine wpAnyH_take (i := 1) (oi := _) (v := .agg #[.bool bad.is, .int .i64 bad.st, .int .i64 bad.code]) rfl (by kernel_rfl) (by kernel_rfl) (by kernel_rfl) (fun _ _ _ h => h) (Or.inl ⟨by kernel_rfl, fun w hw => by obtain ⟨x0, x1, x2⟩ := hw; go_simp⟩) hHeld ?_
    refine wpAnyH_ready (rs := [2]) (by kernel_rfl) (by simp) ?_
    refine AllReadyH.cons rfl (fun K hK => ?_) AllReadyH.nil
    refine stepR_storeB rfl rfl 36 (.tmp 4) (.tmp 84) rfl (w.heap.size + 1) #[.int .i64 0, .int .i64 0, .int .i64 0, .slice none 0 0, .int .i64 0, .int .u32 0, .int .i64 0, .int .i64 0, .int .i64 0, .bool false, .int .i64 0, .slice none 0 0] #[.int .i64 0, .int .i64 0, .int .i64 0, .slice none 0 0, .int .i64 0, .int .u32 0, .int .i64 0, .int .i64 0, .int .i64 0, .bool false, .int .i64 0, .slice none 0 0] 36 rfl rfl HR1.out rfl hinf hone ?_
    intro w5 H5 F5
    have hd := (HA.out w5 ((Fr.refl _ _).drew.trans F5.out)).1
    refine hK.out _ _ ⟨cell_of_heap hd rfl, cell_of_heap hd rfl, cell_of_heap hd rfl⟩ (fun hHeld2 => ?_)
    clear hd
    refine wpAnyH_ready (rs := [3]) (by kernel_rfl) (by simp) ?_
    refine AllReadyH.cons rfl (fun K hK => ?_) AllReadyH.nil
    refine stepR_storeB rfl rfl 38 (.tmp 5) (.tmp 85) rfl (w.heap.size + 2) #[.bool false, .int .i64 0, .int .i64 0] #[.bool bad.is, .int .i64 bad.st, .int .i64 bad.code] 38 rfl rfl (HA.out w5 ((Fr.refl _ _).drew.trans F5.out)).2 rfl hinf2 hone2 ?_
    intro w6 H6 F6
    have hd : w6.heap[w.heap.size + 3]? = some (.cells #[.bool bad.is, .int .i64 bad.st, .int .i64 bad.code] 38 (0, 0)) := (F6.out.block _ (lt_of_heap (HA.out w5 ((Fr.refl _ _).drew.trans F5.out)).1) (by omega)).trans (HA.out w5 ((Fr.refl _ _).drew.trans F5.out)).1
    refine hK.out _ _ ⟨cell_of_heap hd rfl, cell_of_heap hd rfl, cell_of_heap hd rfl⟩ (fun hHeld3 => ?_)
    clear hd
    refine wpAnyH_done (by kernel_rfl) ?_ _
    all_goals
      go_wp2_with (fail)
      try simp only [Exit.jump]
      have hx5 : w6.heap[w.heap.size + 1]? = some (.cells #[.int .i64 0, .int .i64 0, .int .i64 0, .slice none 0 0, .int .i64 0, .int .u32 0, .int .i64 0, .int .i64 0, .int .i64 0, .bool false, .int .i64 0, .slice none 0 0] 36 (0, 0)) := (F6.out.block _ (lt_of_heap H5.out) (by omega)).trans H5.out
      have hx6 : w6.heap[w.heap.size + 2]? = some (.cells #[.bool bad.is, .int .i64 bad.st, .int .i64 bad.code] 38 (0, 0)) := H6.out
      obtain ⟨r0, r1, r2, r3, r4, r5, r6, r7, r8, r9, r10, r11⟩ := fcells (f := zeroF) (p := none) (q := none) (cp := 0) (cq := 0) hx5
      have s0 : w6.cell? ⟨w.heap.size + 2, 0, none⟩ = some (.bool bad.is) := cell_of_heap hx6 rfl
      have s1 : w6.cell? ⟨w.heap.size + 2, 1, none⟩ = some (.int .i64 bad.st) := cell_of_heap hx6 rfl
      have s2 : w6.cell? ⟨w.heap.size + 2, 2, none⟩ = some (.int .i64 bad.code) := cell_of_heap hx6 rfl
      refine bodyPost_ret (v := .tuple #[ .agg #[.int .i64 0, .int .i64 0, .int .i64 0, .slice none 0 0, .int .i64 0, .int .u32 0, .int .i64 0, .int .i64 0, .int .i64 0, .bool false, .int .i64 0, .slice none 0 0], .agg #[.bool bad.is, .int .i64 bad.st, .int .i64 bad.code]]) (by simp [results, Try.results56, go_sem, r0, r1, r2, r3, r4, r5, r6, r7, r8, r9, r10, r11, s0, s1, s2, zeroF]) rfl ?_
      rw [HS'.out.2]
      refine ⟨none, 0, none, 0, rfl, SrcAt.nil _ _, SetsAt.nil _, fun ad e => (by cases e), fun ad e => (by cases e), ?_⟩
      exact ((HS'.out.1.fr.mono (T := fun k => w.heap.size ≤ k) (fun _ _ e => e.elim)).trans (((Fr.refl _ _).drew.trans F5.out).mono (fun k _ e => by omega))).trans (F6.out.mono (fun k _ e => by omega)) |>.mono (fun k hk e => by omega)
end Go.Proofs.Ytikaefjhmgcidaa
