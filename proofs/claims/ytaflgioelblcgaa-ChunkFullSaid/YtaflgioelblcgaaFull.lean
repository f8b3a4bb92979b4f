/- Proved: aqueductlaw01.ChunkFull returns true for every n; no condition. -/
import Derived.Test.YtaflgioelblcgaaRows
import Derived.Test.YtaflgioelblcgaaQ1
import Derived.WalkKit
import Derived.ProofKit
import Derived.OpenShut
import Derived.ShutString
import Derived.ChangeOld
import Derived.Below
namespace Go.Proofs.Ytaflgioelblcgaa.chunkFull
open Go.ChangeShapes Go.WideShapes Go.ChangeAt Go.RowKit
open Go.ChangeMaps (open_string shut_string)
set_option linter.unusedVariables false      -- a walk need not use every 'w<i>' (that an integer argument fits its kind)

/-- What holds of the queue after k calls. -/
def After (w wr : World) (k : Nat) : Prop := ∃ v L, QueueIs wr w.heap.size v L ∧ L.length = min k 4096 ∧ total L = min k 4096 ∧ Fr (fun _ => False) w wr ∧ ∀ g, v.ownBlock = some g → w.heap.size ≤ g

theorem queue_fr {w w' : World} {b : Nat} {v : Value} {L : List (List UInt8)} (h : QueueIs w b v L) (hf : Fr (fun _ => False) w w') : QueueIs w' b v L := by
  obtain ⟨xs, hbk, hown, hvb, hxl, hL, hch⟩ := h
  refine ⟨xs, by rw [hf.block b (lt_of_heap hbk) id]; exact hbk, hown.fr hf (fun _ _ => id), hvb, hxl, hL, fun j c hj => ?_⟩
  obtain ⟨u, hu, hpos, g, o, cur, e1, e2, e3⟩ := hch j c hj
  exact ⟨u, hu, hpos, g, o, cur, e1, by rw [hf.block g (lt_of_heap e2) id]; exact e2, e3⟩

theorem after_step (w wr : World) (k : Nat) (h : After w wr k) :
    Calls Try.prog 19 #[.pointer (some ⟨w.heap.size, 0, none⟩), .slice (some ⟨wr.heap.size, 0, none⟩) 1 1] (wr.alloc (Obj.cells #[Value.int IntKind.u8 ((k : Int) % 256)] 5)) fun e w' => e = .returned (.int .i64 (if k < 4096 then 0 else 9)) ∧ After w w' (k + 1) := by
  obtain ⟨v, L, hq, hl, ht, hf, hown⟩ := h
  have hq' := queue_fr hq (w' := wr.alloc (Obj.cells #[Value.int IntKind.u8 ((k : Int) % 256)] 5)) ((Fr.refl _ _).alloc _)
  have hf' : Fr (fun _ => False) w (wr.alloc (Obj.cells #[Value.int IntKind.u8 ((k : Int) % 256)] 5)) := hf.alloc _
  by_cases hk : k < 4096
  · have hrow : (wr.alloc (Obj.cells #[Value.int IntKind.u8 ((k : Int) % 256)] 5)).heap[wr.heap.size]? = some (.cells (bv [UInt8.ofNat k]).toArray 5 (0, 0)) := by
      rw [heap_alloc_new wr _]
      simp [bv]
    refine (add_some w.heap.size v L (some ⟨wr.heap.size, 0, none⟩) 1 1 [UInt8.ofNat k] _ hq' (by omega) (SrcAt.row (cur := [UInt8.ofNat k]) hrow 0) rfl (by omega) (by omega) (by omega)).mono ?_
    rintro e w' ⟨rfl, v', hq2, hf2, hk2⟩
    refine ⟨by rw [if_pos hk], v', L ++ [[UInt8.ofNat k]], hq2, by simp; omega, by rw [total_snoc]; simp; omega, ?_, ?_⟩
    · have h1 : Fr (fun x => x = w.heap.size ∨ v.ownBlock = some x) w w' := Fr.trans (hf'.mono (fun _ _ e => e.elim)) hf2
      refine h1.mono (fun x hx e => ?_)
      rcases e with e | e
      · omega
      · have := hown x e; omega
    · intro g hg
      rcases hk2 with h | ⟨x, h, hx⟩
      · exact hown g (by rw [← h]; exact hg)
      · rw [h] at hg; cases hg; have := hf'.size; omega
  · refine (add_full w.heap.size v L _ 1 1 _ hq' (by omega)).mono ?_
    rintro e w' ⟨rfl, rfl⟩
    exact ⟨by rw [if_neg hk], v, L, hq', by omega, by omega, hf', hown⟩

theorem after_ends (w wr : World) (k : Nat) (h : After w wr k) :
    (Calls Try.prog 25 #[.pointer (some ⟨w.heap.size, 0, none⟩)] wr fun e w' => e = .returned (.int .i64 (min k 4096 : Nat)) ∧ w' = wr) ∧
    (Calls Try.prog 23 #[.pointer (some ⟨w.heap.size, 0, none⟩)] wr fun e w' => e = .returned (.int .i64 (min k 4096 : Nat)) ∧ w' = wr) ∧
    (Calls Try.prog 19 #[.pointer (some ⟨w.heap.size, 0, none⟩), .slice none 0 0] wr fun e w' => e = .returned (.int .i64 (if k < 4096 then 0 else 9)) ∧ w' = wr) := by
  obtain ⟨v, L, hq, hl, ht, hf, hown⟩ := h
  obtain ⟨c0, c1, ⟨a, cap, rfl, c2⟩, -⟩ := hq.cells
  refine ⟨?_, ?_, ?_⟩
  · rw [← hl]; exact chunks_any w.heap.size a L.length cap wr c2
  · rw [← ht]; exact qlen_any w.heap.size _ wr c0
  · by_cases hk : k < 4096
    · rw [if_pos hk]; exact add_empty w.heap.size _ L none 0 wr hq (by omega)
    · rw [if_neg hk]; exact add_full w.heap.size _ L none 0 0 wr hq (by omega)

theorem own : ownKnob Try.prog.godebug = none := by kernel_rfl

/-! ### STEP 1: THE WALK: the Go text returns true. 'Grown w w'': the world has at most new blocks (Derived/RowKit3.lean). Part the cases AHEAD of 'go_enter' where a test parts the walk; take each callee by a contract of your own. -/
set_option maxHeartbeats 1000000 in
set_option maxRecDepth 100000 in
theorem walk (a0 : Int) (w0 : (Lit.int .u16 a0).wf = true) (w : World) :
    Calls Try.prog 6 #[.int .u16 a0] w fun e w' => e = .returned (.bool true) ∧ Below w.heap.size w w' := by
  have hb : 0 ≤ a0 ∧ a0 ≤ 65535 := by
    have h2 : IntKind.u16.min ≤ a0 ∧ a0 ≤ IntKind.u16.max := by simpa [Lit.wf] using w0
    exact ⟨h2.1, h2.2⟩
  obtain ⟨h00, h01⟩ := hb
  have HNQ : Hid (Calls Try.prog 18 #[] w fun e w' => e = .returned (.pointer (some ⟨w.heap.size, 0, none⟩)) ∧ QueueIs w' w.heap.size (.slice none 0 0) [] ∧ Fr (fun _ => False) w w') := newQueue_any w
  clear w0
  go_enter Try.func6, Try.ntmps6
  go_wp2_with fail
  refine HNQ.out.mono ?_
  rintro e w1 ⟨rfl, hq1, hf1⟩
  have HQ1 : Hid (QueueIs w1 w.heap.size (.slice none 0 0) []) := hq1
  have HF1 : Hid (Fr (fun _ => False) w w1) := hf1
  clear hq1 hf1 HNQ
  go_wp2_with fail
  obtain ⟨M, hM⟩ : ∃ M : Nat, (M : Int) = a0 % 5000 := ⟨(a0 % 5000).toNat, by omega⟩
  rw [← hM]
  have hM5 : M < 5000 := by omega
  have hMi : (M : Int) < 5000 := by omega
  clear hM
  have hstart : After w w1 0 := ⟨_, [], HQ1.out, rfl, rfl, HF1.out, fun g h => by simp [Value.ownBlock] at h⟩
  clear HQ1 HF1
  go_loopw [5] (fun i wr => ∃ k : Nat, k ≤ M ∧ i = .int .i64 k ∧ After w wr k) (fun i _ => M - (intOf i).toNat)
  case atStart => exact ⟨0, Nat.zero_le _, rfl, hstart⟩
  case round =>
    obtain ⟨k, hk, rfl, haf⟩ := hrel
    have HAF : Hid (After w wr k) := haf
    clear haf hstart
    have hki : (k : Int) < 5000 := by omega
    by_cases hlt : k < M
    · have hlt' : (k : Int) < (M : Int) := by omega
      go_wp2_with fail
      by_cases h4 : k < 4096
      · have hst := after_step w wr k HAF.out
        rw [if_pos h4] at hst
        have h4' : (k : Int) < 4096 := by omega
        refine hst.mono ?_
        rintro e w2 ⟨rfl, haf⟩
        have HAF2 : Hid (After w w2 (k + 1)) := haf
        clear haf HAF hst
        go_wp2
        go_roundw
        case rel => exact ⟨k + 1, by omega, by go_num, HAF2.out⟩
        case measure => simp [intOf]; omega
      · have hst := after_step w wr k HAF.out
        rw [if_neg h4] at hst
        have h4' : ¬ ((k : Int) < 4096) := by omega
        refine hst.mono ?_
        rintro e w2 ⟨rfl, haf⟩
        have HAF2 : Hid (After w w2 (k + 1)) := haf
        clear haf HAF hst
        go_wp2
        go_roundw
        case rel => exact ⟨k + 1, by omega, by go_num, HAF2.out⟩
        case measure => simp [intOf]; omega
    · obtain rfl : k = M := by omega
      have hlt' : ¬ ((k : Int) < (k : Int)) := by omega
      obtain ⟨s1, s2, s3⟩ := after_ends w wr k HAF.out
      have hbel : Below w.heap.size w wr := by
        obtain ⟨v, L, hq, hl, ht, hf, hown⟩ := HAF.out
        exact hf.below (fun _ _ => id)
      have HBEL : Hid (Below w.heap.size w wr) := hbel
      clear hbel HAF
      by_cases h4 : k < 4096
      · rw [Nat.min_eq_left (by omega)] at s1 s2
        rw [if_pos h4] at s3
        have h4' : (k : Int) < 4096 := by omega
        have h5' : ¬ ((4096 : Int) < (k : Int)) := by omega
        have S1 : Hid (Calls Try.prog 25 #[.pointer (some ⟨w.heap.size, 0, none⟩)] wr fun e w' => e = .returned (.int .i64 k) ∧ w' = wr) := s1
        have S2 : Hid (Calls Try.prog 23 #[.pointer (some ⟨w.heap.size, 0, none⟩)] wr fun e w' => e = .returned (.int .i64 k) ∧ w' = wr) := s2
        have S3 : Hid (Calls Try.prog 19 #[.pointer (some ⟨w.heap.size, 0, none⟩), .slice none 0 0] wr fun e w' => e = .returned (.int .i64 0) ∧ w' = wr) := s3
        clear s1 s2 s3
        go_wp2_with fail
        refine S1.out.mono ?_
        rintro e w2 ⟨rfl, rfl⟩
        go_wp2_with fail
        refine S3.out.mono ?_
        rintro e w3 ⟨rfl, rfl⟩
        go_wp2_with fail
        refine S2.out.mono ?_
        rintro e w4 ⟨rfl, rfl⟩
        go_wp2_with fail
        refine (awake_any _).mono ?_
        rintro e w5 ⟨rfl, hf5⟩
        have HF5 : Hid (Fr (fun _ => False) w4 w5) := hf5
        clear hf5
        go_wp2
        go_ret
        exact ⟨rfl, (Fr.trans (Fr.of_below HBEL.out) HF5.out).below (fun _ _ => id)⟩
      · rw [Nat.min_eq_right (by omega)] at s1 s2
        rw [if_neg h4] at s3
        have h4' : ¬ ((k : Int) < 4096) := by omega
        have S1 : Hid (Calls Try.prog 25 #[.pointer (some ⟨w.heap.size, 0, none⟩)] wr fun e w' => e = .returned (.int .i64 4096) ∧ w' = wr) := s1
        have S2 : Hid (Calls Try.prog 23 #[.pointer (some ⟨w.heap.size, 0, none⟩)] wr fun e w' => e = .returned (.int .i64 4096) ∧ w' = wr) := s2
        have S3 : Hid (Calls Try.prog 19 #[.pointer (some ⟨w.heap.size, 0, none⟩), .slice none 0 0] wr fun e w' => e = .returned (.int .i64 9) ∧ w' = wr) := s3
        clear s1 s2 s3
        rcases Nat.lt_or_eq_of_le (show 4096 ≤ k by omega) with h6 | h6
        · have h6' : (4096 : Int) < (k : Int) := by omega
          go_wp2_with fail
          refine S1.out.mono ?_
          rintro e w2 ⟨rfl, rfl⟩
          go_wp2_with fail
          refine S3.out.mono ?_
          rintro e w3 ⟨rfl, rfl⟩
          go_wp2_with fail
          refine S2.out.mono ?_
          rintro e w4 ⟨rfl, rfl⟩
          go_wp2_with fail
          refine (awake_any _).mono ?_
          rintro e w5 ⟨rfl, hf5⟩
          have HF5 : Hid (Fr (fun _ => False) w4 w5) := hf5
          clear hf5
          go_wp2
          go_ret
          refine ⟨?_, (Fr.trans (Fr.of_below HBEL.out) HF5.out).below (fun _ _ => id)⟩
          show Ending.returned (Value.bool (!decide ((k : Int) < 4096))) = _
          rw [decide_eq_false (by omega)]; rfl
        · subst h6
          clear h4'
          go_wp2_with fail
          refine S1.out.mono ?_
          rintro e w2 ⟨rfl, rfl⟩
          go_wp2_with fail
          refine S3.out.mono ?_
          rintro e w3 ⟨rfl, rfl⟩
          go_wp2_with fail
          refine S2.out.mono ?_
          rintro e w4 ⟨rfl, rfl⟩
          go_wp2_with fail
          refine (awake_any _).mono ?_
          rintro e w5 ⟨rfl, hf5⟩
          have HF5 : Hid (Fr (fun _ => False) w4 w5) := hf5
          clear hf5
          go_wp2
          go_ret
          refine ⟨?_, (Fr.trans (Fr.of_below HBEL.out) HF5.out).below (fun _ _ => id)⟩
          rfl

/-! ### THE ROW's STEP: WRITTEN OUT: LEAVE IT -/
set_option maxRecDepth 100000 in
theorem lifted (os : Os) (started : os.Started) (H : Type) (enc : TypeId × Value → H) :
    ReturnsInHanded {} Try.checked os 6 .any (Rows.chunkFullSpec.pre6 enc Try.prog Try.f6 Rows.chunkFullRow.domain false) (Rows.chunkFullSpec.post enc Try.prog Try.f6 false true false false) := by
  refine returnsInHanded_of_change (C := Try.checked) own started (by kernel_rfl) Try.func6
    (ChangeSpec.witness6 (enc := enc) (C := Try.checked) false ⟨#[], #[.int .u16 0], []⟩ 8 (by kernel_rfl) (by kernel_rfl) (by kernel_rfl) (by kernel_rfl)) ?_
  intro W base args ds gs before hval0 hW hcnd _
  have hval : ∀ (j : Nat) t v, Try.f6.params[j]? = some t → args[j]? = some v → Value.okWide Try.prog W .any base t v := hval0
  have hW' := hW
  obtain ⟨p, q, hA0, hV, rfl, hfz, hnd⟩ := hW
  have hA : DataW.TrodAll enc Try.prog W 0 (fun _ => true) true Try.f6.params.toList args.toList ds p := hA0
  rw [Try.params6] at hA hval
  obtain ⟨v0, vs0, d0, ds0, p0, q0, hargs, rfl, rfl, h0, r0⟩ := trodAll_cons hA
  obtain ⟨rfl, rfl, rfl⟩ := trodAll_nil r0
  obtain rfl : args = #[v0] := by cases args; simp_all
  obtain ⟨rfl, rfl⟩ := trodVars_none hV
  obtain ⟨a0, rfl, rfl, rfl, w0⟩ := open_int Try.underlying51 (hval 0 51 v0 rfl rfl) h0
  clear hA0 hval0
  refine (walk a0 w0 W).mono fun e W' ⟨he, bel⟩ => ?_
  subst he
  exact ⟨_, rfl, _, _, _, [], _, [], hW', trodAll_mk1 (shut_bool Try.underlying4 _), (trodAll_cons_mk (shut_int Try.underlying51 w0) trodAll_mk0), rfl, bel.frame _, fun h => by cases h⟩

theorem over : Rows.chunkFullRow.holds Try.pinned (OpenSpec.ofChange Rows.chunkFullSpec) :=
  OpenClaim.holds_of_wide 6 Try.f6 rfl rfl rfl rfl rfl rfl rfl ⟨rfl, rfl, rfl, rfl, rfl⟩ rfl rfl rfl rfl rfl (by kernel_rfl) Try.func6 (by kernel_rfl)
    (of_decide_eq_true (by kernel_rfl)) (by unfold Func.isWrapper; first | (rw [if_pos (by decide +kernel)]; kernel_rfl) | (rw [if_neg (by decide +kernel)]; exact ⟨rfl, rfl⟩))
    (fun os started H enc _ => lifted os started H enc)

/-- ████ THE STATEMENT ████ -/
theorem proved : Rows.ChunkFullSaid :=
  over
#print axioms proved
end Go.Proofs.Ytaflgioelblcgaa.chunkFull
namespace Go.Proofs.Ytaflgioelblcgaa
theorem chunkFull_holds : Rows.ChunkFullSaid := chunkFull.proved
end Go.Proofs.Ytaflgioelblcgaa

