/- Contracts of the joiner's makers of answers. -/
import Derived.Test.YtdndhidinbmpdaaBb
import Derived.Test.YtdndhidinbmpdaaCk
import Derived.Laws.Cover3
namespace Go.Proofs.Ytdndhidinbmpdaa
open Go.RowKit
set_option linter.unusedVariables false
set_option maxRecDepth 100000
set_option maxHeartbeats 4000000

/-- The value of a frame that is none. -/
def zeroV : Value := .agg #[.int .i64 0, .int .i64 0, .int .i64 0, .slice none 0 0, .int .i64 0, .int .u32 0, .int .i64 0, .int .i64 0, .int .i64 0, .bool false, .int .i64 0, .slice none 0 0]

theorem fail_in (g : Nat) (m : Int) (o : Opn) (v : Value) (code : Int) (w : World) (h : JC w g m o v) :
    Calls Try.prog 22 #[.pointer (some ⟨g, 0, none⟩), .int .i64 code] w fun e w' => e = .returned (.tuple #[zeroV, .bool false, .agg #[.bool true, .int .i64 0, .int .i64 code]]) ∧ JC w' g m none (.slice none 0 0) ∧ Fr (fun k => k = g) w w' := by
  obtain ⟨W, hW⟩ : ∃ W, W = (w.alloc (.cells #[.int .i64 0, .int .i64 0, .int .i64 0, .slice none 0 0, .int .i64 0, .int .u32 0, .int .i64 0, .int .i64 0, .int .i64 0, .bool false, .int .i64 0, .slice none 0 0] 34)).alloc (.cells #[.bool false, .int .i64 0, .int .i64 0] 43) := ⟨_, rfl⟩
  have HFW : Hid (Fr (fun _ => False) w W) := by rw [hW]; exact ((Fr.refl _ _).alloc _).alloc _
  have hr1 : W.heap[w.heap.size]? = some (.cells #[.int .i64 0, .int .i64 0, .int .i64 0, .slice none 0 0, .int .i64 0, .int .u32 0, .int .i64 0, .int .i64 0, .int .i64 0, .bool false, .int .i64 0, .slice none 0 0] 34 (0, 0)) := by rw [hW]; exact past_at _ (heap_alloc_new w _)
  have hr2 : W.heap[w.heap.size + 1]? = some (.cells #[.bool false, .int .i64 0, .int .i64 0] 43 (0, 0)) := by rw [hW]; exact last_at _ (by simp)
  have HLT : Hid (g < w.heap.size) := lt_of_heap h
  have KD : Hid (Calls Try.prog 28 #[.pointer (some ⟨g, 0, none⟩)] W fun e w' => e = .returned (.tuple #[]) ∧ JC w' g m none (.slice none 0 0) ∧ Fr (fun k => k = g) W w') := drop_in g m o v W (h.fr HFW.out id)
  have HRES : Hid (∀ w', Fr (fun k => k = g) W w' → w'.heap[w.heap.size]? = some (.cells #[.int .i64 0, .int .i64 0, .int .i64 0, .slice none 0 0, .int .i64 0, .int .u32 0, .int .i64 0, .int .i64 0, .int .i64 0, .bool false, .int .i64 0, .slice none 0 0] 34 (0, 0)) ∧ w'.heap[w.heap.size + 1]? = some (.cells #[.bool false, .int .i64 0, .int .i64 0] 43 (0, 0))) := fun w' hf => ⟨(hf.block _ (lt_of_heap hr1) (by have := HLT.out; omega)).trans hr1, (hf.block _ (lt_of_heap hr2) (by have := HLT.out; omega)).trans hr2⟩
  clear hr1 hr2 h
  go_enter Try.func22, Try.ntmps22
  go_upto_region 1 with (fail)
  rw [← hW]
  clear hW
  go_wp2_with (first
    | (go_at_call 28; refine KD.out.mono ?_; rintro e w1 ⟨rfl, hj, hf⟩; have T1 : Hid (JC w1 g m none (.slice none 0 0) ∧ Fr (fun k => k = g) W w1) := ⟨hj, hf⟩; clear hj hf)
    | (refine wpList_storeB rfl 34 (.tmp 4) (.tmp 9) rfl w.heap.size #[.int .i64 0, .int .i64 0, .int .i64 0, .slice none 0 0, .int .i64 0, .int .u32 0, .int .i64 0, .int .i64 0, .int .i64 0, .bool false, .int .i64 0, .slice none 0 0] #[.int .i64 0, .int .i64 0, .int .i64 0, .slice none 0 0, .int .i64 0, .int .u32 0, .int .i64 0, .int .i64 0, .int .i64 0, .bool false, .int .i64 0, .slice none 0 0] 34 rfl rfl (HRES.out _ T1.out.2).1 rfl (by kernel_rfl) (by simp [Value.oneCell']) ?_; intro w2 H2 G2)
    | (refine wpList_storeB rfl 43 (.tmp 6) (.tmp 11) rfl (w.heap.size + 1) #[.bool false, .int .i64 0, .int .i64 0] #[.bool true, .int .i64 0, .int .i64 code] 43 rfl rfl ((G2.out.block _ (lt_of_heap (HRES.out _ T1.out.2).2) (by omega)).trans (HRES.out _ T1.out.2).2) rfl (by kernel_rfl) (by simp [Value.oneCell']) ?_; intro w3 H3 G3; refine Hid.out ?_))
  unfold Hid
  go_wp2_with (fail)
  obtain ⟨r0, r1, r2, r3, r4, r5, r6, r7, r8, r9, r10, r11⟩ := cells12 ((G3.out.block _ (lt_of_heap H2.out) (by omega)).trans H2.out)
  obtain ⟨s0, s1, s2⟩ := cells3 H3.out
  refine bodyPost_ret (v := .tuple #[zeroV, .bool false, .agg #[.bool true, .int .i64 0, .int .i64 code]]) (by simp [zeroV, results, Try.results22, go_sem, r0, r1, r2, r3, r4, r5, r6, r7, r8, r9, r10, r11, s0, s1, s2]) rfl ?_
  have hlt := HLT.out
  have hf12 : Fr (fun k => k = w.heap.size ∨ k = w.heap.size + 1) w1 w3 := (G2.out.mono (fun _ _ e => .inl e)).trans (G3.out.mono (fun _ _ e => .inr e))
  refine ⟨rfl, T1.out.1.fr hf12 (by omega), ?_⟩
  exact (((HFW.out.mono (T := fun k => k = g ∨ k = w.heap.size ∨ k = w.heap.size + 1) (fun _ _ e => e.elim)).trans (T1.out.2.mono (fun _ _ e => .inl e))).trans (hf12.mono (fun _ _ e => .inr e))).mono (fun k hk e => by omega)

theorem sClone_in (q : Option Addr) (c : Nat) (Y : List (Int × Nat)) (w : World) (h : SetsAt w q c Y) :
    Calls Try.prog 29 #[.slice q Y.length c] w fun e w' => ∃ q' c', e = .returned (.slice q' Y.length c') ∧ Copy w' q' c' Y ∧ Fr (fun _ => False) w w' := by
  have hnil : ∀ (a : Option Addr) (l c : Nat) (w : World), Sem.run Try.prog (binOp .eql 32 (.slice a l c) (.slice none 0 0)) w = .ok (.bool a.isNone) w := fun a l c w => by
    simp [binOp, run_equal_slice_nil w _ _ a l c Try.underlying32]
  cases q with
  | none =>
    have h0 : Y = [] := by
      cases Y with
      | nil => rfl
      | cons x r => obtain ⟨b, o, e, _⟩ := h.cells 0 x rfl; cases e
    subst h0
    go_enter Try.func29, Try.ntmps29
    go_wp2
    go_ret
    exact ⟨none, 0, rfl, ⟨SetsAt.nil _, fun ad e => by cases e⟩, Fr.refl _ _⟩
  | some ad =>
    have f5 : Fr (fun _ => False) w (w.alloc (.cells #[] 70)) := (Fr.refl _ _).alloc _
    have hlit : (w.alloc (.cells #[] 70)).ownsRow 0 70 2 (.slice (some ⟨w.heap.size, 0, none⟩) 0 0) 0 [] :=
      ⟨rfl, .inr ⟨w.heap.size, 0, #[], rfl, Nat.zero_le _, heap_alloc_new w _, Nat.le_refl _, Nat.zero_le _, rfl, rfl⟩⟩
    obtain ⟨q', c', w', hr, hc, hf⟩ := copyS_run (h.later f5) _ hlit
    have HC : Hid (Copy w' q' c' Y) := hc
    have HF : Hid (Fr (fun _ => False) w w') := ((f5.mono (T := fun k => k = w.heap.size) (fun _ _ e => e.elim)).trans (hf.mono (fun k _ e => by simpa [Value.ownBlock] using e.symm))).mono (fun k hk e => by omega)
    clear hc hf hlit h f5
    go_enter Try.func29, Try.ntmps29
    go_wp2_with (refine wpList_append_run9 rfl (.tmp 5) (.tmp 6) 32 rfl (.slice (some ⟨w.heap.size, 0, none⟩) 0 0) (.slice (some ad) Y.length c) (.slice q' Y.length c') (by go_simp) (by go_simp) hr ?_)
    go_ret
    exact ⟨q', c', rfl, HC.out, HF.out⟩

theorem New_yes (m : Int) (w : World) (h0 : 0 ≤ m) (h1 : m ≤ 65536) : Calls Try.prog 13 #[.int .i64 m] w fun e w' => e = .returned (.tuple #[.pointer (some ⟨w.heap.size, 0, none⟩), .int .i64 0]) ∧ JC w' w.heap.size m none (.slice none 0 0) ∧ Fr (fun _ => False) w w' := by
  go_enter Try.func13, Try.ntmps13
  go_wp2
  go_ret2
  exact ⟨rfl, heap_alloc_new w _, (Fr.refl _ _).alloc _⟩
theorem New_no (m : Int) (w : World) (h : ¬ (0 ≤ m ∧ m ≤ 65536)) : Calls Try.prog 13 #[.int .i64 m] w fun e w' => e = .returned (.tuple #[.pointer none, .int .i64 1]) ∧ w = w' := by
  by_cases h0 : 0 ≤ m
  · have h1 : ¬ m ≤ 65536 := fun h1 => h ⟨h0, h1⟩
    clear h
    go_enter Try.func13, Try.ntmps13
    go_wp2
    go_ret2
    exact ⟨rfl, rfl⟩
  · clear h
    go_enter Try.func13, Try.ntmps13
    go_wp2
    go_ret2
    exact ⟨rfl, rfl⟩
end Go.Proofs.Ytdndhidinbmpdaa
