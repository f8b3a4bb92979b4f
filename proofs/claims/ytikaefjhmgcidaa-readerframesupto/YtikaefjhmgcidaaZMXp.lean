/- A region that draws its order and whose first operations only look: they may be walked as they stand in the text, and what comes behind them waits for all of them. -/
import Derived.BigQuiet
import Derived.RegionTactic
import Derived.Test.YtikaefjhmgcidaaZMB1
import Derived.Test.YtikaefjhmgcidaaZMFU1
import Derived.Deep.QuietTactic
namespace Go.Proofs.Ytikaefjhmgcidaa
open Go
section
variable {P : Program} {ops : Array Oper} {md : Region.Mode} {C : World → Prop}

/-- Whatever order is picked, as long as one of the first k may come up. -/
def wpCut (P : Program) (md : Region.Mode) (ops : Array Oper) (C : World → Prop) (k : Nat) (Q : Act → Prop) : Nat → Array Bool → Act → Prop
  | 0, listed, a => (∀ i ∈ Region.ready md ops listed, k ≤ i) ∧ Q a
  | fuel + 1, listed, a => ((∀ i ∈ Region.ready md ops listed, k ≤ i) → Q a) ∧
    ∀ i ∈ Region.ready md ops listed, i < k → qOp P ops C i (wpCut P md ops C k Q fuel (listed.setIfInBounds i true)) a

/-- Whoever has not come up and does not wait for operation i is apart from it. -/
def Alone (md : Region.Mode) (ops : Array Oper) (i : Nat) (oi : Oper) (listed : Array Bool) : Prop :=
  ∀ j oj, ops[j]? = some oj → j ≠ i → listed.getD j true = false → (∀ e ∈ oj.after, Region.binds md e = true → e.on ≠ i) → oi.apart ops oj = true
theorem still_unlisted {listed : Array Bool} {j k : Nat} (h : (listed.setIfInBounds j true).getD k true = false) : listed.getD k true = false := by
  rcases Nat.decEq j k with hn | he
  · rwa [getD_set_ne true hn] at h
  · rw [he] at h
    by_cases hk : k < listed.size <;> simp [hk] at h
theorem Alone.set {i : Nat} {oi : Oper} {listed : Array Bool} (h : Alone md ops i oi listed) (j : Nat) : Alone md ops i oi (listed.setIfInBounds j true) :=
  fun k ok hk hki hun => h k ok hk hki (still_unlisted hun)
/-- Two that may come up: the one does not wait for the other. -/
theorem Alone.apart {i j : Nat} {oi : Oper} {listed : Array Bool} (h : Alone md ops i oi listed) (hi : i ∈ Region.ready md ops listed) (hj : j ∈ Region.ready md ops listed) (hne : j ≠ i) : ∃ oj, ops[j]? = some oj ∧ oi.apart ops oj = true := by
  have hun := (mem_ready.1 hi).1
  obtain ⟨hjun, oj, hoj, hall⟩ := mem_ready.1 hj
  refine ⟨oj, hoj, h j oj hoj hne hjun fun e he hb hon => ?_⟩
  have hl := hall e he hb
  rw [hon] at hl
  by_cases hs : i < listed.size
  · simp [hs] at hun hl
    simp [hun] at hl
  · simp [hs] at hl

theorem wpCut_first {Q : Act → Prop} {k i : Nat} {oi : Oper} {v : Value} (hik : i < k) (hi : ops[i]? = some oi) (hsel : ∀ (j : Nat) (o : Oper) cs b, ops[j]? = some o → o.op ≠ .select cs b)
    (fuel : Nat) : ∀ (listed : Array Bool) (a : Act), Alone md ops i oi listed → i ∈ Region.ready md ops listed → YieldsIn P ops C oi v a →
      wpCut P md ops C k Q fuel (listed.setIfInBounds i true) (a.put oi.dst v) → wpCut P md ops C k Q (fuel + 1) listed a := by
  induction fuel with
  | zero =>
    intro listed a _ hr hy H
    refine ⟨fun hall => absurd hik (Nat.not_lt.2 (hall i hr)), fun j hj hjk => ?_⟩
    rcases Nat.decEq j i with hne | rfl
    · exact absurd hjk (Nat.not_lt.2 (H.1 j (ready_mono hj hne)))
    · exact hy.qOp hi H
  | succ fuel ih =>
    intro listed a hal hr hy H
    refine ⟨fun hall => absurd hik (Nat.not_lt.2 (hall i hr)), fun j hj hjk => ?_⟩
    rcases Nat.decEq j i with hne | rfl
    · obtain ⟨oj, hoj, hap⟩ := hal.apart hr hj hne
      refine qOp_mono (fun a' h3 => ?_) (qOp_put hoj hap (fun cs b => hsel i oi cs b hi) (fun cs b => hsel j oj cs b hoj) hy (H.2 j (ready_mono hj hne) hjk))
      have h4 := h3.2
      rw [Array.setIfInBounds_comm _ _ (Ne.symm hne)] at h4
      exact ih _ a' (hal.set j) (ready_mono hr (Ne.symm hne)) h3.1 h4
    · exact hy.qOp hi H

/-- The first k may come up as they stand in the text. -/
def lexTo (md : Region.Mode) (ops : Array Oper) (k : Nat) : Nat → Nat → Array Bool → Bool
  | 0, _, listed => (Region.ready md ops listed).all fun i => decide (k ≤ i)
  | fuel + 1, j, listed => decide (j < k) && ((Region.ready md ops listed).contains j && (Region.free md ops listed j && lexTo md ops k fuel (j + 1) (listed.setIfInBounds j true)))

theorem wpCut_lex {Q : Act → Prop} {k : Nat} (hs : Region.noSelect ops = true) : ∀ (l : List Oper) (j : Nat) (listed : Array Bool) (a : Act), (∀ i, i < l.length → l[i]? = ops[j + i]?) →
    lexTo md ops k l.length j listed = true → wpQuiet P ops C Q l a → wpCut P md ops C k Q l.length listed a
  | [], _, _, _, _, hB, h => ⟨by simpa [lexTo] using hB, h⟩
  | o :: l, j, listed, a, hl, hB, h => by
    have h0 : ops[j]? = some o := by simpa using (hl 0 (by simp)).symm
    simp only [List.length_cons, lexTo, Bool.and_eq_true, decide_eq_true_eq] at hB
    obtain ⟨hjk, hr, hf, hB'⟩ := hB
    have hst : qOp P ops C j (wpQuiet P ops C Q l) a := by unfold qOp; simp only [h0]; exact h
    obtain ⟨v, hy, hK⟩ := yieldsIn_of_qOp h0 hst
    exact wpCut_first hjk h0 (Region.noSelect_spec hs) l.length listed a (Region.free_spec h0 hf) (by simpa using hr) hy
      (wpCut_lex hs l (j + 1) _ _ (fun i hi => by have := hl (i + 1) (by simpa using hi); simpa [Nat.add_assoc, Nat.add_comm 1 i] using this) hB' hK)

def waitsFor (md : Region.Mode) (ops : Array Oper) (i j : Nat) : Bool := match ops[i]? with | some o => o.after.any (fun e => Region.binds md e && e.on == j) | none => false
/-- Each of the first k waits for earlier ones alone, each has one behind it that waits for it (number k at the last), and what stands behind number k waits for one of those. -/
def cutB (md : Region.Mode) (ops : Array Oper) (k : Nat) : Bool :=
  decide (k ≤ ops.size) && (((List.range k).all fun j => match ops[j]? with | some o => o.after.all (fun e => !Region.binds md e || decide (e.on < j)) | none => false)
  && (((List.range k).all fun j => (List.range (k + 1)).any fun i => decide (j < i) && waitsFor md ops i j)
  && ((List.range ops.size).all fun i => decide (i ≤ k) || match ops[i]? with | some o => o.after.any (fun e => Region.binds md e && decide (k ≤ e.on)) | none => false)))

/-- What is listed: none from k on, and whatever a listed one waits for. -/
structure CutInv (md : Region.Mode) (ops : Array Oper) (k : Nat) (listed : Array Bool) : Prop where
  size : listed.size = ops.size
  late : ∀ i, k ≤ i → listed.getD i false = false
  closed : ∀ i o, ops[i]? = some o → listed.getD i false = true → ∀ e ∈ o.after, Region.binds md e = true → listed.getD e.on false = true

theorem CutInv.set {k i : Nat} {listed : Array Bool} (h : CutInv md ops k listed) (hik : i < k) (hr : i ∈ Region.ready md ops listed) : CutInv md ops k (listed.setIfInBounds i true) := by
  refine ⟨by simp [h.size], fun j hj => by rw [getD_set_ne false (by omega)]; exact h.late j hj, fun j o ho hl e he hb => getD_set_true ?_⟩
  by_cases hji : i = j
  · subst hji
    obtain ⟨_, o', ho', hall⟩ := mem_ready.1 hr
    rw [ho] at ho'
    cases ho'
    exact hall e he hb
  · rw [getD_set_ne false hji] at hl
    exact h.closed j o ho hl e he hb

theorem getD_ft {listed : Array Bool} {i : Nat} (hi : i < listed.size) (d d' : Bool) : listed.getD i d = listed.getD i d' := by simp [hi]

theorem cut_waits {i j : Nat} (h : waitsFor md ops i j = true) : ∃ o, ops[i]? = some o ∧ ∃ e ∈ o.after, Region.binds md e = true ∧ e.on = j := by
  unfold waitsFor at h
  split at h
  · rename_i o ho
    obtain ⟨e, he, hb⟩ := Array.any_eq_true'.1 h
    simp only [Bool.and_eq_true, beq_iff_eq] at hb
    exact ⟨o, ho, e, he, hb⟩
  · cases h

/-- What comes up from k on comes up when all k are listed. -/
theorem cut_late {k j : Nat} {listed : Array Bool} (hB : cutB md ops k = true) (h : CutInv md ops k listed) (hk : k ≤ j) (hr : j ∈ Region.ready md ops listed) : ∀ i, i < k → listed.getD i false = true := by
  simp only [cutB, Bool.and_eq_true, decide_eq_true_eq, List.all_eq_true, List.mem_range, Bool.or_eq_true] at hB
  obtain ⟨hks, hE, hS, hL⟩ := hB
  obtain ⟨hun, o, ho, hall⟩ := mem_ready.1 hr
  have hjk : j = k := by
    rcases hL j (Array.getElem?_eq_some_iff.1 ho).1 with h1 | h1
    · omega
    · rw [ho] at h1
      obtain ⟨e, he, hb⟩ := Array.any_eq_true'.1 h1
      simp only [Bool.and_eq_true, decide_eq_true_eq] at hb
      have h2 := hall e he hb.1
      rw [h.late e.on hb.2] at h2
      cases h2
  subst hjk
  have key : ∀ d i, i + d = j → 0 < d → listed.getD i false = true := by
    intro d
    induction d using Nat.strongRecOn with
    | ind d ih =>
      intro i hd hd0
      obtain ⟨i', hi', h1⟩ := List.any_eq_true.1 (hS i (by omega))
      simp only [Bool.and_eq_true, decide_eq_true_eq] at h1
      have hi2 : i' < j + 1 := by simpa using hi'
      obtain ⟨o', ho', e, he, hb, hon⟩ := cut_waits h1.2
      rw [← hon]
      by_cases hij : i' = j
      · subst hij
        rw [ho] at ho'
        cases ho'
        exact hall e he hb
      · exact h.closed i' o' ho' (ih (j - i') (by omega) i' (by omega) (by omega)) e he hb
  intro i hi
  exact key (j - i) i (by omega) (by omega)

/-- Where none of the first k may come up, all of them are listed. -/
theorem cut_done {k : Nat} {listed : Array Bool} (hB : cutB md ops k = true) (h : CutInv md ops k listed) (hr : ∀ i ∈ Region.ready md ops listed, k ≤ i) : ∀ i, i < k → listed.getD i false = true := by
  simp only [cutB, Bool.and_eq_true, decide_eq_true_eq, List.all_eq_true, List.mem_range, Bool.or_eq_true] at hB
  obtain ⟨hks, hE, hS, hL⟩ := hB
  intro i
  induction i using Nat.strongRecOn with
  | ind i ih =>
    intro hi
    have hsz : i < listed.size := by rw [h.size]; omega
    have hE1 := hE i hi
    split at hE1
    · rename_i o ho
      rw [Array.all_eq_true_iff_forall_mem] at hE1
      cases hl : listed.getD i false with
      | true => rfl
      | false =>
        exfalso
        have := hr i (mem_ready.2 ⟨by rw [getD_ft hsz true false]; exact hl, o, ho, fun e he hb => by
          have h2 := hE1 e he
          rw [hb] at h2
          have h3 : e.on < i := by simpa using h2
          exact ih e.on h3 (by omega)⟩)
        omega
    · cases hE1

theorem cut_all {k : Nat} {listed : Array Bool} (hks : k ≤ ops.size) (h : CutInv md ops k listed) (ha : ∀ i, i < k → listed.getD i false = true) : listed = Array.replicate k true ++ Array.replicate (ops.size - k) false := by
  apply Array.ext
  · simp [h.size]; omega
  · intro i h1 h2
    by_cases hi : i < k
    · have := ha i hi
      simp [h1] at this
      rw [this]
      simp [hi]
    · have := h.late i (by omega)
      simp [h1] at this
      rw [this]
      simp [Array.getElem_append, hi]

theorem wpAny_of_cut {k r : Nat} {Q : Act → Prop} {Q' : Exit → Act → World → Prop} (hB : cutB md ops k = true)
    (hQ : ∀ a w m, C w → Q a → wpAny P md ops Q' (m + r) (Array.replicate k true ++ Array.replicate (ops.size - k) false) a w) :
    ∀ (fuel N : Nat) (listed : Array Bool) (a : Act) (w : World), C w → CutInv md ops k listed → fuel + r ≤ N → wpCut P md ops C k Q fuel listed a → wpAny P md ops Q' N listed a w := by
  have hks : k ≤ ops.size := by
    simp only [cutB, Bool.and_eq_true, decide_eq_true_eq] at hB
    exact hB.1
  have fin : ∀ (N : Nat) (listed : Array Bool) (a : Act) (w : World), C w → CutInv md ops k listed → r ≤ N → (∀ i ∈ Region.ready md ops listed, k ≤ i) → Q a → wpAny P md ops Q' N listed a w := by
    intro N listed a w hC hI hN hr hq
    rw [cut_all hks hI (cut_done hB hI hr)]
    have := hQ a w (N - r) hC hq
    rwa [show N - r + r = N by omega] at this
  intro fuel
  induction fuel with
  | zero =>
    intro N listed a w hC hI hN H
    exact fin N listed a w hC hI (by omega) H.1 H.2
  | succ fuel ih =>
    intro N listed a w hC hI hN H
    by_cases hex : ∃ i ∈ Region.ready md ops listed, i < k
    · obtain ⟨i, hir, hik⟩ := hex
      obtain ⟨N, rfl⟩ : ∃ N', N = N' + 1 := ⟨N - 1, by omega⟩
      refine ⟨fun h0 => (by rw [h0] at hir; cases hir), fun j hj => ?_⟩
      have hjk : j < k := by
        rcases Nat.lt_or_ge j k with h1 | h1
        · exact h1
        · have h2 := cut_late hB hI h1 hj i hik
          have h3 := (mem_ready.1 hir).1
          rw [getD_ft (by rw [hI.size]; omega) true false, h2] at h3
          cases h3
      exact wpOp_of_qOp hC (fun a' w' hw' hc => ih N _ a' w' hw' (hI.set hjk hj) (by omega) hc) (H.2 j hj hjk)
    · refine fin N listed a w hC hI (by omega) (fun i hi => ?_) (H.1 fun i hi => ?_)
      · rcases Nat.lt_or_ge i k with h1 | h1
        · exact (hex ⟨i, hi, h1⟩).elim
        · exact h1
      · rcases Nat.lt_or_ge i k with h1 | h1
        · exact (hex ⟨i, hi, h1⟩).elim
        · exact h1

/-- The first k operations only look (whatever world of that kind they stand in): walked as they stand in the text; what comes behind them is walked in all its orders. -/
theorem wp_region_cut {id : Nat} {Q : Exit → Act → World → Prop} {a : Act} {w : World} {l : List Oper} (k r : Nat) (LK : Array Bool) (hm : P.follows .mixedOrders = true)
    (hB : (Region.noSelect l.toArray && (cutB .any l.toArray k && lexTo .any l.toArray k k 0 (Array.replicate l.length false))) = true) (hr : k + r = l.length)
    (hLK : LK = Array.replicate k true ++ Array.replicate r false)
    (h : wpQuiet P l.toArray (fun w' => ∃ n, w' = w.drewN n) (fun a' => ∀ w', (∃ n, w' = w.drewN n) → ∀ m, wpAny P .any l.toArray Q (m + r) LK a' w') (l.take k) a) : (Code.region id l.toArray true).wp P Q a w := by
  simp only [Bool.and_eq_true] at hB
  obtain ⟨h1, h2, h3⟩ := hB
  have hlen : (l.take k).length = k := by simp; omega
  refine wp_region_any hm (wpAny_of_cut (C := fun w' => ∃ n, w' = w.drewN n) (k := k) (r := r)
    (Q := fun a' => ∀ w', (∃ n, w' = w.drewN n) → ∀ m, wpAny P .any l.toArray Q (m + r) LK a' w') h2 ?_ k _ _ _ _ ⟨1, rfl⟩ ?_ (by simp; omega) ?_)
  · intro a' w' m hC hq
    have := hq w' hC m
    rw [hLK] at this
    rw [show l.toArray.size - k = r by simp; omega]
    exact this
  · have hf : ∀ i, (Array.replicate l.toArray.size false).getD i false = false := fun i => by
      simp only [Array.getD_eq_getD_getElem?, Array.getElem?_replicate]
      split <;> rfl
    exact ⟨by simp, fun i _ => hf i, fun i o ho hl => by rw [hf i] at hl; cases hl⟩
  · have := wpCut_lex (P := P) (C := fun w' => ∃ n, w' = w.drewN n) (md := .any) (k := k) h1 (l.take k) 0 (Array.replicate l.length false) a
      (fun i hi => by rw [hlen] at hi; simp [hi]) (by rw [hlen]; exact h3) h
    rw [hlen] at this
    simpa using this
end
end Go.Proofs.Ytikaefjhmgcidaa
/- A reader in memory; contracts of made, New, Rest, Failed, Feed. -/
namespace Go.Proofs.Ytikaefjhmgcidaa
open Go.RowKit
set_option linter.unusedVariables false
set_option maxRecDepth 100000
set_option maxHeartbeats 4000000

/-- A reader's block: its fields. -/
def RdC (w : World) (g : Nat) (most : Int) (v : Value) (at_ : Nat) (X : Flt) : Prop :=
  w.heap[g]? = some (.cells #[.int .i64 most, v, .int .i64 at_, .bool X.is, .int .i64 X.st, .int .i64 X.code] 57 (0, 0))
theorem rcells {w : World} {g : Nat} {most : Int} {v : Value} {at_ : Nat} {X : Flt} (h : RdC w g most v at_ X) : w.cell? ⟨g, 0, none⟩ = some (.int .i64 most) ∧ w.cell? ⟨g, 1, none⟩ = some v ∧ w.cell? ⟨g, 2, none⟩ = some (.int .i64 at_) ∧ w.cell? ⟨g, 3, none⟩ = some (.bool X.is) ∧ w.cell? ⟨g, 4, none⟩ = some (.int .i64 X.st) ∧ w.cell? ⟨g, 5, none⟩ = some (.int .i64 X.code) :=
  ⟨cell_of_heap h rfl, cell_of_heap h rfl, cell_of_heap h rfl, cell_of_heap h rfl, cell_of_heap h rfl, cell_of_heap h rfl⟩
theorem RdC.lt {w : World} {g : Nat} {most : Int} {v : Value} {at_ : Nat} {X : Flt} (h : RdC w g most v at_ X) : g < w.heap.size := lt_of_heap h
theorem RdC.fr {S : Nat → Prop} {w w' : World} {g : Nat} {most : Int} {v : Value} {at_ : Nat} {X : Flt} (h : RdC w g most v at_ X) (hf : Fr S w w') (hs : ¬ S g) : RdC w' g most v at_ X := (hf.block g h.lt hs).trans h
/-- The bytes of a reader lie in another block than the reader. -/
theorem own_ne {w : World} {g : Nat} {most : Int} {v u : Value} {at_ : Nat} {X : Flt} {xs : List Value} (h : RdC w g most v at_ X) (ho : OwnAt w 5 u xs) : ∀ k, u.ownBlock = some k → k ≠ g := by
  rintro k hk rfl
  rcases ho with ⟨rfl, -⟩ | ⟨g', off, cap, cur, rfl, hg, -⟩
  · simp [Value.ownBlock] at hk
  · simp [Value.ownBlock] at hk
    subst hk
    rw [RdC, hg] at h
    simp at h
theorem rset {w : World} {g j : Nat} {cs : Array Value} {t : TypeId} {v : Value} (h : w.heap[g]? = some (.cells cs t (0, 0))) : (w.setCell ⟨g, j, none⟩ v).heap[g]? = some (.cells (cs.setIfInBounds j v) t (0, 0)) := by
  have hl := lt_of_heap h
  simp [World.setCell]
  rw [Array.getElem?_eq_getElem hl] at h
  simp at h
  simp [Array.modify, Array.modifyM, hl, h]

theorem made_in (g : Nat) (most : Int) (v : Value) (at_ : Nat) (X : Flt) (w : World) (h : RdC w g most v at_ X) (hm : 0 < most) :
    Calls Try.prog 21 #[.pointer (some ⟨g, 0, none⟩)] w fun e w' => e = .returned (.bool true) ∧ w = w' := by
  have c0 := (rcells h).1
  go_enter Try.func21, Try.ntmps21
  go_wp2_with (fail)
  go_ret
  exact ⟨rfl, rfl⟩
theorem made_zero (g : Nat) (v : Value) (at_ : Nat) (X : Flt) (w : World) (h : RdC w g 0 v at_ X) :
    Calls Try.prog 21 #[.pointer (some ⟨g, 0, none⟩)] w fun e w' => e = .returned (.bool false) ∧ w = w' := by
  have c0 := (rcells h).1
  go_enter Try.func21, Try.ntmps21
  go_wp2_with (fail)
  go_ret
  exact ⟨rfl, rfl⟩
theorem made_nil (w : World) :
    Calls Try.prog 21 #[.pointer none] w fun e w' => e = .returned (.bool false) ∧ w = w' := by
  go_enter Try.func21, Try.ntmps21
  go_wp2_with (fail)
  go_ret
  exact ⟨rfl, rfl⟩
theorem nNew_in (most : Int) (w : World) (h0 : 16384 ≤ most) (h1 : most ≤ 16777215) :
    Calls Try.prog 8 #[.int .i64 most] w fun e w' => e = .returned (.tuple #[.pointer (some ⟨w.heap.size, 0, none⟩), .int .i64 0]) ∧ RdC w' w.heap.size most (.slice none 0 0) 0 ⟨false, 0, 0⟩ ∧ Fr (fun _ => False) w w' ∧ w'.heap.size = w.heap.size + 1 := by
  have g1 : ¬ most < 16384 := by omega
  have g2 : ¬ 16777215 < most := by omega
  go_enter Try.func8, Try.ntmps8
  go_wp2_with (fail)
  go_ret2
  exact ⟨rfl, heap_alloc_new w _, (Fr.refl _ _).alloc _, by simp⟩
theorem nNew_not (most : Int) (w : World) (h : ¬ (16384 ≤ most ∧ most ≤ 16777215)) :
    Calls Try.prog 8 #[.int .i64 most] w fun e w' => e = .returned (.tuple #[.pointer none, .int .i64 1]) ∧ w = w' := by
  by_cases g1 : most < 16384
  · go_enter Try.func8, Try.ntmps8
    go_wp2_with (fail)
    go_ret2
    exact ⟨rfl, rfl⟩
  · have g2 : 16777215 < most := by omega
    go_enter Try.func8, Try.ntmps8
    go_wp2_with (fail)
    go_ret2
    exact ⟨rfl, rfl⟩
theorem Rest_in (g : Nat) (most : Int) (a : Option Addr) (n c at_ : Nat) (X : Flt) (w : World) (h : RdC w g most (.slice a n c) at_ X) (hm : 0 < most) (hat : at_ ≤ n) (hn : n < 2 ^ 62) :
    Calls Try.prog 16 #[.pointer (some ⟨g, 0, none⟩)] w fun e w' => e = .returned (.int .i64 ((n - at_ : Nat) : Int)) ∧ ∃ k, w' = w.drewN k := by
  obtain ⟨c0, c1, c2, c3, c4, c5⟩ := rcells h
  have KM := made_in g most _ at_ X w h hm
  have hsub : ((n - at_ : Nat) : Int) = (n : Int) - (at_ : Int) := by omega
  rw [hsub]
  clear hsub
  go_enter Try.func16, Try.ntmps16
  go_wp2_with (go_at_call 21; refine KM.mono ?_; clear KM; rintro e w' ⟨rfl, rfl⟩)
  go_quiet (fail)
  go_wp2_with (fail)
  go_ret
  exact ⟨rfl, _, rfl⟩
theorem Rest_nil (w : World) :
    Calls Try.prog 16 #[.pointer none] w fun e w' => e = .returned (.int .i64 0) ∧ w = w' := by
  have KM := made_nil w
  go_enter Try.func16, Try.ntmps16
  go_wp2_with (go_at_call 21; refine KM.mono ?_; clear KM; rintro e w' ⟨rfl, rfl⟩)
  go_ret
  exact ⟨rfl, rfl⟩
theorem Failed_in (g : Nat) (most : Int) (v : Value) (at_ : Nat) (X : Flt) (w : World) (h : RdC w g most v at_ X) (hm : 0 < most) :
    Calls Try.prog 15 #[.pointer (some ⟨g, 0, none⟩)] w fun e w' => e = .returned (.bool X.is) ∧ w = w' := by
  obtain ⟨c0, c1, c2, c3, c4, c5⟩ := rcells h
  have KM := made_in g most _ at_ X w h hm
  go_enter Try.func15, Try.ntmps15
  go_wp2_with (go_at_call 21; refine KM.mono ?_; clear KM; rintro e w' ⟨rfl, rfl⟩)
  go_ret
  exact ⟨rfl, rfl⟩
theorem Failed_zero (g : Nat) (v : Value) (at_ : Nat) (X : Flt) (w : World) (h : RdC w g 0 v at_ X) :
    Calls Try.prog 15 #[.pointer (some ⟨g, 0, none⟩)] w fun e w' => e = .returned (.bool false) ∧ w = w' := by
  have KM := made_zero g _ at_ X w h
  go_enter Try.func15, Try.ntmps15
  go_wp2_with (go_at_call 21; refine KM.mono ?_; clear KM; rintro e w' ⟨rfl, rfl⟩)
  go_ret
  exact ⟨rfl, rfl⟩
theorem Feed_nil (b : Value) (w : World) :
    Calls Try.prog 10 #[.pointer none, b] w fun e w' => e = .returned (.int .i64 7) ∧ w = w' := by
  have KM := made_nil w
  go_enter Try.func10, Try.ntmps10
  go_wp2_with (go_at_call 21; refine KM.mono ?_; clear KM; rintro e w' ⟨rfl, rfl⟩)
  go_ret
  exact ⟨rfl, rfl⟩
theorem Feed_zero (g : Nat) (v : Value) (at_ : Nat) (X : Flt) (b : Value) (w : World) (h : RdC w g 0 v at_ X) :
    Calls Try.prog 10 #[.pointer (some ⟨g, 0, none⟩), b] w fun e w' => e = .returned (.int .i64 7) ∧ w = w' := by
  have KM := made_zero g _ at_ X w h
  go_enter Try.func10, Try.ntmps10
  go_wp2_with (go_at_call 21; refine KM.mono ?_; clear KM; rintro e w' ⟨rfl, rfl⟩)
  go_ret
  exact ⟨rfl, rfl⟩
theorem Feed_failed (g : Nat) (most : Int) (v : Value) (at_ : Nat) (X : Flt) (b : Value) (w : World) (h : RdC w g most v at_ X) (hm : 0 < most) (hX : X.is = true) :
    Calls Try.prog 10 #[.pointer (some ⟨g, 0, none⟩), b] w fun e w' => e = .returned (.int .i64 5) ∧ w = w' := by
  obtain ⟨c0, c1, c2, c3, c4, c5⟩ := rcells h
  have KM := made_in g most _ at_ X w h hm
  rw [hX] at c3
  clear hX
  go_enter Try.func10, Try.ntmps10
  go_wp2_with (go_at_call 21; refine KM.mono ?_; clear KM; rintro e w' ⟨rfl, rfl⟩)
  go_ret
  exact ⟨rfl, rfl⟩
/-- What Feed leaves. -/
def FedAs (w : World) (g : Nat) (most : Int) (v : Value) (at_ : Nat) (X : Flt) (D : List UInt8) (e : Ending) (w' : World) : Prop :=
  e = .returned (.int .i64 0) ∧ ∃ a' n' c', RdC w' g most (.slice a' n' c') at_ X ∧ OwnAt w' 5 (.slice a' n' c') (bv D) ∧ Fr (fun k => k = g ∨ v.ownBlock = some k) w w' ∧ ((Value.slice a' n' c').ownBlock = v.ownBlock ∨ ∃ k, (Value.slice a' n' c').ownBlock = some k ∧ w.heap.size ≤ k)
theorem Feed_in (g : Nat) (most : Int) (a : Option Addr) (n c at_ : Nat) (X : Flt) (D : List UInt8) (sp : Option Addr) (m cb : Nat) (b : List UInt8) (w : World) (h : RdC w g most (.slice a n c) at_ X) (ho : OwnAt w 5 (.slice a n c) (bv D)) (hm : 0 < most) (hX : X.is = false) (hs : SrcAt w sp b) (hb : b.length = m) (hbig : D.length + m ≤ 225179981368371) :
    Calls Try.prog 10 #[.pointer (some ⟨g, 0, none⟩), .slice sp m cb] w fun e w' => FedAs w g most (.slice a n c) at_ X (D ++ b) e w' := by
  obtain ⟨c0, c1, c2, c3, c4, c5⟩ := rcells h
  have KM := made_in g most _ at_ X w h hm
  obtain ⟨i, j1, j2, j3, j4⟩ := info5
  have J1 : Hid (Try.prog.info? 5 = some i) := j1
  have J2 : Hid (i.zero = some (.int .u8 0)) := j2
  have J3 : Hid (i.size = 1) := j3
  have J4 : Hid (i.bytes = 1) := j4
  have HO : Hid (OwnAt w 5 (.slice a n c) (bv D)) := ho
  have HS : Hid (SrcAt w sp b) := hs
  have HB : Hid (b.length = m) := hb
  have HR : Hid (RdC w g most (.slice a n c) at_ X) := h
  have HNE : Hid (∀ k, (Value.slice a n c).ownBlock = some k → k ≠ g) := own_ne h ho
  rw [hX] at c3
  clear hX ho hs hb h j1 j2 j3 j4
  go_enter Try.func10, Try.ntmps10
  go_wp2_with (first
    | (go_at_call 21; refine KM.mono ?_; clear KM; rintro e w' ⟨rfl, rfl⟩)
    | (refine wpList_append_bytes rfl (.tmp 17) (.tmp 18) 31 31 rfl 5 i Try.underlying31 Try.underlying31 J1.out J2.out J3.out J4.out (.slice a n c) D (by go_simp) HO.out sp m cb (by go_simp) b HS.out HB.out hbig ?_
       intro a' n' c' w1 N1 o1 F1 B1
       have O1 : Hid (OwnAt w1 5 (.slice a' n' c') (bv (D ++ b))) := o1
       have R1 : Hid (RdC w1 g most (.slice a n c) at_ X) := HR.out.fr F1.out (fun e => HNE.out g e rfl)
       have d1 : w1.cell? ⟨g, 1, none⟩ = some (.slice a n c) := (rcells R1.out).2.1
       have z1 : w1.frozen? ⟨g, 1, none⟩ = false := frozen_of_heap R1.out
       clear o1))
  go_ret
  refine ⟨rfl, a', n', c', rset R1.out, ?_, ?_, B1.out⟩
  · exact O1.out.fr ((Fr.refl _ _).setB 1 _) (own_ne R1.out O1.out)
  · exact (F1.out.mono (T := fun k => k = g ∨ (Value.slice a n c).ownBlock = some k) (fun _ _ e => .inr e)).setS (.inl rfl) 1 _
end Go.Proofs.Ytikaefjhmgcidaa
/- Contract of the reader's move. -/
namespace Go.Proofs.Ytikaefjhmgcidaa
open Go.RowKit
set_option linter.unusedVariables false
set_option maxRecDepth 100000
set_option maxHeartbeats 4000000

theorem make_full (n : Nat) (h : n ≤ 140737488351232) : ∀ w : World, (Instr.makeSlice 31 (.int .i64 (n : Int)) (.int .i64 (n : Int))).run Try.prog w = .ok (.slice (some ⟨w.heap.size, 0, none⟩) n n) (w.alloc (.cells (bv (List.replicate n 0)).toArray 5)) := by
  intro w
  have hr := run_make (P := Try.prog) w 31 5 ((Try.prog.info? 5).get (by kernel_rfl)) (.int .u8 0) Try.underlying31 (by kernel_rfl) (by kernel_rfl) .i64 .i64 n n (by omega) (by omega) (by rw [show (((Try.prog.info? 5).get (by kernel_rfl)).bytes) = 1 from by kernel_rfl]; omega) (by omega)
  rw [show (((Try.prog.info? 5).get (by kernel_rfl)).size) = 1 from by kernel_rfl] at hr
  simpa [Value.cells, made_bytes] using hr

/-- What a reader holds, cut from some place on. -/
theorem own_cut {w : World} {a : Option Addr} {n c : Nat} {D : List UInt8} (ho : OwnAt w 5 (.slice a n c) (bv D)) (at_ : Nat) (h : at_ ≤ n) :
    ∃ dp : Option Addr, (∀ w, (Instr.slice 31 (.slice a n c) (some (.int .i64 (at_ : Int))) none none).run Try.prog w = .ok (.slice dp (n - at_) (c - at_)) w) ∧ (∀ w', SrcAt w' a D → SrcAt w' dp (D.drop at_)) := by
  rcases ho with ⟨hv, hx⟩ | ⟨g, off, cap, cur, hv, hg, h1, h2, h3, h4⟩
  · cases hv
    obtain rfl : at_ = 0 := by omega
    exact ⟨none, cut_nil Try.prog 31 5 Try.underlying31 (by kernel_rfl) .i64, fun w' hs => hs⟩
  · cases hv
    rw [bv_length] at h h2
    obtain ⟨dp, e1, e2⟩ := cut_from Try.prog 31 5 Try.underlying31 (by kernel_rfl) ⟨g, off, none⟩ D.length c at_ .i64 h
    rw [bv_length]
    refine ⟨dp, e1, fun w' hs => ?_⟩
    intro j x hj
    rw [List.getElem?_drop] at hj
    have hjl := (List.getElem?_eq_some_iff.1 hj).1
    obtain ⟨ad, e3, hc⟩ := hs _ _ hj
    cases e3
    refine ⟨_, e2 (by omega), ?_⟩
    rw [add_none] at hc ⊢
    rw [add_none, Nat.add_assoc]
    exact hc

/-- What move leaves. -/
def MovedAs (w : World) (g : Nat) (most : Int) (v : Value) (at_ : Nat) (X : Flt) (D : List UInt8) (w' : World) : Prop :=
  ∃ a' n' c' at' D', RdC w' g most (.slice a' n' c') at' X ∧ OwnAt w' 5 (.slice a' n' c') (bv D') ∧ at' ≤ D'.length ∧ D'.drop at' = D.drop at_ ∧ (D'.length ≤ 2 * (D.drop at_).length ∧ D'.length ≤ D.length) ∧ Fr (fun k => k = g) w w' ∧ ((Value.slice a' n' c').ownBlock = v.ownBlock ∨ ∃ k, (Value.slice a' n' c').ownBlock = some k ∧ w.heap.size ≤ k)

theorem move_in (g : Nat) (most : Int) (a : Option Addr) (n c at_ : Nat) (X : Flt) (D : List UInt8) (w : World) (h : RdC w g most (.slice a n c) at_ X) (ho : OwnAt w 5 (.slice a n c) (bv D)) (hm : 0 < most) (hat : at_ ≤ n) (hbig : n ≤ 225179981368371) :
    Calls Try.prog 23 #[.pointer (some ⟨g, 0, none⟩)] w fun e w' => e = .returned (.tuple #[]) ∧ MovedAs w g most (.slice a n c) at_ X D w' := by
  have hDn : D.length = n := (own_len ho).1.symm
  have KR : Hid (∀ k, Calls Try.prog 16 #[.pointer (some ⟨g, 0, none⟩)] (w.drewN k) fun e w' => e = .returned (.int .i64 ((n - at_ : Nat) : Int)) ∧ ∃ m, w' = (w.drewN k).drewN m) := fun k => Rest_in g most a n c at_ X (w.drewN k) h hm hat (by omega)
  obtain ⟨c0, c1, c2, c3, c4, c5⟩ := rcells h
  have HR : Hid (RdC w g most (.slice a n c) at_ X) := h
  have HO : Hid (OwnAt w 5 (.slice a n c) (bv D)) := ho
  have HD : Hid (D.length = n) := hDn
  obtain ⟨r, hr⟩ : ∃ r, r = n - at_ := ⟨_, rfl⟩
  rw [← hr] at KR
  have hr2 : r + at_ = n := by omega
  clear h ho hDn
  by_cases h0 : at_ = 0
  · subst h0
    clear hr
    go_enter Try.func23, Try.ntmps23
    go_wp2_with (fail)
    go_quiet (fail)
    go_wp2_with (fail)
    refine bodyPost_ret (results_none rfl _ _ _) rfl ?_
    refine ⟨rfl, a, n, c, 0, D, HR.out, HO.out.fr ((Fr.refl (fun _ => False) _).drewN _) (fun _ _ => id), by simp, rfl, ⟨by simp; omega, Nat.le_refl _⟩, (Fr.refl _ _).drewN _, .inl rfl⟩
  · have h0b : ((at_ : Int) == 0) = false := by simp; omega
    by_cases hgt : at_ < r
    · have hgi : (at_ : Int) < (r : Int) := by omega
      clear hr
      go_enter Try.func23, Try.ntmps23
      go_wp2_with (fail)
      go_quiet ((go_at_call 16; exact Calls.quiet_of (KR.out _)))
      go_wp2_with (fail)
      refine bodyPost_ret (results_none rfl _ _ _) rfl ?_
      refine ⟨rfl, a, n, c, at_, D, HR.out, HO.out.fr ((Fr.refl (fun _ => False) _).drewN _) (fun _ _ => id), by rw [HD.out]; exact hat, rfl, ⟨by rw [List.length_drop, HD.out]; omega, Nat.le_refl _⟩, (Fr.refl _ _).drewN _, .inl rfl⟩
    · have hgi : ¬ (at_ : Int) < (r : Int) := by omega
      have hgd : decide ((at_ : Int) < (r : Int)) = false := decide_eq_false hgi
      clear hr
      obtain ⟨dp, hcut, hcs⟩ := own_cut HO.out at_ hat
      rw [show n - at_ = r by omega] at hcut
      have hmk := make_full r (by omega)
      have HCS : Hid (∀ w', SrcAt w' a D → SrcAt w' dp (D.drop at_)) := hcs
      have hdl : (D.drop at_).length = r := by rw [List.length_drop, HD.out]; omega
      have HDL : Hid ((D.drop at_).length = r) := hdl
      clear hcs hdl
      go_enter Try.func23, Try.ntmps23
      go_wp2_with (fail)
      go_quiet ((go_at_call 16; exact Calls.quiet_of (KR.out _)))
      go_wp2_with (go_at_call 16; refine (KR.out _).mono ?_; rintro e w2 ⟨rfl, k2, hk2⟩; have F2 : Hid (Fr (fun _ => False) w w2 ∧ w2.heap = w.heap) := (by rw [hk2]; exact ⟨((Fr.refl _ _).drewN _).drewN _, rfl⟩); clear hk2)
      obtain ⟨W3, hW3⟩ : ∃ W3, W3 = w2.alloc (.cells (bv (List.replicate r 0)).toArray 5) := ⟨_, rfl⟩
      have hL : w2.heap.size = w.heap.size := by rw [F2.out.2]
      have F3 : Hid (Fr (fun _ => False) w W3 ∧ W3.heap[w.heap.size]? = some (.cells (bv (List.replicate r 0)).toArray 5 (0, 0))) := by rw [hW3]; exact ⟨F2.out.1.alloc _, last_at _ hL⟩
      rw [← hW3, hL]
      clear hW3 hL c0 c1 c2 c3 c4 c5
      have HR3 : Hid (RdC W3 g most (.slice a n c) at_ X) := HR.out.fr F3.out.1 id
      obtain ⟨c0, c1, c2, c3, c4, c5⟩ := rcells HR3.out
      refine wp_region_cut 10 1 #[true, true, true, true, true, true, true, true, true, true, false] (by kernel_rfl) (by kernel_rfl) rfl rfl ?_
      simp only [List.take_succ_cons, List.take_zero]
      repeat (go_big_quiet_step (fail))
      refine wpQuiet_nil ?_
      rintro _ ⟨n3, rfl⟩ mm
      refine wpAny_ready (rs := [10]) (by kernel_rfl) (by simp) ?_
      refine AllReady.cons rfl (fun K hK => ?_) AllReady.nil
      refine step_copy_row rfl (.tmp 20) (.tmp 29) 31 31 rfl 5 Try.underlying31 (by kernel_rfl) (some ⟨w.heap.size, 0, none⟩) dp r r r (c - at_) (by go_simp) (by go_simp) w.heap.size 0 (List.replicate r 0) 5 F3.out.2 (D.drop at_) (by rw [HDL.out]; simp) (fun _ => rfl) (HCS.out _ (own_src (HO.out.fr (F3.out.1.drewN n3) (fun _ _ => id)))) (by rw [HDL.out]; simp) ?_
      intro w4 H4 F4
      have hlt : g < w.heap.size := HR.out.lt
      have F4b : Hid (Fr (fun k => k = w.heap.size) W3 w4) := ((Fr.refl _ _).drewN n3).trans F4.out
      have HR4 : Hid (RdC w4 g most (.slice a n c) at_ X) := HR3.out.fr F4b.out (by omega)
      have H4b : Hid (w4.heap[w.heap.size]? = some (.cells (bv (D.drop at_)).toArray 5 (0, 0))) := by
        show _ = _
        rw [H4.out, splice_zero, HDL.out]
        simp
      refine hK _ _ ?_
      clear hK K H4 F4 c0 c1 c2 c3 c4 c5
      obtain ⟨c0, c1, c2, c3, c4, c5⟩ := rcells HR4.out
      have z1 : w4.frozen? ⟨g, 1, none⟩ = false := frozen_of_heap HR4.out
      have z2 : w4.frozen? ⟨g, 2, none⟩ = false := frozen_of_heap HR4.out
      simp only [Act.put, List.getElem_toArray, List.getElem_cons_succ, List.getElem_cons_zero, List.setIfInBounds_toArray, List.set_cons_zero, List.set_cons_succ]
      refine wpAny_done (by kernel_rfl) ?_ _
      go_wp2_with (fail)
      refine bodyPost_end (results_none rfl _ _ _) rfl ?_
      have hown : OwnAt w4 5 (.slice (some ⟨w.heap.size, 0, none⟩) r r) (bv (D.drop at_)) := .inr ⟨w.heap.size, 0, r, (bv (D.drop at_)).toArray, by rw [bv_length, HDL.out], H4b.out, by simp [bv_length, HDL.out], by rw [bv_length, HDL.out]; exact Nat.le_refl _, by unfold maxLen; omega, by simp⟩
      have hfr : Fr (fun k => k = g ∨ k = w.heap.size) w w4 := (F3.out.1.mono (T := fun k => k = g ∨ k = w.heap.size) (fun _ _ e => e.elim)).trans (F4b.out.mono (fun _ _ e => .inr e))
      refine ⟨rfl, some ⟨w.heap.size, 0, none⟩, r, r, 0, D.drop at_, rset (rset HR4.out), ?_, by simp, rfl, ⟨by rw [HDL.out]; omega, by rw [HDL.out, HD.out]; omega⟩, ?_, .inr ⟨w.heap.size, rfl, Nat.le_refl _⟩⟩
      · exact hown.fr (((Fr.refl _ _).setB 1 _).setB 2 _) (own_ne HR4.out hown)
      · exact ((hfr.setS (.inl rfl) 1 _).setS (.inl rfl) 2 _).mono (fun k hk e => by omega)
end Go.Proofs.Ytikaefjhmgcidaa
