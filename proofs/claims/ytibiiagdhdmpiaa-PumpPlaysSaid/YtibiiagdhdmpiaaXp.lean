/- A region that draws its order and whose first operations only look: they may be walked as they stand in the text, and what comes behind them waits for all of them. -/
import Derived.BigQuiet
import Derived.RegionTactic
namespace Go.Proofs.Ytibiiagdhdmpiaa
open Go
section
variable {P : Program} {ops : Array Oper} {md : Region.Mode} {C : World → Prop}

/-- Whatever order is picked, as long as one of the first k may come up. -/
def wpCut (P : Program) (md : Region.Mode) (ops : Array Oper) (C : World → Prop) (k : Nat) (Q : Act → Prop) : Nat → Array Bool → Act → Prop
  | 0, listed, a => (∀ i ∈ Region.ready md ops listed, k ≤ i) ∧ Q a
  | fuel + 1, listed, a => ((∀ i ∈ Region.ready md ops listed, k ≤ i) → Q a) ∧
    ∀ i ∈ Region.ready md ops listed, i < k → qOp P ops C i (wpCut P md ops C k Q fuel (listed.setIfInBounds i true)) a

/-- Whoever has not come up and does not wait for operation i is apart from it. -/
def Alone (md : Region.Mode) (ops : Array Oper) (i : Nat) (oi : Oper) (listed : Array Bool) : Prop :=
  ∀ j oj, ops[j]? = some oj → j ≠ i → listed.getD j true = false → (∀ e ∈ oj.after, Region.binds md e = true → e.on ≠ i) → oi.apart ops oj = true
theorem still_unlisted {listed : Array Bool} {j k : Nat} (h : (listed.setIfInBounds j true).getD k true = false) : listed.getD k true = false := by
  rcases Nat.decEq j k with hn | he
  · rwa [getD_set_ne true hn] at h
  · rw [he] at h
    by_cases hk : k < listed.size <;> simp [hk] at h
theorem Alone.set {i : Nat} {oi : Oper} {listed : Array Bool} (h : Alone md ops i oi listed) (j : Nat) : Alone md ops i oi (listed.setIfInBounds j true) :=
  fun k ok hk hki hun => h k ok hk hki (still_unlisted hun)
/-- Two that may come up: the one does not wait for the other. -/
theorem Alone.apart {i j : Nat} {oi : Oper} {listed : Array Bool} (h : Alone md ops i oi listed) (hi : i ∈ Region.ready md ops listed) (hj : j ∈ Region.ready md ops listed) (hne : j ≠ i) : ∃ oj, ops[j]? = some oj ∧ oi.apart ops oj = true := by
  have hun := (mem_ready.1 hi).1
  obtain ⟨hjun, oj, hoj, hall⟩ := mem_ready.1 hj
  refine ⟨oj, hoj, h j oj hoj hne hjun fun e he hb hon => ?_⟩
  have hl := hall e he hb
  rw [hon] at hl
  by_cases hs : i < listed.size
  · simp [hs] at hun hl
    simp [hun] at hl
  · simp [hs] at hl

theorem wpCut_first {Q : Act → Prop} {k i : Nat} {oi : Oper} {v : Value} (hik : i < k) (hi : ops[i]? = some oi) (hsel : ∀ (j : Nat) (o : Oper) cs b, ops[j]? = some o → o.op ≠ .select cs b)
    (fuel : Nat) : ∀ (listed : Array Bool) (a : Act), Alone md ops i oi listed → i ∈ Region.ready md ops listed → YieldsIn P ops C oi v a →
      wpCut P md ops C k Q fuel (listed.setIfInBounds i true) (a.put oi.dst v) → wpCut P md ops C k Q (fuel + 1) listed a := by
  induction fuel with
  | zero =>
    intro listed a _ hr hy H
    refine ⟨fun hall => absurd hik (Nat.not_lt.2 (hall i hr)), fun j hj hjk => ?_⟩
    rcases Nat.decEq j i with hne | rfl
    · exact absurd hjk (Nat.not_lt.2 (H.1 j (ready_mono hj hne)))
    · exact hy.qOp hi H
  | succ fuel ih =>
    intro listed a hal hr hy H
    refine ⟨fun hall => absurd hik (Nat.not_lt.2 (hall i hr)), fun j hj hjk => ?_⟩
    rcases Nat.decEq j i with hne | rfl
    · obtain ⟨oj, hoj, hap⟩ := hal.apart hr hj hne
      refine qOp_mono (fun a' h3 => ?_) (qOp_put hoj hap (fun cs b => hsel i oi cs b hi) (fun cs b => hsel j oj cs b hoj) hy (H.2 j (ready_mono hj hne) hjk))
      have h4 := h3.2
      rw [Array.setIfInBounds_comm _ _ (Ne.symm hne)] at h4
      exact ih _ a' (hal.set j) (ready_mono hr (Ne.symm hne)) h3.1 h4
    · exact hy.qOp hi H

/-- The first k may come up as they stand in the text. -/
def lexTo (md : Region.Mode) (ops : Array Oper) (k : Nat) : Nat → Nat → Array Bool → Bool
  | 0, _, listed => (Region.ready md ops listed).all fun i => decide (k ≤ i)
  | fuel + 1, j, listed => decide (j < k) && ((Region.ready md ops listed).contains j && (Region.free md ops listed j && lexTo md ops k fuel (j + 1) (listed.setIfInBounds j true)))

theorem wpCut_lex {Q : Act → Prop} {k : Nat} (hs : Region.noSelect ops = true) : ∀ (l : List Oper) (j : Nat) (listed : Array Bool) (a : Act), (∀ i, i < l.length → l[i]? = ops[j + i]?) →
    lexTo md ops k l.length j listed = true → wpQuiet P ops C Q l a → wpCut P md ops C k Q l.length listed a
  | [], _, _, _, _, hB, h => ⟨by simpa [lexTo] using hB, h⟩
  | o :: l, j, listed, a, hl, hB, h => by
    have h0 : ops[j]? = some o := by simpa using (hl 0 (by simp)).symm
    simp only [List.length_cons, lexTo, Bool.and_eq_true, decide_eq_true_eq] at hB
    obtain ⟨hjk, hr, hf, hB'⟩ := hB
    have hst : qOp P ops C j (wpQuiet P ops C Q l) a := by unfold qOp; simp only [h0]; exact h
    obtain ⟨v, hy, hK⟩ := yieldsIn_of_qOp h0 hst
    exact wpCut_first hjk h0 (Region.noSelect_spec hs) l.length listed a (Region.free_spec h0 hf) (by simpa using hr) hy
      (wpCut_lex hs l (j + 1) _ _ (fun i hi => by have := hl (i + 1) (by simpa using hi); simpa [Nat.add_assoc, Nat.add_comm 1 i] using this) hB' hK)

def waitsFor (md : Region.Mode) (ops : Array Oper) (i j : Nat) : Bool := match ops[i]? with | some o => o.after.any (fun e => Region.binds md e && e.on == j) | none => false
/-- Each of the first k waits for earlier ones alone, each has one behind it that waits for it (number k at the last), and what stands behind number k waits for one of those. -/
def cutB (md : Region.Mode) (ops : Array Oper) (k : Nat) : Bool :=
  decide (k ≤ ops.size) && (((List.range k).all fun j => match ops[j]? with | some o => o.after.all (fun e => !Region.binds md e || decide (e.on < j)) | none => false)
  && (((List.range k).all fun j => (List.range (k + 1)).any fun i => decide (j < i) && waitsFor md ops i j)
  && ((List.range ops.size).all fun i => decide (i ≤ k) || match ops[i]? with | some o => o.after.any (fun e => Region.binds md e && decide (k ≤ e.on)) | none => false)))

/-- What is listed: none from k on, and whatever a listed one waits for. -/
structure CutInv (md : Region.Mode) (ops : Array Oper) (k : Nat) (listed : Array Bool) : Prop where
  size : listed.size = ops.size
  late : ∀ i, k ≤ i → listed.getD i false = false
  closed : ∀ i o, ops[i]? = some o → listed.getD i false = true → ∀ e ∈ o.after, Region.binds md e = true → listed.getD e.on false = true

theorem CutInv.set {k i : Nat} {listed : Array Bool} (h : CutInv md ops k listed) (hik : i < k) (hr : i ∈ Region.ready md ops listed) : CutInv md ops k (listed.setIfInBounds i true) := by
  refine ⟨by simp [h.size], fun j hj => by rw [getD_set_ne false (by omega)]; exact h.late j hj, fun j o ho hl e he hb => getD_set_true ?_⟩
  by_cases hji : i = j
  · subst hji
    obtain ⟨_, o', ho', hall⟩ := mem_ready.1 hr
    rw [ho] at ho'
    cases ho'
    exact hall e he hb
  · rw [getD_set_ne false hji] at hl
    exact h.closed j o ho hl e he hb

theorem getD_ft {listed : Array Bool} {i : Nat} (hi : i < listed.size) (d d' : Bool) : listed.getD i d = listed.getD i d' := by simp [hi]

theorem cut_waits {i j : Nat} (h : waitsFor md ops i j = true) : ∃ o, ops[i]? = some o ∧ ∃ e ∈ o.after, Region.binds md e = true ∧ e.on = j := by
  unfold waitsFor at h
  split at h
  · rename_i o ho
    obtain ⟨e, he, hb⟩ := Array.any_eq_true'.1 h
    simp only [Bool.and_eq_true, beq_iff_eq] at hb
    exact ⟨o, ho, e, he, hb⟩
  · cases h

/-- What comes up from k on comes up when all k are listed. -/
theorem cut_late {k j : Nat} {listed : Array Bool} (hB : cutB md ops k = true) (h : CutInv md ops k listed) (hk : k ≤ j) (hr : j ∈ Region.ready md ops listed) : ∀ i, i < k → listed.getD i false = true := by
  simp only [cutB, Bool.and_eq_true, decide_eq_true_eq, List.all_eq_true, List.mem_range, Bool.or_eq_true] at hB
  obtain ⟨hks, hE, hS, hL⟩ := hB
  obtain ⟨hun, o, ho, hall⟩ := mem_ready.1 hr
  have hjk : j = k := by
    rcases hL j (Array.getElem?_eq_some_iff.1 ho).1 with h1 | h1
    · omega
    · rw [ho] at h1
      obtain ⟨e, he, hb⟩ := Array.any_eq_true'.1 h1
      simp only [Bool.and_eq_true, decide_eq_true_eq] at hb
      have h2 := hall e he hb.1
      rw [h.late e.on hb.2] at h2
      cases h2
  subst hjk
  have key : ∀ d i, i + d = j → 0 < d → listed.getD i false = true := by
    intro d
    induction d using Nat.strongRecOn with
    | ind d ih =>
      intro i hd hd0
      obtain ⟨i', hi', h1⟩ := List.any_eq_true.1 (hS i (by omega))
      simp only [Bool.and_eq_true, decide_eq_true_eq] at h1
      have hi2 : i' < j + 1 := by simpa using hi'
      obtain ⟨o', ho', e, he, hb, hon⟩ := cut_waits h1.2
      rw [← hon]
      by_cases hij : i' = j
      · subst hij
        rw [ho] at ho'
        cases ho'
        exact hall e he hb
      · exact h.closed i' o' ho' (ih (j - i') (by omega) i' (by omega) (by omega)) e he hb
  intro i hi
  exact key (j - i) i (by omega) (by omega)

/-- Where none of the first k may come up, all of them are listed. -/
theorem cut_done {k : Nat} {listed : Array Bool} (hB : cutB md ops k = true) (h : CutInv md ops k listed) (hr : ∀ i ∈ Region.ready md ops listed, k ≤ i) : ∀ i, i < k → listed.getD i false = true := by
  simp only [cutB, Bool.and_eq_true, decide_eq_true_eq, List.all_eq_true, List.mem_range, Bool.or_eq_true] at hB
  obtain ⟨hks, hE, hS, hL⟩ := hB
  intro i
  induction i using Nat.strongRecOn with
  | ind i ih =>
    intro hi
    have hsz : i < listed.size := by rw [h.size]; omega
    have hE1 := hE i hi
    split at hE1
    · rename_i o ho
      rw [Array.all_eq_true_iff_forall_mem] at hE1
      cases hl : listed.getD i false with
      | true => rfl
      | false =>
        exfalso
        have := hr i (mem_ready.2 ⟨by rw [getD_ft hsz true false]; exact hl, o, ho, fun e he hb => by
          have h2 := hE1 e he
          rw [hb] at h2
          have h3 : e.on < i := by simpa using h2
          exact ih e.on h3 (by omega)⟩)
        omega
    · cases hE1

theorem cut_all {k : Nat} {listed : Array Bool} (hks : k ≤ ops.size) (h : CutInv md ops k listed) (ha : ∀ i, i < k → listed.getD i false = true) : listed = Array.replicate k true ++ Array.replicate (ops.size - k) false := by
  apply Array.ext
  · simp [h.size]; omega
  · intro i h1 h2
    by_cases hi : i < k
    · have := ha i hi
      simp [h1] at this
      rw [this]
      simp [hi]
    · have := h.late i (by omega)
      simp [h1] at this
      rw [this]
      simp [Array.getElem_append, hi]

theorem wpAny_of_cut {k r : Nat} {Q : Act → Prop} {Q' : Exit → Act → World → Prop} (hB : cutB md ops k = true)
    (hQ : ∀ a w m, C w → Q a → wpAny P md ops Q' (m + r) (Array.replicate k true ++ Array.replicate (ops.size - k) false) a w) :
    ∀ (fuel N : Nat) (listed : Array Bool) (a : Act) (w : World), C w → CutInv md ops k listed → fuel + r ≤ N → wpCut P md ops C k Q fuel listed a → wpAny P md ops Q' N listed a w := by
  have hks : k ≤ ops.size := by
    simp only [cutB, Bool.and_eq_true, decide_eq_true_eq] at hB
    exact hB.1
  have fin : ∀ (N : Nat) (listed : Array Bool) (a : Act) (w : World), C w → CutInv md ops k listed → r ≤ N → (∀ i ∈ Region.ready md ops listed, k ≤ i) → Q a → wpAny P md ops Q' N listed a w := by
    intro N listed a w hC hI hN hr hq
    rw [cut_all hks hI (cut_done hB hI hr)]
    have := hQ a w (N - r) hC hq
    rwa [show N - r + r = N by omega] at this
  intro fuel
  induction fuel with
  | zero =>
    intro N listed a w hC hI hN H
    exact fin N listed a w hC hI (by omega) H.1 H.2
  | succ fuel ih =>
    intro N listed a w hC hI hN H
    by_cases hex : ∃ i ∈ Region.ready md ops listed, i < k
    · obtain ⟨i, hir, hik⟩ := hex
      obtain ⟨N, rfl⟩ : ∃ N', N = N' + 1 := ⟨N - 1, by omega⟩
      refine ⟨fun h0 => (by rw [h0] at hir; cases hir), fun j hj => ?_⟩
      have hjk : j < k := by
        rcases Nat.lt_or_ge j k with h1 | h1
        · exact h1
        · have h2 := cut_late hB hI h1 hj i hik
          have h3 := (mem_ready.1 hir).1
          rw [getD_ft (by rw [hI.size]; omega) true false, h2] at h3
          cases h3
      exact wpOp_of_qOp hC (fun a' w' hw' hc => ih N _ a' w' hw' (hI.set hjk hj) (by omega) hc) (H.2 j hj hjk)
    · refine fin N listed a w hC hI (by omega) (fun i hi => ?_) (H.1 fun i hi => ?_)
      · rcases Nat.lt_or_ge i k with h1 | h1
        · exact (hex ⟨i, hi, h1⟩).elim
        · exact h1
      · rcases Nat.lt_or_ge i k with h1 | h1
        · exact (hex ⟨i, hi, h1⟩).elim
        · exact h1

/-- The first k operations only look (whatever world of that kind they stand in): walked as they stand in the text; what comes behind them is walked in all its orders. -/
theorem wp_region_cut {id : Nat} {Q : Exit → Act → World → Prop} {a : Act} {w : World} {l : List Oper} (k r : Nat) (LK : Array Bool) (hm : P.follows .mixedOrders = true)
    (hB : (Region.noSelect l.toArray && (cutB .any l.toArray k && lexTo .any l.toArray k k 0 (Array.replicate l.length false))) = true) (hr : k + r = l.length)
    (hLK : LK = Array.replicate k true ++ Array.replicate r false)
    (h : wpQuiet P l.toArray (fun w' => ∃ n, w' = w.drewN n) (fun a' => ∀ w', (∃ n, w' = w.drewN n) → ∀ m, wpAny P .any l.toArray Q (m + r) LK a' w') (l.take k) a) : (Code.region id l.toArray true).wp P Q a w := by
  simp only [Bool.and_eq_true] at hB
  obtain ⟨h1, h2, h3⟩ := hB
  have hlen : (l.take k).length = k := by simp; omega
  refine wp_region_any hm (wpAny_of_cut (C := fun w' => ∃ n, w' = w.drewN n) (k := k) (r := r)
    (Q := fun a' => ∀ w', (∃ n, w' = w.drewN n) → ∀ m, wpAny P .any l.toArray Q (m + r) LK a' w') h2 ?_ k _ _ _ _ ⟨1, rfl⟩ ?_ (by simp; omega) ?_)
  · intro a' w' m hC hq
    have := hq w' hC m
    rw [hLK] at this
    rw [show l.toArray.size - k = r by simp; omega]
    exact this
  · have hf : ∀ i, (Array.replicate l.toArray.size false).getD i false = false := fun i => by
      simp only [Array.getD_eq_getD_getElem?, Array.getElem?_replicate]
      split <;> rfl
    exact ⟨by simp, fun i _ => hf i, fun i o ho hl => by rw [hf i] at hl; cases hl⟩
  · have := wpCut_lex (P := P) (C := fun w' => ∃ n, w' = w.drewN n) (md := .any) (k := k) h1 (l.take k) 0 (Array.replicate l.length false) a
      (fun i hi => by rw [hlen] at hi; simp [hi]) (by rw [hlen]; exact h3) h
    rw [hlen] at this
    simpa using this
end
end Go.Proofs.Ytibiiagdhdmpiaa
