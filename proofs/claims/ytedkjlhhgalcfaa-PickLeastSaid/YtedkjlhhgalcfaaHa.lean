/- Backends, plainly: which fit, which have the least load, which one is chosen. -/
import Derived.Test.YtedkjlhhgalcfaaIx
namespace Go.Proofs.Ytedkjlhhgalcfaa
set_option linter.unusedVariables false

/-- Up, slots, load. -/
abbrev Bk := Bool × Int × Int
def fitB (x : Bk) : Bool := x.1 && decide (0 < x.2.1)
/-- The numbers below i of which p holds. -/
def nums (p : Bk → Bool) (L : List Bk) (i : Nat) : List Int := ((List.range i).filter fun r => (L[r]?).any p).map fun (r : Nat) => (r : Int)
theorem nums_zero (p : Bk → Bool) (L : List Bk) : nums p L 0 = [] := rfl
theorem nums_yes {p : Bk → Bool} {L : List Bk} {i : Nat} {x : Bk} (h : L[i]? = some x) (hp : p x = true) : nums p L (i + 1) = nums p L i ++ [(i : Int)] := by
  unfold nums; rw [List.range_succ, List.filter_append, List.map_append]; simp [h, hp]
theorem nums_no {p : Bk → Bool} {L : List Bk} {i : Nat} {x : Bk} (h : L[i]? = some x) (hp : p x = false) : nums p L (i + 1) = nums p L i := by
  unfold nums; rw [List.range_succ, List.filter_append, List.map_append]; simp [h, hp]
theorem nums_len (p : Bk → Bool) (L : List Bk) (i : Nat) : (nums p L i).length ≤ i := by
  unfold nums
  rw [List.length_map]
  have := List.length_filter_le (fun r => (L[r]?).any p) (List.range i)
  simpa using this
theorem nums_mem {p : Bk → Bool} {L : List Bk} {i : Nat} {a : Int} : a ∈ nums p L i ↔ ∃ r : Nat, a = (r : Int) ∧ r < i ∧ ∃ x, L[r]? = some x ∧ p x = true := by
  unfold nums
  rw [List.mem_map]
  constructor
  · rintro ⟨r, hr, rfl⟩
    rw [List.mem_filter, List.mem_range] at hr
    obtain ⟨h1, h2⟩ := hr
    cases hx : L[r]? with
    | none => rw [hx] at h2; simp at h2
    | some x => rw [hx] at h2; exact ⟨r, rfl, h1, x, hx, by simpa using h2⟩
  · rintro ⟨r, rfl, h1, x, h2, h3⟩
    exact ⟨r, by rw [List.mem_filter, List.mem_range, h2]; exact ⟨h1, by simpa using h3⟩, rfl⟩
/-- The load of the one at a number. -/
def loadAt (L : List Bk) (a : Int) : Int := ((L[a.toNat]?).map (·.2.2)).getD 0
theorem load_at {L : List Bk} {r : Nat} {x : Bk} (h : L[r]? = some x) : loadAt L (r : Int) = x.2.2 := by
  unfold loadAt
  rw [Int.toNat_natCast, h]
  rfl
/-- The least load of these. -/
def lst (L : List Bk) (F : List Int) : Int := F.foldl (fun m a => min m (loadAt L a)) 9223372036854775807
theorem lst_snoc (L : List Bk) (F : List Int) (a : Int) : lst L (F ++ [a]) = min (lst L F) (loadAt L a) := by
  unfold lst
  rw [List.foldl_append]
  rfl
theorem fold_le (L : List Bk) (F : List Int) : ∀ m : Int, F.foldl (fun m a => min m (loadAt L a)) m ≤ m ∧ ∀ a ∈ F, F.foldl (fun m a => min m (loadAt L a)) m ≤ loadAt L a := by
  induction F with
  | nil => intro m; exact ⟨Int.le_refl _, fun a h => by cases h⟩
  | cons b F ih =>
    intro m
    rw [List.foldl_cons]
    obtain ⟨h1, h2⟩ := ih (min m (loadAt L b))
    refine ⟨by omega, fun a ha => ?_⟩
    rcases List.mem_cons.1 ha with rfl | h
    · omega
    · exact h2 a h
theorem fold_is (L : List Bk) (F : List Int) : ∀ m : Int, F.foldl (fun m a => min m (loadAt L a)) m = m ∨ ∃ a ∈ F, F.foldl (fun m a => min m (loadAt L a)) m = loadAt L a := by
  induction F with
  | nil => intro m; exact .inl rfl
  | cons b F ih =>
    intro m
    rw [List.foldl_cons]
    rcases ih (min m (loadAt L b)) with h | ⟨a, h, e⟩
    · by_cases hm : m ≤ loadAt L b
      · exact .inl (by omega)
      · exact .inr ⟨b, List.mem_cons_self, by omega⟩
    · exact .inr ⟨a, List.mem_cons_of_mem _ h, e⟩
theorem lst_le {L : List Bk} {F : List Int} {a : Int} (h : a ∈ F) : lst L F ≤ loadAt L a := (fold_le L F _).2 a h
theorem lst_top (L : List Bk) (F : List Int) : lst L F ≤ 9223372036854775807 := (fold_le L F _).1
def tieB (m : Int) (x : Bk) : Bool := fitB x && (x.2.2 == m)
def fitL (L : List Bk) : List Int := nums fitB L L.length
def tieL (L : List Bk) : List Int := nums (tieB (lst L (fitL L))) L L.length
/-- Loads that are ints. -/
def Lds (L : List Bk) : Prop := ∀ x ∈ L, IsI x.2.1 ∧ IsI x.2.2
theorem lst_low {L : List Bk} (h : Lds L) (F : List Int) (hF : ∀ a ∈ F, ∃ r : Nat, a = (r : Int) ∧ ∃ x, L[r]? = some x) : -9223372036854775808 ≤ lst L F := by
  rcases fold_is L F 9223372036854775807 with e | ⟨a, ha, e⟩
  · unfold lst; omega
  · obtain ⟨r, rfl, x, hx⟩ := hF a ha
    have := (h x (List.mem_of_getElem? hx)).2.1
    rw [load_at hx] at e
    unfold lst
    omega
/-- Some that fits has the least load. -/
theorem lst_has {L : List Bk} (h : Lds L) {a : Int} (ha : a ∈ fitL L) : ∃ b ∈ fitL L, loadAt L b = lst L (fitL L) := by
  rcases fold_is L (fitL L) 9223372036854775807 with e | ⟨b, hb, e⟩
  · refine ⟨a, ha, ?_⟩
    have h1 := lst_le (L := L) ha
    obtain ⟨r, rfl, -, x, hx, -⟩ := nums_mem.1 ha
    have h2 := (h x (List.mem_of_getElem? hx)).2.2
    rw [load_at hx] at h1 ⊢
    have h3 : lst L (fitL L) = 9223372036854775807 := e
    omega
  · exact ⟨b, hb, e.symm⟩
theorem tie_mem {L : List Bk} {a : Int} : a ∈ tieL L ↔ a ∈ fitL L ∧ loadAt L a = lst L (fitL L) := by
  unfold tieL fitL
  rw [nums_mem, nums_mem]
  constructor
  · rintro ⟨r, rfl, hr, x, hx, hp⟩
    unfold tieB at hp
    rw [Bool.and_eq_true, beq_iff_eq] at hp
    exact ⟨⟨r, rfl, hr, x, hx, hp.1⟩, by rw [load_at hx]; exact hp.2⟩
  · rintro ⟨⟨r, rfl, hr, x, hx, hp⟩, e⟩
    rw [load_at hx] at e
    exact ⟨r, rfl, hr, x, hx, by unfold tieB; rw [Bool.and_eq_true, beq_iff_eq]; exact ⟨hp, e⟩⟩
theorem ties_some {L : List Bk} (h : Lds L) {a : Int} (ha : a ∈ fitL L) : tieL L ≠ [] := by
  obtain ⟨b, hb, e⟩ := lst_has h ha
  intro e2
  have := tie_mem.2 ⟨hb, e⟩
  rw [e2] at this
  cases this
/-- As the document words it. -/
def docT (L : List Bk) (F : List Int) (a : Int) : Bool := F.all fun b => decide (loadAt L a ≤ loadAt L b)
theorem doc_ties {L : List Bk} (h : Lds L) : (fitL L).filter (docT L (fitL L)) = tieL L := by
  have key : ∀ r x, L[r]? = some x → fitB x = true → r < L.length → docT L (fitL L) (r : Int) = (x.2.2 == lst L (fitL L)) := by
    intro r x hx hf hr
    have hm : (r : Int) ∈ fitL L := nums_mem.2 ⟨r, rfl, hr, x, hx, hf⟩
    have h1 := lst_le (L := L) hm
    rw [load_at hx] at h1
    rw [Bool.eq_iff_iff, beq_iff_eq]
    unfold docT
    rw [List.all_eq_true]
    constructor
    · intro ha
      obtain ⟨b, hb, e⟩ := lst_has h hm
      have := ha b hb
      rw [decide_eq_true_eq, load_at hx] at this
      omega
    · intro e b hb
      have := lst_le (L := L) hb
      rw [decide_eq_true_eq, load_at hx]
      omega
  generalize hq : docT L (fitL L) = q at key ⊢
  unfold tieL
  generalize hm : lst L (fitL L) = m at key ⊢
  unfold fitL nums
  rw [List.filter_map, List.filter_filter]
  congr 1
  apply List.filter_congr
  intro r hr
  rw [List.mem_range] at hr
  obtain ⟨x, hx⟩ : ∃ x, L[r]? = some x := ⟨_, List.getElem?_eq_getElem hr⟩
  rw [hx]
  simp only [Option.any_some, Function.comp]
  unfold tieB
  cases hf : fitB x with
  | false => simp
  | true => rw [key r x hx hf hr]; simp
/-- The one that is chosen. -/
def chI (t : List Int) (d : Int) : Int := t.getD (d % (t.length : Int)).toNat 0
def chE (t : List Int) : Int := if t.length = 0 then 6 else 0
theorem ch_none {t : List Int} (h : t.length = 0) (d : Int) : chI t d = 0 ∧ chE t = 6 := by
  obtain rfl := List.eq_nil_of_length_eq_zero h
  exact ⟨by simp [chI], rfl⟩
theorem ch_some {t : List Int} (h : t.length ≠ 0) (d : Int) : ∃ r : Nat, (r : Int) = d % (t.length : Int) ∧ r < t.length ∧ t[r]? = some (chI t d) ∧ chE t = 0 := by
  have h1 := Int.emod_nonneg d (b := (t.length : Int)) (by omega)
  have h2 := Int.emod_lt_of_pos d (b := (t.length : Int)) (by omega)
  refine ⟨(d % (t.length : Int)).toNat, by omega, by omega, ?_, if_neg h⟩
  unfold chI
  rw [List.getD_eq_getElem?_getD, List.getElem?_eq_getElem (by omega)]
  rfl
theorem ch_at {t : List Int} {i : Nat} {x : Int} (h : t[i]? = some x) : chI t (i : Int) = x := by
  have hl := (List.getElem?_eq_some_iff.1 h).1
  unfold chI
  rw [Int.emod_eq_of_lt (by omega) (by omega), Int.toNat_natCast, List.getD_eq_getElem?_getD, h]
  rfl
end Go.Proofs.Ytedkjlhhgalcfaa
