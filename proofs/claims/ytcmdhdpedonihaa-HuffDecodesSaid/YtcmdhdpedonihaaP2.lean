/- Bits read as codes: the plain side of Decode. -/
import Derived.Test.YtcmdhdpedonihaaK3
import Derived.Test.YtcmdhdpedonihaaP1
namespace Go.Proofs.Ytcmdhdpedonihaa
set_option maxRecDepth 100000
set_option linter.unusedVariables false

/-- Whose code these bits are. -/
def find (R : List Bool) : Option Nat := (List.range 257).find? fun s => decide (codeOf s = (val R, R.length))
theorem find_some {R : List Bool} {s : Nat} (h : find R = some s) : s ≤ 256 ∧ codeOf s = (val R, R.length) ∧ code s = R := by
  have h1 := List.find?_some h
  have h2 := List.mem_of_find?_eq_some h
  simp only [decide_eq_true_eq] at h1
  simp at h2
  refine ⟨by omega, h1, ?_⟩
  rw [code, h1]
  exact bitsN_val R
theorem codeOf_inj (s t : Nat) (hs : s ≤ 256) (ht : t ≤ 256) (h : codeOf s = codeOf t) : s = t := by
  rcases Nat.decEq s t with hne | he
  · exact absurd ⟨by rw [h]; exact Nat.le_refl _, by rw [h]; simp⟩ (code_apart s t hs ht hne)
  · exact he
theorem find_none {R : List Bool} (h : ∀ s, s ≤ 256 → codeOf s ≠ (val R, R.length)) : find R = none := by
  unfold find
  rw [List.find?_eq_none]
  intro s hs
  simp at hs
  simpa using h s (by omega)
theorem find_code' (s : Nat) (hs : s ≤ 256) (R : List Bool) (h : codeOf s = (val R, R.length)) : find R = some s := by
  cases hf : find R with
  | none =>
    unfold find at hf
    rw [List.find?_eq_none] at hf
    have := hf s (by simp; omega)
    simp [h] at this
  | some t =>
    have := find_some hf
    rw [codeOf_inj s t hs this.1 (by rw [h, this.2.1])]
theorem find_code (s : Nat) (hs : s ≤ 256) : find (code s) = some s :=
  find_code' s hs _ (by rw [code_val' s hs, code_len])
theorem find_prefix (s : Nat) (hs : s ≤ 256) (k : Nat) (hk : k < (code s).length) : find ((code s).take k) = none := by
  apply find_none
  intro t ht e
  have hne : t ≠ s := by
    intro he
    subst he
    have : (codeOf t).2 = ((code t).take k).length := by rw [e]
    rw [List.length_take, ← code_len] at this
    omega
  apply code_apart t s ht hs hne
  rw [e]
  have h1 := val_take_drop (code s) k
  have h2 := val_lt ((code s).drop k)
  rw [List.length_drop] at h2
  have hl : ((code s).take k).length = k := by rw [List.length_take]; omega
  rw [hl, ← code_len s, ← code_val' s hs, h1]
  refine ⟨by omega, ?_⟩
  rw [Nat.add_comm, Nat.add_mul_div_right _ _ (Nat.two_pow_pos _), Nat.div_eq_of_lt h2]
  omega

/-- What is decoded. -/
abbrev DR := Sum (List UInt8) (Option Nat)
def DR.pre (xs : List UInt8) : DR → DR
  | .inl l => .inl (xs ++ l)
  | r => r
theorem DR.pre_nil (r : DR) : r.pre [] = r := by cases r <;> rfl
theorem DR.pre_pre (xs ys : List UInt8) (r : DR) : (r.pre ys).pre xs = r.pre (xs ++ ys) := by cases r <;> simp [DR.pre]
/-- The bits R have been read since the last code; T are left; n have been read before. -/
def dec : List Bool → List Bool → Nat → DR
  | R, [], _ => if R.length ≤ 7 ∧ R = List.replicate R.length true then .inl [] else .inr none
  | R, t :: T, n =>
    match find (R ++ [t]) with
    | none => dec (R ++ [t]) T (n + 1)
    | some s => if s = 256 then .inr (some n) else (dec [] T (n + 1)).pre [UInt8.ofNat s]
theorem dec_skip : ∀ (C T R : List Bool) (n : Nat), (∀ k, 0 < k → k ≤ C.length → find (R ++ C.take k) = none) → dec R (C ++ T) n = dec (R ++ C) T (n + C.length) := by
  intro C
  induction C with
  | nil => intro T R n h; simp
  | cons t C ih =>
    intro T R n h
    have h1 := h 1 (by omega) (by simp)
    simp at h1
    rw [List.cons_append, dec, h1]
    simp only
    rw [ih T (R ++ [t]) (n + 1) (fun k h0 hk => by have := h (k + 1) (by omega) (by simp; omega); simpa using this)]
    rw [show n + 1 + C.length = n + (t :: C).length by simp; omega]
    simp
theorem dec_code (s : Nat) (hs : s ≤ 256) (T : List Bool) (n : Nat) : dec [] (code s ++ T) n = if s = 256 then .inr (some (n + (codeOf s).2 - 1)) else (dec [] T (n + (codeOf s).2)).pre [UInt8.ofNat s] := by
  have hl := code_len s
  have h5 := (code_size s hs).1
  have hne : code s ≠ [] := by intro e; rw [e] at hl; simp at hl; omega
  have hsp : code s = (code s).take ((code s).length - 1) ++ [(code s).getLast hne] := by
    rw [← List.dropLast_eq_take]; exact (List.dropLast_concat_getLast hne).symm
  have hk : dec [] (code s ++ T) n = dec ((code s).take ((code s).length - 1)) ((code s).getLast hne :: T) (n + ((codeOf s).2 - 1)) := by
    conv => lhs; rw [hsp, List.append_assoc, List.singleton_append]
    rw [dec_skip _ _ _ _ (fun k h0 hk => by
      rw [List.nil_append, List.take_take]
      simp at hk
      rw [Nat.min_eq_left (by omega)]
      exact find_prefix s hs k (by omega))]
    rw [List.nil_append, List.length_take, hl]
    congr 1
    omega
  rw [hk, dec, ← hsp, find_code s hs]
  simp only
  rw [show n + ((codeOf s).2 - 1) = n + (codeOf s).2 - 1 by omega, show n + (codeOf s).2 - 1 + 1 = n + (codeOf s).2 by omega]
theorem dec_none (T : List Bool) (n : Nat) (h : ∀ k, 0 < k → k ≤ T.length → find (T.take k) = none) : dec [] T n = if T.length ≤ 7 ∧ T = List.replicate T.length true then .inl [] else .inr none := by
  have := dec_skip T [] [] n (fun k h0 hk => by rw [List.nil_append]; exact h k h0 hk)
  rw [List.append_nil, List.nil_append] at this
  rw [this, dec]
theorem dec_enc (X : List UInt8) : ∀ (T : List Bool) (n : Nat), dec [] (enc X ++ T) n = (dec [] T (n + (enc X).length)).pre X := by
  induction X with
  | nil => intro T n; rw [show enc ([] : List UInt8) = [] from rfl]; simp [DR.pre_nil]
  | cons c X ih =>
    intro T n
    have hc := UInt8.toNat_lt c
    rw [enc_cons, List.append_assoc, dec_code c.toNat (by omega), if_neg (by omega), ih, DR.pre_pre]
    simp [code_len, Nat.add_assoc]
theorem ones_all : finL.all (fun p => decide (¬ (p.2 < 30 ∧ p.1 = 2 ^ p.2 - 1))) = true := by decide +kernel
theorem find_ones (k : Nat) (hk : k < 30) : find (List.replicate k true) = none := by
  apply find_none
  intro s hs e
  have a := code_get s hs
  rw [fin_eq, e, val_ones, List.length_replicate] at a
  have := List.all_eq_true.1 ones_all _ (List.mem_of_getElem? a)
  simp at this
  omega
theorem dec_ones (k n : Nat) (hk : k < 30) : dec [] (List.replicate k true) n = if k ≤ 7 then .inl [] else .inr none := by
  rw [dec_none _ _ (fun j h0 hj => by rw [List.take_replicate]; exact find_ones _ (by omega))]
  simp
theorem dec_back : ∀ (T R : List Bool) (n : Nat) (Y : List UInt8), dec R T n = .inl Y → ∃ p, p ≤ 7 ∧ R ++ T = enc Y ++ List.replicate p true := by
  intro T
  induction T with
  | nil =>
    intro R n Y h
    rw [dec] at h
    split at h
    · rename_i hr
      cases h
      exact ⟨R.length, hr.1, by simpa [show enc ([] : List UInt8) = [] from rfl] using hr.2⟩
    · cases h
  | cons t T ih =>
    intro R n Y h
    rw [dec] at h
    cases hf : find (R ++ [t]) with
    | none =>
      rw [hf] at h
      obtain ⟨p, hp, e⟩ := ih _ _ _ h
      exact ⟨p, hp, by simpa using e⟩
    | some s =>
      rw [hf] at h
      simp only at h
      split at h
      · cases h
      · rename_i hs
        cases hd : dec [] T (n + 1) with
        | inl Y' =>
          rw [hd] at h
          simp only [DR.pre, Sum.inl.injEq] at h
          subst h
          obtain ⟨p, hp, e⟩ := ih _ _ _ hd
          have h3 := find_some hf
          refine ⟨p, hp, ?_⟩
          rw [List.singleton_append, enc_cons, show (UInt8.ofNat s).toNat = s by simp; omega, h3.2.2, List.append_assoc, ← e]
          simp
        | inr oo =>
          cases oo with
          | none => rw [hd] at h; cases h
          | some m => rw [hd] at h; cases h
theorem code_end' : codeOf 256 = (1073741823, 30) := by decide +kernel
theorem dec_long : ∀ (T R : List Bool) (n m : Nat), dec R T n = .inr (some m) → 30 ≤ R.length + T.length := by
  intro T
  induction T with
  | nil => intro R n m h; rw [dec] at h; split at h <;> cases h
  | cons t T ih =>
    intro R n m h
    rw [dec] at h
    cases hf : find (R ++ [t]) with
    | none => rw [hf] at h; have := ih _ _ _ h; simp at this ⊢; omega
    | some s =>
      rw [hf] at h
      simp only at h
      split at h
      · rename_i hs
        have h3 := find_some hf
        subst hs
        have := congrArg List.length h3.2.2
        rw [code_len, show (codeOf 256).2 = 30 from by rw [code_end']] at this
        simp at this ⊢
        omega
      · cases hd : dec [] T (n + 1) with
        | inl Y' => rw [hd] at h; cases h
        | inr oo =>
          cases oo with
          | none => rw [hd] at h; cases h
          | some k => have := ih _ _ _ hd; simp at this ⊢; omega

/-- Rows of bytes alone, as the program has them. -/
theorem placeT_all : (List.range 21).all (fun k => ((tbl.getD k (0, [])).2.zipIdx).all fun p => finL.getD p.1 (0, 0) == ((stAt k).2.1 * 2 ^ ((tbl.getD k (0, [])).1 - (stAt k).2.2) + p.2, (tbl.getD k (0, [])).1)) = true := by decide +kernel
theorem placeT (k j s b : Nat) (l : List Nat) (hk : tbl[k]? = some (b, l)) (hj : l[j]? = some s) : codeOf s = ((stAt k).2.1 * 2 ^ (b - (stAt k).2.2) + j, b) := by
  have hkl : k < 21 := (List.getElem?_eq_some_iff.1 hk).1
  have h := List.all_eq_true.1 placeT_all k (by simpa using hkl)
  have hg : tbl.getD k (0, []) = (b, l) := by simp [List.getD_eq_getElem?_getD, hk]
  rw [hg] at h
  have h2 := List.all_eq_true.1 h (s, j) (by rw [List.mem_zipIdx_iff_getElem?]; exact hj)
  rw [codeOf, fin_eq]
  simpa using h2
theorem inT_all : (List.range 256).all (fun s => tbl.any fun r => r.2.contains s) = true := by decide +kernel
theorem inT (s : Nat) (h : s < 256) : ∃ (k j b : Nat) (l : List Nat), tbl[k]? = some (b, l) ∧ l[j]? = some s := by
  have h1 := List.all_eq_true.1 inT_all s (by simpa using h)
  obtain ⟨⟨b, l⟩, hr, h2⟩ := List.any_eq_true.1 h1
  obtain ⟨k, hk⟩ := List.getElem?_of_mem hr
  obtain ⟨j, hj⟩ := List.getElem?_of_mem (show s ∈ l by simpa using h2)
  exact ⟨k, j, b, l, hk, hj⟩
theorem mono_all : (List.range 21).all (fun i => (List.range 21).all fun k => decide (i ≤ k → (tbl.getD i (0, [])).1 ≤ (tbl.getD k (0, [])).1)) = true := by decide +kernel
theorem monoT (i k b b' : Nat) (l l' : List Nat) (hi : tbl[i]? = some (b, l)) (hk : tbl[k]? = some (b', l')) (h : i ≤ k) : b ≤ b' := by
  have h1 := List.all_eq_true.1 mono_all i (by have : i < 21 := (List.getElem?_eq_some_iff.1 hi).1; simpa using this)
  have h2 := List.all_eq_true.1 h1 k (by have : k < 21 := (List.getElem?_eq_some_iff.1 hk).1; simpa using this)
  have g1 : tbl.getD i (0, []) = (b, l) := by simp [List.getD_eq_getElem?_getD, hi]
  have g2 : tbl.getD k (0, []) = (b', l') := by simp [List.getD_eq_getElem?_getD, hk]
  rw [g1, g2] at h2
  have := of_decide_eq_true h2
  exact this h
theorem stAt_next (k b : Nat) (l : List Nat) (hk : tbl[k]? = some (b, l)) : (stAt (k + 1)).2 = ((stAt k).2.1 * 2 ^ (b - (stAt k).2.2) + l.length, b) := by
  rw [stAt_succ k _ hk]
  simp [stepRow, fillRow_two]
theorem stAt_end : (stAt 21).2 = (1073741823, 30) := by decide +kernel
/-- No code is a beginning of T. -/
def NoCode (T : List Bool) : Prop := ∀ s, s ≤ 256 → (codeOf s).2 ≤ T.length → val (T.take (codeOf s).2) ≠ (codeOf s).1
/-- None of the first i rows has one. -/
def NotYet (T : List Bool) (i : Nat) : Prop := ∀ (k b : Nat) (l : List Nat), k < i → tbl[k]? = some (b, l) → (stAt k).2.1 * 2 ^ (b - (stAt k).2.2) + l.length ≤ val (T.take b)
theorem notYet_few {T : List Bool} {i b : Nat} {l : List Nat} (h : NotYet T i) (hi : tbl[i]? = some (b, l)) (hb : b ≤ 30) (hT : T.length < b) : NoCode T := by
  intro s hs hl hv
  by_cases h6 : s = 256
  · subst h6
    rw [code_end'] at hl
    simp at hl
    omega
  · obtain ⟨k, j, b', l', hk, hj⟩ := inT s (by omega)
    have hc := placeT k j s b' l' hk hj
    rw [hc] at hl hv
    simp only at hl hv
    by_cases hki : k < i
    · have h1 := h k b' l' hki hk
      have hjl := (List.getElem?_eq_some_iff.1 hj).1
      omega
    · have := monoT i k b b' l l' hi hk (by omega)
      omega
theorem noCode_find {T : List Bool} (h : NoCode T) (k : Nat) (hk : k ≤ T.length) : find (T.take k) = none := by
  apply find_none
  intro s hs e
  have hl : (T.take k).length = k := by rw [List.length_take]; omega
  rw [hl] at e
  exact h s hs (by rw [e]; exact hk) (by rw [e])
theorem code_at {T : List Bool} {s : Nat} (hs : s ≤ 256) (hl : (codeOf s).2 ≤ T.length) (hv : val (T.take (codeOf s).2) = (codeOf s).1) : T = code s ++ T.drop (codeOf s).2 := by
  have : code s = T.take (codeOf s).2 := val_inj _ _ (by rw [code_len, List.length_take]; omega) (by rw [code_val' s hs, hv])
  rw [this, List.take_append_drop]

end Go.Proofs.Ytcmdhdpedonihaa
