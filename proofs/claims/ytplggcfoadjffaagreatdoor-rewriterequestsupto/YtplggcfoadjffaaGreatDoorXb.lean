/- What is passed on is a request, or a response, again: plain lists. -/
import Derived.Test.YtplggcfoadjffaaGreatDoorXa
namespace Go.Proofs.YtplggcfoadjffaaGreatDoor
open Go.RowKit
set_option linter.unusedVariables false

def GoodH (x : Hd) : Prop := nameOk (tx x.1) = true ∧ valueB (tx x.2.1) = true ∧ boundB (tx x.1) (tx x.2.1) = false
theorem step_zero {may : List (List UInt8)} {done : List Hd} {h : Hd} (hg : GoodH h) (hp : pseudoB (tx h.1) = true → plainB done = false ∧ tx h.1 ∈ may ∧ findL done (tx h.1) = none) : stepE may done h = 0 := by
  obtain ⟨h1, h2, h3⟩ := hg
  unfold stepE
  rw [if_neg (by simp [h1]), if_neg (by simp [h2]), if_neg ?_, if_neg (by simp [h3])]
  intro h
  simp only [Bool.and_eq_true] at h
  obtain ⟨k1, k2, k3⟩ := hp h.1
  have := h.2
  rw [k1, k3] at this
  simp [k2] at this
theorem each_os {may : List (List UInt8)} : ∀ (os done : List Hd), (∀ x ∈ os, GoodH x ∧ pseudoB (tx x.1) = false) → eachO may done os = 0
  | [], done, _ => rfl
  | h :: t, done, hg => by
    have h0 := hg h (by simp)
    rw [eachO, step_zero h0.1 (fun hp => by rw [h0.2] at hp; cases hp), if_pos rfl]
    exact each_os t _ (fun x hx => hg x (by simp [hx]))
theorem each_ps {may : List (List UInt8)} : ∀ (ps done os : List Hd), (∀ x ∈ ps, GoodH x ∧ pseudoB (tx x.1) = true ∧ tx x.1 ∈ may ∧ findL done (tx x.1) = none) → plainB done = false → (ps.map (fun x => tx x.1)).Nodup → eachO may done (ps ++ os) = eachO may (done ++ ps) os
  | [], done, os, _, _, _ => by simp
  | h :: t, done, os, hg, hpl, hnd => by
    obtain ⟨g1, g2, g3, g4⟩ := hg h (by simp)
    rw [List.cons_append, eachO, step_zero g1 (fun _ => ⟨hpl, g3, g4⟩), if_pos rfl]
    rw [List.map_cons, List.nodup_cons] at hnd
    rw [each_ps t (done ++ [h]) os ?_ ?_ hnd.2]
    · simp
    · intro x hx
      obtain ⟨k1, k2, k3, k4⟩ := hg x (by simp [hx])
      refine ⟨k1, k2, k3, ?_⟩
      rw [findL_append, k4]
      have : tx h.1 ≠ tx x.1 := fun e => hnd.1 (by rw [e]; exact List.mem_map.2 ⟨x, hx, rfl⟩)
      simp [findL, this]
    · unfold plainB at hpl ⊢
      rw [List.any_append, hpl]
      simp [g2]
theorem each_intro {may : List (List UInt8)} {ps os : List Hd} (h1 : ∀ x ∈ ps, GoodH x ∧ pseudoB (tx x.1) = true ∧ tx x.1 ∈ may) (hn : (ps.map (fun x => tx x.1)).Nodup) (h2 : ∀ x ∈ os, GoodH x ∧ pseudoB (tx x.1) = false) : eachO may [] (ps ++ os) = 0 := by
  rw [each_ps ps [] os (fun x hx => ⟨(h1 x hx).1, (h1 x hx).2.1, (h1 x hx).2.2, rfl⟩) rfl hn]
  exact each_os os _ h2

theorem pick_mem {l : List Hd} {ns : List (List UInt8)} {x : Hd} (h : x ∈ pickO l ns) : x ∈ l ∧ tx x.1 ∈ ns ∧ fstH l (tx x.1) = some x := by
  unfold pickO at h
  rw [List.mem_filterMap] at h
  obtain ⟨n, hn, hx⟩ := h
  obtain ⟨h1, h2⟩ := fst_mem hx
  subst h2
  exact ⟨h1, hn, hx⟩
theorem pick_names (l : List Hd) : ∀ (ns : List (List UInt8)), ((pickO l ns).map (fun x => tx x.1)).Sublist ns
  | [] => by simp [pickO]
  | n :: t => by
    have ih := pick_names l t
    unfold pickO at ih ⊢
    rw [List.filterMap_cons]
    cases hf : fstH l n with
    | none => exact ih.cons n
    | some x =>
      have := (fst_mem hf).2
      simp only [List.map_cons, this]
      exact ih.cons_cons n
theorem fst_pick {l : List Hd} {ns : List (List UInt8)} {n : List UInt8} (hn : n ∈ ns) : fstH (pickO l ns) n = fstH l n := by
  cases hf : fstH l n with
  | none =>
    unfold fstH
    rw [List.find?_eq_none]
    intro x hx he
    have he : tx x.1 = n := by simpa using he
    have := (pick_mem hx).2.2
    rw [he, hf] at this
    cases this
  | some y =>
    have hy : y ∈ pickO l ns := List.mem_filterMap.2 ⟨n, hn, hf⟩
    cases hz : fstH (pickO l ns) n with
    | none =>
      unfold fstH at hz
      rw [List.find?_eq_none] at hz
      exact absurd (by simpa using (fst_mem hf).2) (hz y hy)
    | some z =>
      obtain ⟨h1, h2⟩ := fst_mem hz
      have h3 := (pick_mem h1).2.2
      rw [h2, hf] at h3
      exact h3.symm
theorem gath_mem {f : List Hd → Hd → List Hd} : ∀ {l done : List Hd} {x : Hd}, x ∈ gathO f done l → ∃ h ∈ l, ∃ d, x ∈ f d h
  | [], done, x, hx => by simp [gathO] at hx
  | h :: t, done, x, hx => by
    rw [gathO, List.mem_append] at hx
    rcases hx with hx | hx
    · exact ⟨h, by simp, _, hx⟩
    · obtain ⟨y, hy, d, hd⟩ := gath_mem hx
      exact ⟨y, by simp [hy], d, hd⟩
theorem req_mem {a : Bool} {ck : List UInt8} {d : List Hd} {h x : Hd} (hx : x ∈ reqStep a ck d h) : pseudoB (tx h.1) = false ∧ tx h.1 ≠ sVia ∧ tx x.1 = tx h.1 ∧ ((tx h.1 = sCookie ∧ x = (mkS sCookie, mkS ck, true)) ∨ (tx h.1 ≠ sCookie ∧ x.2.1 = h.2.1 ∧ (x.2.2 = true ∨ (tx h.1 ≠ sAuthz ∧ x = h)))) := by
  unfold reqStep at hx
  split at hx
  · simp at hx
  rename_i hp
  have hp : pseudoB (tx h.1) = false := by simpa using hp
  split at hx
  · rename_i h1
    split at hx
    · simp at hx
    · simp at hx
      subst hx
      exact ⟨hp, by rw [h1]; decide, rfl, .inr ⟨by rw [h1]; decide, rfl, .inr ⟨by rw [h1]; decide, rfl⟩⟩⟩
  split at hx
  · rename_i h1
    simp at hx
    subst hx
    exact ⟨hp, by rw [h1]; decide, rfl, .inr ⟨by rw [h1]; decide, rfl, .inl rfl⟩⟩
  rename_i ha
  split at hx
  · rename_i h1
    split at hx
    · simp at hx
      subst hx
      exact ⟨hp, by rw [h1]; decide, by rw [h1]; exact mkS_tx _, .inl ⟨h1, rfl⟩⟩
    · simp at hx
  rename_i hc
  split at hx
  · simp at hx
  rename_i hv
  simp at hx
  subst hx
  exact ⟨hp, hv, rfl, .inr ⟨hc, rfl, .inr ⟨ha, rfl⟩⟩⟩
theorem res_mem {d : List Hd} {h x : Hd} (hx : x ∈ resStep d h) : pseudoB (tx h.1) = false ∧ tx h.1 ≠ sVia ∧ tx x.1 = tx h.1 ∧ x.2.1 = h.2.1 ∧ (x.2.2 = true ∨ (tx h.1 ≠ sSetC ∧ x = h)) := by
  unfold resStep at hx
  split at hx
  · simp at hx
  rename_i hp
  have hp : pseudoB (tx h.1) = false := by simpa using hp
  split at hx
  · rename_i h1
    simp at hx
    subst hx
    exact ⟨hp, by rw [h1]; decide, rfl, rfl, .inl rfl⟩
  rename_i hc
  split at hx
  · simp at hx
  rename_i hv
  simp at hx
  subst hx
  exact ⟨hp, hv, rfl, rfl, .inr ⟨hc, rfl⟩⟩

/-- Values joined are a value. -/
theorem join_ok {sep : List UInt8} (hs : sep.all okB = true) : ∀ {vs : List (List UInt8)}, (∀ v ∈ vs, v.all okB = true) → (joinL sep vs).all okB = true
  | [], _ => rfl
  | [a], h => h a (by simp)
  | a :: b :: t, h => by
    rw [joinL_cons sep a (by simp), List.all_append, List.all_append, h a (by simp), hs, join_ok hs (fun v hv => h v (List.mem_cons_of_mem _ hv))]
    rfl
theorem join_last {sep : List UInt8} : ∀ {vs : List (List UInt8)} {v : List UInt8}, vs.getLast? = some v → v ≠ [] → (joinL sep vs).getLast? = v.getLast?
  | [], v, h, _ => by simp at h
  | [a], v, h, _ => by simp at h; subst h; rfl
  | a :: b :: t, v, h, hv => by
    rw [joinL_cons sep a (by simp), List.getLast?_append, join_last (vs := b :: t) (by simpa using h) hv]
    cases hl : v.getLast? with
    | none => exact absurd (List.getLast?_eq_none_iff.1 hl) hv
    | some c => rfl
theorem join_head {c : UInt8} {r : List UInt8} {a : List UInt8} {t : List (List UInt8)} : (joinL (c :: r) (a :: t)).head? = if a = [] then (if t = [] then none else some c) else a.head? := by
  cases t with
  | nil =>
    by_cases ha : a = []
    · subst ha; rfl
    · simp [joinL, ha]
  | cons b t =>
    rw [joinL_cons _ a (by simp)]
    cases a with
    | nil => simp
    | cons x a => simp
theorem join_value {c : UInt8} {r : List UInt8} (hs : (c :: r).all okB = true) (hc : blankB c = false) {vs : List (List UInt8)} (h : ∀ v ∈ vs, valueB v = true) (hl : ∀ v, vs.getLast? = some v → v ≠ []) : valueB (joinL (c :: r) vs) = true := by
  have h1 : ∀ v ∈ vs, v.all okB = true ∧ edgeB v = true := fun v hv => by
    have := h v hv
    unfold valueB at this
    simpa using this
  unfold valueB
  rw [join_ok hs (fun v hv => (h1 v hv).1)]
  simp only [Bool.true_and]
  cases vs with
  | nil => rfl
  | cons a t =>
    obtain ⟨v, hv⟩ : ∃ v, (a :: t).getLast? = some v := ⟨_, List.getLast?_cons⟩
    have hvm : v ∈ a :: t := List.mem_of_getLast? hv
    unfold edgeB
    rw [join_last hv (hl v hv), join_head]
    have e1 := (h1 v hvm).2
    have e2 := (h1 a (by simp)).2
    unfold edgeB at e1 e2
    simp only [Bool.and_eq_true, Bool.not_eq_true'] at e1 e2 ⊢
    refine ⟨?_, e1.2⟩
    split
    · split
      · rfl
      · exact hc
    · exact e2.1
theorem cookie_value {may : List (List UInt8)} {l : List Hd} (h : eachO may [] l = 0) : valueB (cookieO l) = true := by
  unfold cookieO semiL
  refine join_value (by decide) (by decide) (fun v hv => ?_) (fun v hv => ?_)
  · rw [List.mem_map] at hv
    obtain ⟨y, hy, rfl⟩ := hv
    obtain ⟨x, hx, rfl⟩ := valuesB_mem (List.mem_filter.1 hy).1
    exact (each_good h x hx).2.1
  · have hm := List.mem_of_getLast? hv
    rw [List.mem_map] at hm
    obtain ⟨y, hy, rfl⟩ := hm
    have := (List.mem_filter.1 hy).2
    unfold fullB at this
    simpa using this
/-- A name that may stand behind a via's blank. -/
def PlainN (name : List UInt8) : Prop := name.all okB = true ∧ name ≠ [] ∧ (name.getLast?.any blankB) = false
theorem via_value {may : List (List UInt8)} {l : List Hd} {name : List UInt8} (h : eachO may [] l = 0) (hn : PlainN name) : valueB (viaO l name) = true := by
  obtain ⟨n1, n2, n3⟩ := hn
  unfold viaO commaL
  refine join_value (by decide) (by decide) (fun v hv => ?_) (fun v hv => ?_)
  · rw [List.mem_append] at hv
    rcases hv with hv | hv
    · rw [List.mem_map] at hv
      obtain ⟨y, hy, rfl⟩ := hv
      obtain ⟨x, hx, rfl⟩ := valuesB_mem hy
      exact (each_good h x hx).2.1
    · simp only [List.mem_singleton] at hv
      subst hv
      unfold valueB edgeB twoL
      rw [List.all_append, n1, List.getLast?_append]
      cases hl : name.getLast? with
      | none => exact absurd (List.getLast?_eq_none_iff.1 hl) n2
      | some c =>
        rw [hl] at n3
        simp only [Option.some_or, n3]
        rfl
  · rw [List.getLast?_append] at hv
    simp [twoL] at hv
    subst hv
    simp

theorem find_head (l : List Hd) (n : List UInt8) : findL l n = (valuesB l n).head? := by
  rw [fst_find]
  unfold fstH valuesB
  rw [List.head?_map, List.head?_filter]
theorem alike_all (l : List Hd) (f : List UInt8) : alikeB l f = (valuesB l sCL).all (fun v => tx v == f) := by
  unfold alikeB valuesB
  rw [List.all_map, List.all_filter]
  congr 1
theorem length_same {l m : List Hd} (h : valuesB m sCL = valuesB l sCL) : lengthO m = lengthO l := by
  unfold lengthO
  rw [find_head m, find_head l, h]
  cases (valuesB l sCL).head? with
  | none => rfl
  | some f => simp only [alike_all, h]
theorem vals_gath {f : List Hd → Hd → List Hd} {n : List UInt8} (hf : ∀ d h, valuesB (f d h) n = valuesB [h] n) : ∀ (l done : List Hd), valuesB (gathO f done l) n = valuesB l n
  | [], done => rfl
  | h :: t, done => by
    rw [gathO, valuesB_append, hf, vals_gath hf t, ← valuesB_append]
    rfl
theorem vals_none {l : List Hd} {n : List UInt8} (h : ∀ x ∈ l, tx x.1 ≠ n) : valuesB l n = [] := by
  unfold valuesB
  rw [List.map_eq_nil_iff, List.filter_eq_nil_iff]
  intro x hx
  simpa using h x hx
theorem vals_one (x h : Hd) (n : List UInt8) (h1 : tx x.1 = tx h.1) (h2 : x.2.1 = h.2.1) : valuesB [x] n = valuesB [h] n := by
  simp only [valuesB, List.filter_cons, List.filter_nil, h1]
  by_cases he : tx h.1 = n
  · simp [he, h2]
  · simp [he]
theorem req_cl (a : Bool) (ck : List UInt8) (d : List Hd) (h : Hd) : valuesB (reqStep a ck d h) sCL = valuesB [h] sCL := by
  have no : ∀ {n : List UInt8}, tx h.1 = n → n ≠ sCL → valuesB [h] sCL = [] := fun {n} e hn => vals_none (fun x hx => by simp at hx; subst hx; rw [e]; exact hn)
  unfold reqStep
  split
  · rename_i hp
    rw [vals_none (l := [h]) (fun x hx => by simp at hx; subst hx; intro e; rw [e] at hp; exact absurd hp (by decide))]
    rfl
  split
  · rename_i h1
    split
    · rw [no h1 (by decide)]; rfl
    · rfl
  split
  · exact vals_one _ _ _ rfl rfl
  split
  · rename_i h1
    rw [no h1 (by decide)]
    split
    · exact vals_none (fun x hx => by simp at hx; subst hx; show tx (mkS sCookie) ≠ _; rw [mkS_tx]; decide)
    · rfl
  split
  · rename_i h1
    rw [no h1 (by decide)]
    rfl
  · rfl
theorem res_cl (d : List Hd) (h : Hd) : valuesB (resStep d h) sCL = valuesB [h] sCL := by
  unfold resStep
  split
  · rename_i hp
    rw [vals_none (l := [h]) (fun x hx => by simp at hx; subst hx; intro e; rw [e] at hp; exact absurd hp (by decide))]
    rfl
  split
  · exact vals_one _ _ _ rfl rfl
  split
  · rename_i h1
    rw [vals_none (l := [h]) (fun x hx => by simp at hx; subst hx; rw [h1]; decide)]
    rfl
  · rfl
theorem pass_cl {step : List Hd → Hd → List Hd} (hs : ∀ d h, valuesB (step d h) sCL = valuesB [h] sCL) (l : List Hd) (name : List UInt8) : valuesB (passO step l name) sCL = valuesB l sCL := by
  unfold passO
  have e1 : valuesB (pickO l allN) sCL = [] := vals_none (fun x hx e => by
    have := (pick_mem hx).2.1
    rw [e] at this
    exact absurd this (by decide))
  have e2 : valuesB [viaH l name] sCL = [] := vals_none (fun x hx => by
    simp at hx
    subst hx
    show tx (mkS sVia) ≠ _
    rw [mkS_tx]
    decide)
  rw [valuesB_append, valuesB_append, vals_gath hs, e1, e2]
  simp
theorem all_pseudo : ∀ n ∈ allN, pseudoB n = true := by decide
theorem pass_find {step : List Hd → Hd → List Hd} (hs : ∀ d h x, x ∈ step d h → pseudoB (tx x.1) = false) (l : List Hd) (name : List UInt8) {n : List UInt8} (hn : n ∈ allN) : findL (passO step l name) n = findL l n := by
  have hp := all_pseudo n hn
  rw [fst_find, fst_find]
  congr 1
  unfold passO
  have e1 := fst_pick (l := l) hn
  unfold fstH at e1 ⊢
  rw [List.append_assoc, List.find?_append, e1]
  have e2 : (gathO step [] l ++ [viaH l name]).find? (fun h => tx h.1 == n) = none := by
    rw [List.find?_eq_none]
    intro x hx
    simp only [beq_iff_eq]
    intro e
    rw [List.mem_append] at hx
    rcases hx with hx | hx
    · obtain ⟨h, _, d, hd⟩ := gath_mem hx
      have := hs d h x hd
      rw [e, hp] at this
      cases this
    · simp at hx
      subst hx
      have : pseudoB (tx (mkS sVia)) = true := by rw [show tx (mkS sVia) = n from e]; exact hp
      rw [mkS_tx] at this
      exact absurd this (by decide)
  rw [e2]
  simp
theorem req_pseudo (a : Bool) (ck : List UInt8) (d : List Hd) (h x : Hd) (hx : x ∈ reqStep a ck d h) : pseudoB (tx x.1) = false := by
  have := req_mem hx
  rw [this.2.2.1]
  exact this.1
theorem res_pseudo (d : List Hd) (h x : Hd) (hx : x ∈ resStep d h) : pseudoB (tx x.1) = false := by
  have := res_mem hx
  rw [this.2.2.1]
  exact this.1
theorem good_via {may : List (List UInt8)} {l : List Hd} {name : List UInt8} (h : eachO may [] l = 0) (hn : PlainN name) : GoodH (viaH l name) ∧ pseudoB (tx (viaH l name).1) = false := by
  unfold GoodH viaH
  simp only [mkS_tx]
  refine ⟨⟨by decide, via_value h hn, ?_⟩, by decide⟩
  unfold boundB
  have : (sVia == sTe) = false := by decide
  rw [this]
  rfl
theorem pass_each {may : List (List UInt8)} {step : List Hd → Hd → List Hd} {l : List Hd} {name : List UInt8} (h : eachO may [] l = 0) (hn : PlainN name) (hs : ∀ d h, h ∈ l → ∀ x ∈ step d h, GoodH x ∧ pseudoB (tx x.1) = false) (hm : may.Nodup) (hsub : pickO l allN = pickO l may) (hmp : ∀ n ∈ may, pseudoB n = true) : eachO may [] (passO step l name) = 0 := by
  unfold passO
  rw [List.append_assoc, hsub]
  refine each_intro (fun x hx => ?_) ((pick_names l may).nodup hm) (fun x hx => ?_)
  · obtain ⟨h1, h2, _⟩ := pick_mem hx
    exact ⟨each_good h x h1, hmp _ h2, h2⟩
  · rw [List.mem_append] at hx
    rcases hx with hx | hx
    · obtain ⟨y, hy, d, hd⟩ := gath_mem hx
      exact hs d y hy x hd
    · simp at hx
      subst hx
      exact good_via h hn
theorem cookie_bound (v : List UInt8) : boundB sCookie v = false := by
  unfold boundB
  have : (sCookie == sTe) = false := by decide
  rw [this]
  rfl
theorem whole_same {l m : List Hd} (h : ∀ n ∈ mayR, findL m n = findL l n) : wholeB m = wholeB l := by
  unfold wholeB valO hasO
  rw [h sMethod (by decide), h sScheme (by decide), h sAuth (by decide), h sPath (by decide), h sProto (by decide)]
theorem req_keeps {l : List Hd} {name : List UInt8} (h : requestO l = 0) (hn : PlainN name) : requestO (passO (reqStep (hasO l sAuth) (cookieO l)) l name) = 0 := by
  have h0 := (request_method h).1
  have h1 := h
  unfold requestO at h1 ⊢
  rw [if_pos h0] at h1
  have hw : wholeB l = true := by
    by_cases hw : wholeB l = true
    · exact hw
    · rw [if_neg hw] at h1; simp at h1
  rw [if_pos hw] at h1
  have e := pass_each (step := reqStep (hasO l sAuth) (cookieO l)) h0 hn (fun d y hy x hx => by
    refine ⟨?_, req_pseudo _ _ _ _ _ hx⟩
    have hg := each_good h0 y hy
    obtain ⟨_, _, hnm, (⟨hc, rfl⟩ | ⟨_, hv, _⟩)⟩ := req_mem hx
    · refine ⟨?_, ?_, ?_⟩
      · show nameOk (tx (mkS sCookie)) = true
        rw [mkS_tx]; decide
      · show valueB (tx (mkS _)) = true
        rw [mkS_tx]; exact cookie_value h0
      · show boundB (tx (mkS sCookie)) _ = false
        rw [mkS_tx]; exact cookie_bound _
    · unfold GoodH
      rw [hnm, hv]
      exact hg) (by decide) (pick_req h0) (by decide)
  rw [if_pos e, whole_same (fun n hn => pass_find (fun d h x hx => req_pseudo _ _ _ _ _ hx) l name (by unfold allN; unfold mayR at hn; exact List.mem_cons_of_mem _ hn)), if_pos hw, length_same (pass_cl (fun d h => req_cl _ _ d h) l name)]
  exact h1
theorem res_keeps {l : List Hd} {name : List UInt8} (h : (responseO l).2 = 0) (hn : PlainN name) : responseO (passO resStep l name) = responseO l := by
  have h0 := (response_status h).1
  have e := pass_each (step := resStep) h0 hn (fun d y hy x hx => by
    refine ⟨?_, res_pseudo _ _ _ hx⟩
    have hg := each_good h0 y hy
    obtain ⟨_, _, hnm, hv, _⟩ := res_mem hx
    unfold GoodH
    rw [hnm, hv]
    exact hg) (by decide) (by rw [pick_res h0]; unfold pickO; simp only [List.filterMap_cons, List.filterMap_nil]; cases fstH l sStatus <;> rfl) (by decide)
  have hv : valO (passO resStep l name) sStatus = valO l sStatus := by
    unfold valO
    rw [pass_find (fun d h x hx => res_pseudo _ _ _ hx) l name (by decide)]
  unfold responseO
  rw [if_pos e, if_pos h0, hv, length_same (pass_cl (fun d h => res_cl d h) l name)]

/-- What is passed on as it was. -/
def plainF (l : List Hd) : List Hd := (l.filter fun h => !(pseudoB (tx h.1) || [sHost, sCookie, sVia].contains (tx h.1))).map fun h => (h.1, h.2.1, false)
theorem plainF_append (a b : List Hd) : plainF (a ++ b) = plainF a ++ plainF b := by simp [plainF]
theorem plainF_none {l : List Hd} (h : ∀ x ∈ l, (pseudoB (tx x.1) || [sHost, sCookie, sVia].contains (tx x.1)) = true) : plainF l = [] := by
  unfold plainF
  rw [List.map_eq_nil_iff, List.filter_eq_nil_iff]
  intro x hx
  rw [h x hx]
  simp
theorem plainF_gath {f : List Hd → Hd → List Hd} (hf : ∀ d h, plainF (f d h) = plainF [h]) : ∀ (l done : List Hd), plainF (gathO f done l) = plainF l
  | [], done => rfl
  | h :: t, done => by
    rw [gathO, plainF_append, hf, plainF_gath hf t, ← plainF_append]
    rfl
theorem plainF_step {l : List Hd} {i : Nat} {h : Hd} (hi : l[i]? = some h) : plainF (l.take (i + 1)) = plainF (l.take i) ++ (if (pseudoB (tx h.1) || [sHost, sCookie, sVia].contains (tx h.1)) = true then [] else [(h.1, h.2.1, false)]) := by
  rw [List.take_add_one, hi, plainF_append]
  congr 1
  simp only [Option.toList_some, plainF, List.filter_cons, List.filter_nil]
  by_cases hp : (pseudoB (tx h.1) || [sHost, sCookie, sVia].contains (tx h.1)) = true
  · simp only [hp]; simp
  · have hp2 : (pseudoB (tx h.1) || [sHost, sCookie, sVia].contains (tx h.1)) = false := by simpa using hp
    simp only [hp2]; simp
theorem plainF_one (x h : Hd) (h1 : x.1 = h.1) (h2 : x.2.1 = h.2.1) : plainF [x] = plainF [h] := by
  simp only [plainF, List.filter_cons, List.filter_nil, h1]
  split
  · simp [h1, h2]
  · rfl
theorem req_plain (a : Bool) (ck : List UInt8) (d : List Hd) (h : Hd) : plainF (reqStep a ck d h) = plainF [h] := by
  have no : (pseudoB (tx h.1) || [sHost, sCookie, sVia].contains (tx h.1)) = true → plainF [h] = [] := fun e => plainF_none (fun x hx => by simp at hx; subst hx; exact e)
  unfold reqStep
  split
  · rename_i hp
    rw [no (by rw [hp]; rfl)]; rfl
  split
  · rename_i h1
    rw [no (by rw [h1]; decide)]
    split
    · rfl
    · exact no (by rw [h1]; decide)
  split
  · exact plainF_one _ _ rfl rfl
  split
  · rename_i h1
    rw [no (by rw [h1]; decide)]
    split
    · exact plainF_none (fun x hx => by simp at hx; subst hx; show (pseudoB (tx (mkS sCookie)) || _) = true; rw [mkS_tx]; decide)
    · rfl
  split
  · rename_i h1
    rw [no (by rw [h1]; decide)]; rfl
  · rfl
theorem res_plainF (d : List Hd) (h : Hd) : plainF (resStep d h) = plainF [h] := by
  have no : (pseudoB (tx h.1) || [sHost, sCookie, sVia].contains (tx h.1)) = true → plainF [h] = [] := fun e => plainF_none (fun x hx => by simp at hx; subst hx; exact e)
  unfold resStep
  split
  · rename_i hp
    rw [no (by rw [hp]; rfl)]; rfl
  split
  · exact plainF_one _ _ rfl rfl
  split
  · rename_i h1
    rw [no (by rw [h1]; decide)]; rfl
  · rfl
theorem pass_plain {step : List Hd → Hd → List Hd} (hs : ∀ d h, plainF (step d h) = plainF [h]) (l : List Hd) (name : List UInt8) : plainF (passO step l name) = plainF l := by
  unfold passO
  have e1 : plainF (pickO l allN) = [] := plainF_none (fun x hx => by rw [all_pseudo _ (pick_mem hx).2.1]; rfl)
  have e2 : plainF [viaH l name] = [] := plainF_none (fun x hx => by
    simp at hx
    subst hx
    show (pseudoB (tx (mkS sVia)) || [sHost, sCookie, sVia].contains (tx (mkS sVia))) = true
    rw [mkS_tx]
    decide)
  rw [plainF_append, plainF_append, plainF_gath hs, e1, e2]
  simp

/-- Secrets. -/
def sameH (y h : Hd) : Bool := tx y.1 == tx h.1 && tx y.2.1 == tx h.2.1
def wasB (l : List Hd) (h : Hd) : Bool := l.any (fun y => sameH y h) && l.all (fun y => !sameH y h || y.2.2)
theorem was_not {l : List Hd} {h : Hd} (hm : h ∈ l) (hs : h.2.2 = false) : wasB l h = false := by
  unfold wasB
  have : l.all (fun y => !sameH y h || y.2.2) = false := by
    rw [List.all_eq_false]
    exact ⟨h, hm, by simp [sameH, hs]⟩
  rw [this]
  simp
def secQ (l : List Hd) (x : Hd) : Bool := x.2.2 || !(tx x.1 == sAuthz || tx x.1 == sCookie || (!(tx x.1 == sVia) && wasB l x))
def secS (l : List Hd) (x : Hd) : Bool := x.2.2 || !(tx x.1 == sSetC || (!(tx x.1 == sVia) && wasB l x))
theorem ne_of_pseudo {n m : List UInt8} (h : pseudoB n = true) (hm : pseudoB m = false) : (n == m) = false := by
  rw [beq_eq_false_iff_ne]
  intro e
  rw [e, hm] at h
  cases h
theorem req_secret (l : List Hd) (name : List UInt8) (a : Bool) (ck : List UInt8) : ∀ x ∈ passO (reqStep a ck) l name, secQ l x = true := by
  intro x hx
  unfold passO at hx
  rw [List.mem_append, List.mem_append] at hx
  unfold secQ
  cases hs : x.2.2 with
  | true => rfl
  | false =>
    rcases hx with (hx | hx) | hx
    · obtain ⟨h1, h2, _⟩ := pick_mem hx
      have hp := all_pseudo _ h2
      rw [ne_of_pseudo hp (m := sAuthz) (by decide), ne_of_pseudo hp (m := sCookie) (by decide), was_not h1 hs]
      simp
    · obtain ⟨h, hm, d, hd⟩ := gath_mem hx
      obtain ⟨_, hv, hn, (⟨_, rfl⟩ | ⟨hc, _, (h1 | ⟨ha, rfl⟩)⟩)⟩ := req_mem hd
      · cases hs
      · rw [hs] at h1; cases h1
      · rw [was_not hm hs]
        simp [ha, hc]
    · simp at hx
      subst hx
      show (false || !(tx (mkS sVia) == sAuthz || tx (mkS sVia) == sCookie || (!(tx (mkS sVia) == sVia) && _))) = true
      rw [mkS_tx]
      have e1 : (sVia == sAuthz) = false := by decide
      have e2 : (sVia == sCookie) = false := by decide
      rw [e1, e2]
      simp
theorem res_secret (l : List Hd) (name : List UInt8) : ∀ x ∈ passO resStep l name, secS l x = true := by
  intro x hx
  unfold passO at hx
  rw [List.mem_append, List.mem_append] at hx
  unfold secS
  cases hs : x.2.2 with
  | true => rfl
  | false =>
    rcases hx with (hx | hx) | hx
    · obtain ⟨h1, h2, _⟩ := pick_mem hx
      have hp := all_pseudo _ h2
      rw [ne_of_pseudo hp (m := sSetC) (by decide), was_not h1 hs]
      simp
    · obtain ⟨h, hm, d, hd⟩ := gath_mem hx
      obtain ⟨_, hv, hn, _, (h1 | ⟨ha, rfl⟩)⟩ := res_mem hd
      · rw [hs] at h1; cases h1
      · rw [was_not hm hs]
        simp [ha]
    · simp at hx
      subst hx
      show (false || !(tx (mkS sVia) == sSetC || (!(tx (mkS sVia) == sVia) && _))) = true
      rw [mkS_tx]
      have e1 : (sVia == sSetC) = false := by decide
      rw [e1]
      simp

/-- One via. -/
def cntV (l : List Hd) : Nat := (l.filter fun h => tx h.1 == sVia).length
theorem cntV_step {l : List Hd} {i : Nat} {h : Hd} (hi : l[i]? = some h) : cntV (l.take (i + 1)) = cntV (l.take i) + (if tx h.1 = sVia then 1 else 0) := by
  unfold cntV
  rw [List.take_add_one, hi, List.filter_append, List.length_append]
  congr 1
  simp only [Option.toList_some, List.filter_cons, List.filter_nil]
  by_cases he : tx h.1 = sVia
  · simp [he]
  · simp [he]
theorem cnt_zero {l : List Hd} (h : ∀ x ∈ l, tx x.1 ≠ sVia) : (l.filter fun x => tx x.1 == sVia) = [] := by
  rw [List.filter_eq_nil_iff]
  intro x hx
  simpa using h x hx
theorem one_via (l : List Hd) (name : List UInt8) (a : Bool) (ck : List UInt8) : cntV (passO (reqStep a ck) l name) = 1 := by
  unfold cntV passO
  rw [List.filter_append, List.filter_append, cnt_zero (l := pickO l allN) (fun x hx e => ?_), cnt_zero (l := gathO _ _ _) (fun x hx e => ?_)]
  · simp [viaH, mkS_tx]
  · obtain ⟨h, hm, d, hd⟩ := gath_mem hx
    have := req_mem hd
    exact this.2.1 (this.2.2.1 ▸ e)
  · have := all_pseudo _ (pick_mem hx).2.1
    rw [e] at this
    exact absurd this (by decide)
theorem pass_len {step : List Hd → Hd → List Hd} (l : List Hd) (name : List UInt8) : 1 ≤ (passO step l name).length := by
  unfold passO
  simp only [List.length_append, List.length_cons, List.length_nil]
  omega
theorem pass_last {step : List Hd → Hd → List Hd} (l : List Hd) (name : List UInt8) : (passO step l name)[(passO step l name).length - 1]? = some (viaH l name) := by
  unfold passO
  simp
/-- The values of via, joined. -/
theorem join_vias (x : List UInt8) : ∀ (vs : List (List UInt8)), joinL commaL (vs ++ [x]) = (vs.flatMap (fun v => v ++ commaL)) ++ x
  | [] => rfl
  | a :: t => by
    rw [List.cons_append, joinL_cons _ _ (by simp), join_vias x t]
    simp
end Go.Proofs.YtplggcfoadjffaaGreatDoor
