/- Headers as a proxy passes them on: plain lists. -/
import Derived.Test.YtplggcfoadjffaaGreatDoorOb
namespace Go.Proofs.YtplggcfoadjffaaGreatDoor
open Go.RowKit
set_option linter.unusedVariables false

def sCookie : List UInt8 := [99, 111, 111, 107, 105, 101]
def sVia : List UInt8 := [118, 105, 97]
def sHost : List UInt8 := [104, 111, 115, 116]
def sAuthz : List UInt8 := [97, 117, 116, 104, 111, 114, 105, 122, 97, 116, 105, 111, 110]
def sSetC : List UInt8 := [115, 101, 116, 45, 99, 111, 111, 107, 105, 101]
def semiL : List UInt8 := [59, 32]
def commaL : List UInt8 := [44, 32]
def twoL : List UInt8 := [50, 32]
def mkS (l : List UInt8) : ByteArray := ⟨l.toArray⟩
theorem mkS_tx (l : List UInt8) : tx (mkS l) = l := tx_mk l
theorem mkS_of (s : ByteArray) : mkS (tx s) = s := tx_ext (mkS_tx _)
theorem mkS_size (l : List UInt8) : (mkS l).size = l.length := by rw [← tx_len, mkS_tx]

/-- Texts, with one between them. -/
def joinL (sep : List UInt8) : List (List UInt8) → List UInt8
  | [] => []
  | [a] => a
  | a :: b :: t => a ++ sep ++ joinL sep (b :: t)
theorem joinL_cons (sep a : List UInt8) {t : List (List UInt8)} (h : t ≠ []) : joinL sep (a :: t) = a ++ sep ++ joinL sep t := by
  cases t with
  | nil => exact absurd rfl h
  | cons b t => rfl
theorem joinL_snoc (sep : List UInt8) : ∀ {l : List (List UInt8)} (x : List UInt8), l ≠ [] → joinL sep (l ++ [x]) = joinL sep l ++ sep ++ x
  | [], x, h => absurd rfl h
  | [a], x, _ => rfl
  | a :: b :: t, x, _ => by
    rw [List.cons_append, joinL_cons sep a (by simp), joinL_snoc sep x (l := b :: t) (by simp), joinL_cons sep a (by simp)]
    simp
theorem joinL_mono (sep : List UInt8) (l r : List (List UInt8)) : (joinL sep l).length ≤ (joinL sep (l ++ r)).length := by
  induction l with
  | nil => simp [joinL]
  | cons a t ih =>
    cases t with
    | nil =>
      cases r with
      | nil => simp
      | cons b r => simp [joinL]
    | cons b t =>
      rw [List.cons_append, joinL_cons sep a (by simp), joinL_cons sep a (by simp)]
      simp only [List.length_append] at ih ⊢
      omega

/-- The values of all headers of a name. -/
def valuesB (l : List Hd) (n : List UInt8) : List ByteArray := (l.filter fun h => tx h.1 == n).map (·.2.1)
theorem valuesB_append (a b : List Hd) (n : List UInt8) : valuesB (a ++ b) n = valuesB a n ++ valuesB b n := by simp [valuesB]
theorem valuesB_step {l : List Hd} {n : List UInt8} {i : Nat} {h : Hd} (hi : l[i]? = some h) : valuesB (l.take (i + 1)) n = valuesB (l.take i) n ++ (if tx h.1 = n then [h.2.1] else []) := by
  rw [List.take_add_one, hi, valuesB_append]
  congr 1
  simp only [Option.toList_some, valuesB, List.filter_cons, List.filter_nil]
  by_cases he : tx h.1 = n
  · simp [he]
  · simp [he]
theorem valuesB_none {l : List Hd} {n : List UInt8} (h : findL l n = none) : valuesB l n = [] := by
  unfold valuesB
  rw [List.map_eq_nil_iff, List.filter_eq_nil_iff]
  intro x hx
  simpa using findL_none h x hx
theorem valuesB_some {l : List Hd} {n : List UInt8} {v : ByteArray} (h : findL l n = some v) : valuesB l n ≠ [] := by
  obtain ⟨x, hx, he, -⟩ := findL_mem h
  unfold valuesB
  rw [ne_eq, List.map_eq_nil_iff, List.filter_eq_nil_iff]
  intro h2
  have := h2 x hx
  simp [he] at this
theorem valuesB_len (l : List Hd) (n : List UInt8) : (valuesB l n).length ≤ l.length := by
  unfold valuesB
  rw [List.length_map]
  exact List.length_filter_le _ _
theorem valuesB_mem {l : List Hd} {n : List UInt8} {v : ByteArray} (h : v ∈ valuesB l n) : ∃ x ∈ l, x.2.1 = v := by
  unfold valuesB at h
  rw [List.mem_map] at h
  obtain ⟨x, hx, rfl⟩ := h
  exact ⟨x, (List.mem_filter.1 hx).1, rfl⟩

/-- The first header of a name. -/
def fstH (l : List Hd) (n : List UInt8) : Option Hd := l.find? fun h => tx h.1 == n
theorem fst_find (l : List Hd) (n : List UInt8) : findL l n = (fstH l n).map (·.2.1) := by
  unfold fstH
  induction l with
  | nil => rfl
  | cons h t ih =>
    simp only [findL, List.find?_cons]
    by_cases he : tx h.1 = n
    · simp [he]
    · have : (tx h.1 == n) = false := by simpa using he
      rw [if_neg he, this]
      exact ih
theorem fst_none {l : List Hd} {n : List UInt8} (h : findL l n = none) : fstH l n = none := by
  rw [fst_find] at h
  simpa using h
theorem fst_mem {l : List Hd} {n : List UInt8} {x : Hd} (h : fstH l n = some x) : x ∈ l ∧ tx x.1 = n := by
  have h1 := List.find?_some h
  exact ⟨List.mem_of_find?_eq_some h, by simpa using h1⟩
theorem fst_hit {l : List Hd} {n : List UInt8} {i : Nat} {h : Hd} (hi : l[i]? = some h) (hp : findL (l.take i) n = none) (he : tx h.1 = n) : fstH l n = some h := by
  have h1 : l = l.take i ++ (h :: l.drop (i + 1)) := by
    have hlt := (List.getElem?_eq_some_iff.1 hi).1
    have h2 := (List.getElem?_eq_some_iff.1 hi).2
    rw [← h2, ← List.drop_eq_getElem_cons hlt, List.take_append_drop]
  have h2 := fst_none hp
  unfold fstH at h2 ⊢
  rw [h1, List.find?_append, h2]
  simp [he]
def pickO (l : List Hd) (ns : List (List UInt8)) : List Hd := ns.filterMap (fstH l)
theorem pickO_step {ns : List (List UInt8)} {l : List Hd} {i : Nat} {n : List UInt8} (hi : ns[i]? = some n) : pickO l (ns.take (i + 1)) = pickO l (ns.take i) ++ (fstH l n).toList := by
  unfold pickO
  rw [List.take_add_one, hi, List.filterMap_append]
  cases h : fstH l n <;> simp [h]

/-- Headers turned one by one, each behind those ahead of it. -/
def gathO (f : List Hd → Hd → List Hd) : List Hd → List Hd → List Hd
  | _, [] => []
  | done, h :: t => f done h ++ gathO f (done ++ [h]) t
theorem gathO_append (f : List Hd → Hd → List Hd) : ∀ (a done b : List Hd), gathO f done (a ++ b) = gathO f done a ++ gathO f (done ++ a) b
  | [], done, b => by simp [gathO]
  | h :: t, done, b => by
    simp only [List.cons_append, gathO]
    rw [gathO_append f t]
    simp
theorem gathO_step {f : List Hd → Hd → List Hd} {l : List Hd} {i : Nat} {h : Hd} (hi : l[i]? = some h) : gathO f [] (l.take (i + 1)) = gathO f [] (l.take i) ++ f (l.take i) h := by
  rw [List.take_add_one, hi, gathO_append]
  simp [gathO]
theorem gathO_len {f : List Hd → Hd → List Hd} (hf : ∀ d h, (f d h).length ≤ 1) : ∀ (l done : List Hd), (gathO f done l).length ≤ l.length
  | [], done => by simp [gathO]
  | h :: t, done => by
    simp only [gathO, List.length_append, List.length_cons]
    have h1 := hf done h
    have h2 := gathO_len hf t (done ++ [h])
    omega

def reqStep (auth : Bool) (ck : List UInt8) (done : List Hd) (h : Hd) : List Hd :=
  if pseudoB (tx h.1) = true then []
  else if tx h.1 = sHost then (if auth = true then [] else [h])
  else if tx h.1 = sAuthz then [(h.1, h.2.1, true)]
  else if tx h.1 = sCookie then (if findL done sCookie = none then [(mkS sCookie, mkS ck, true)] else [])
  else if tx h.1 = sVia then []
  else [h]
def resStep (done : List Hd) (h : Hd) : List Hd :=
  if pseudoB (tx h.1) = true then []
  else if tx h.1 = sSetC then [(h.1, h.2.1, true)]
  else if tx h.1 = sVia then []
  else [h]
theorem reqStep_len (a : Bool) (ck : List UInt8) (d : List Hd) (h : Hd) : (reqStep a ck d h).length ≤ 1 := by
  unfold reqStep
  repeat' split
  all_goals simp
theorem resStep_len (d : List Hd) (h : Hd) : (resStep d h).length ≤ 1 := by
  unfold resStep
  repeat' split
  all_goals simp

def fullB (v : ByteArray) : Bool := !(tx v).isEmpty
def cookieO (l : List Hd) : List UInt8 := joinL semiL (((valuesB l sCookie).filter fullB).map tx)
def viaO (l : List Hd) (name : List UInt8) : List UInt8 := joinL commaL ((valuesB l sVia).map tx ++ [twoL ++ name])
def viaH (l : List Hd) (name : List UInt8) : Hd := (mkS sVia, mkS (viaO l name), false)
def allN : List (List UInt8) := [sStatus, sMethod, sScheme, sAuth, sPath, sProto]
def passO (step : List Hd → Hd → List Hd) (l : List Hd) (name : List UInt8) : List Hd := pickO l allN ++ gathO step [] l ++ [viaH l name]
/-- What passOn answers. -/
def passR (step : List Hd → Hd → List Hd) (l : List Hd) (name : List UInt8) : List Hd × Int :=
  if (viaO l name).length ≤ 16384 then (passO step l name, 0) else ([], 2)
def rewReq (l : List Hd) (name : List UInt8) : List Hd × Int :=
  if requestO l = 0 then (if (cookieO l).length ≤ 16384 then passR (reqStep (hasO l sAuth) (cookieO l)) l name else ([], 2)) else ([], requestO l)
def rewRes (l : List Hd) (name : List UInt8) : List Hd × Int :=
  if (responseO l).2 = 0 then passR resStep l name else ([], (responseO l).2)
def statL (z : Int) : List UInt8 :=
  let n := (z.emod 1000).toNat
  [UInt8.ofNat (48 + n / 100), UInt8.ofNat (48 + n / 10 % 10), UInt8.ofNat (48 + n % 10)]
def retryB (l : List Hd) : Bool :=
  !hasO l sProto && [[71, 69, 84], [72, 69, 65, 68], [79, 80, 84, 73, 79, 78, 83], [80, 85, 84], [68, 69, 76, 69, 84, 69]].contains (valO l sMethod)

/-- What each gives, of a header. -/
theorem each_good {may : List (List UInt8)} : ∀ {l done : List Hd}, eachO may done l = 0 → ∀ x ∈ l, nameOk (tx x.1) = true ∧ valueB (tx x.2.1) = true ∧ boundB (tx x.1) (tx x.2.1) = false
  | [], _, _, x, hx => by simp at hx
  | h :: t, done, he, x, hx => by
    rw [eachO] at he
    split at he
    · rename_i h0
      rcases List.mem_cons.1 hx with rfl | hx
      · unfold stepE at h0
        split at h0
        · simp at h0
        rename_i h1
        split at h0
        · simp at h0
        rename_i h2
        split at h0
        · simp at h0
        split at h0
        · simp at h0
        rename_i h3
        exact ⟨by simpa using h1, by simpa using h2, by simpa using h3⟩
      · exact each_good he x hx
    · rename_i h0
      exact absurd he h0
/-- A pseudo header comes behind none that is none, and once. -/
theorem each_first {may : List (List UInt8)} : ∀ {l done : List Hd}, eachO may done l = 0 → ∀ x ∈ l, pseudoB (tx x.1) = true → plainB done = false ∧ findL done (tx x.1) = none
  | [], _, _, x, hx, _ => by simp at hx
  | h :: t, done, he, x, hx, hp => by
    rw [eachO] at he
    split at he
    · rename_i h0
      rcases List.mem_cons.1 hx with rfl | hx
      · unfold stepE at h0
        split at h0
        · simp at h0
        split at h0
        · simp at h0
        split at h0
        · simp at h0
        rename_i h1
        simp [hp] at h1
        exact ⟨h1.1.1, h1.2⟩
      · have h2 := each_first he x hx hp
        unfold plainB at h2 ⊢
        rw [List.any_append, findL_append] at h2
        simp only [Bool.or_eq_false_iff] at h2
        refine ⟨h2.1.1, ?_⟩
        have h3 := h2.2
        cases hd : findL done (tx x.1) with
        | none => rfl
        | some v => rw [hd] at h3; simp at h3
    · rename_i h0
      exact absurd he h0
theorem each_name {may : List (List UInt8)} {l : List Hd} (h : eachO may [] l = 0) : ∀ x ∈ l, 1 ≤ x.1.size := fun x hx => by
  have h1 := (each_good h x hx).1
  rw [← tx_len]
  unfold nameOk nameB at h1
  cases ht : tx x.1 with
  | nil => rw [ht] at h1; simp [pseudoB] at h1
  | cons a t => simp
/-- A pseudo header stands there once. -/
theorem each_once {may : List (List UInt8)} : ∀ {l done : List Hd} {n : List UInt8}, eachO may done l = 0 → pseudoB n = true → (l.filter fun h => tx h.1 == n) = (fstH l n).toList
  | [], done, n, _, _ => rfl
  | h :: t, done, n, he, hp => by
    have he' := he
    rw [eachO] at he
    split at he
    · by_cases hn : tx h.1 = n
      · have h1 : (t.filter fun x => tx x.1 == n) = [] := by
          rw [List.filter_eq_nil_iff]
          intro x hx hxn
          have hxn : tx x.1 = n := by simpa using hxn
          have h2 := (each_first he x hx (by rw [hxn]; exact hp)).2
          rw [findL_append, hxn] at h2
          simp [findL, hn] at h2
        unfold fstH
        rw [List.filter_cons, List.find?_cons]
        simp [hn, h1]
      · have hb : (tx h.1 == n) = false := by simpa using hn
        unfold fstH
        rw [List.filter_cons, List.find?_cons, hb]
        simp only [Bool.false_eq_true, if_false]
        exact each_once (l := t) he hp
    · rename_i h0
      exact absurd he h0
theorem each_absent {may : List (List UInt8)} {l : List Hd} {n : List UInt8} (h : eachO may [] l = 0) (hp : pseudoB n = true) (hn : n ∉ may) : fstH l n = none := by
  cases hf : fstH l n with
  | none => rfl
  | some x =>
    obtain ⟨hx, he⟩ := fst_mem hf
    exact absurd (he ▸ each_pseudo h x hx (by rw [he]; exact hp)) hn
/-- Of a request: five pseudo headers at most. -/
theorem pick_req {l : List Hd} (h : eachO mayR [] l = 0) : pickO l allN = pickO l mayR := by
  unfold pickO allN
  rw [List.filterMap_cons, each_absent h (by decide) (by decide)]
  rfl
theorem pick_res {l : List Hd} (h : eachO [sStatus] [] l = 0) : pickO l allN = (fstH l sStatus).toList := by
  unfold pickO allN
  simp only [List.filterMap_cons, List.filterMap_nil, each_absent (n := sMethod) h (by decide) (by decide), each_absent (n := sScheme) h (by decide) (by decide), each_absent (n := sAuth) h (by decide) (by decide), each_absent (n := sPath) h (by decide) (by decide), each_absent (n := sProto) h (by decide) (by decide)]
  cases fstH l sStatus <;> rfl
/-- The document's: every header of each name. -/
def pickA (l : List Hd) (ns : List (List UInt8)) : List Hd := ns.flatMap fun n => l.filter fun h => tx h.1 == n
theorem pick_all {may : List (List UInt8)} {l : List Hd} {ns : List (List UInt8)} (h : eachO may [] l = 0) (hn : ∀ n ∈ ns, pseudoB n = true) : pickA l ns = pickO l ns := by
  induction ns with
  | nil => rfl
  | cons n t ih =>
    unfold pickA pickO at *
    rw [List.flatMap_cons, List.filterMap_cons, ih (fun m hm => hn m (by simp [hm])), each_once h (hn n (by simp))]
    cases fstH l n <;> simp
/-- The document's step of a response: pseudo headers stay where they stand. -/
def resStepD (done : List Hd) (h : Hd) : List Hd :=
  if tx h.1 = sVia then []
  else if tx h.1 = sSetC then [(h.1, h.2.1, true)]
  else [h]
theorem res_plain : ∀ {l done : List Hd}, (∀ x ∈ l, pseudoB (tx x.1) = false) → gathO resStepD done l = gathO resStep done l
  | [], done, _ => rfl
  | h :: t, done, hp => by
    simp only [gathO]
    rw [res_plain (fun x hx => hp x (by simp [hx]))]
    congr 1
    unfold resStepD resStep
    rw [hp h (by simp)]
    simp only [Bool.false_eq_true, if_false]
    by_cases h1 : tx h.1 = sVia
    · rw [if_pos h1, if_neg (by rw [h1]; decide), if_pos h1]
    · rw [if_neg h1, if_neg h1]
theorem res_doc {l : List Hd} (h : eachO [sStatus] [] l = 0) : gathO resStepD [] l = pickO l allN ++ gathO resStep [] l := by
  rw [pick_res h]
  cases l with
  | nil => rfl
  | cons x t =>
    have h' := h
    rw [eachO] at h
    split at h
    · by_cases hp : pseudoB (tx x.1) = true
      · have hx : tx x.1 = sStatus := by simpa using each_pseudo h' x (by simp) hp
        have hall : ∀ y ∈ t, pseudoB (tx y.1) = false := fun y hy => by
          cases hpy : pseudoB (tx y.1) with
          | false => rfl
          | true =>
            have hy2 : tx y.1 = sStatus := by simpa using each_pseudo h' y (by simp [hy]) hpy
            have h2 := (each_first h y hy hpy).2
            rw [hy2] at h2
            simp [findL, hx] at h2
        have hf : fstH (x :: t) sStatus = some x := by unfold fstH; rw [List.find?_cons]; simp [hx]
        rw [hf]
        simp only [gathO, Option.toList_some]
        rw [res_plain hall]
        have e1 : resStepD [] x = [x] := by unfold resStepD; rw [if_neg (by rw [hx]; decide), if_neg (by rw [hx]; decide)]
        have e2 : resStep [] x = [] := by unfold resStep; rw [if_pos hp]
        rw [e1, e2]
        simp
      · have hp : pseudoB (tx x.1) = false := by simpa using hp
        have hall : ∀ y ∈ x :: t, pseudoB (tx y.1) = false := fun y hy => by
          rcases List.mem_cons.1 hy with rfl | hy
          · exact hp
          · cases hpy : pseudoB (tx y.1) with
            | false => rfl
            | true =>
              have h2 := (each_first h y hy hpy).1
              simp [plainB, hp] at h2
        rw [res_plain hall]
        have hf : fstH (x :: t) sStatus = none := by
          unfold fstH
          rw [List.find?_eq_none]
          intro y hy
          have := hall y hy
          simp only [beq_iff_eq]
          intro e
          rw [e] at this
          exact absurd this (by decide)
        rw [hf]
        simp
    · rename_i h0
      exact absurd h h0
end Go.Proofs.YtplggcfoadjffaaGreatDoor
