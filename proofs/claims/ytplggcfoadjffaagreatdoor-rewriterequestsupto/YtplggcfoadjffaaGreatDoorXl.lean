/- The rules of a request and of a response, and what they do. -/
import Derived.Test.YtplggcfoadjffaaGreatDoorXg
import Derived.Test.YtplggcfoadjffaaGreatDoorXi
import Derived.Test.YtplggcfoadjffaaGreatDoorOe
namespace Go.Proofs.YtplggcfoadjffaaGreatDoor
open Go.RowKit
set_option linter.unusedVariables false
set_option maxRecDepth 100000
set_option maxHeartbeats 4000000

/-- Where the first cookie stands. -/
def FirstC (l : List Hd) (f : Int) : Prop := (f = -1 ∧ findL l sCookie = none) ∨ ∃ (i : Nat) (h : Hd), f = (i : Int) ∧ l[i]? = some h ∧ tx h.1 = sCookie ∧ findL (l.take i) sCookie = none
theorem first_eq {l : List Hd} {f : Int} (hf : FirstC l f) {i : Nat} {h : Hd} (hi : l[i]? = some h) (hn : tx h.1 = sCookie) : ((i : Int) == f) = (findL (l.take i) sCookie).isNone := by
  rcases hf with ⟨rfl, hf⟩ | ⟨j, h', rfl, hj, hn', hf⟩
  · exact absurd hn (findL_none hf h (List.mem_of_getElem? hi))
  · by_cases hij : i = j
    · subst hij
      rw [hf]
      simp
    · have h1 : ((i : Int) == (j : Int)) = false := by rw [beq_eq_false_iff_ne]; omega
      rw [h1]
      rcases Nat.lt_or_ge i j with h2 | h2
      · have hm : h ∈ l.take j := by
          refine List.mem_of_getElem? (i := i) ?_
          rw [List.getElem?_take, if_pos h2]
          exact hi
        exact absurd hn (findL_none hf h hm)
      · have hm : h' ∈ l.take i := by
          refine List.mem_of_getElem? (i := j) ?_
          rw [List.getElem?_take, if_pos (by omega)]
          exact hj
        cases hq : findL (l.take i) sCookie with
        | none => exact absurd hn' (findL_none hq h' hm)
        | some v => rfl
theorem rulesQ_ok {l : List Hd} {w : World} {rb gA gC gF : Nat} {au : Bool} {ck : List UInt8} {f : Int} (h : RulesQ w rb gA gC gF au (mkS ck) f) (hf : FirstC l f) : RulesOk (reqStep au ck) l rb 4 (fun W => Fr (fun _ => False) w W) := by
  refine ⟨fun W W' h1 h2 => h1.trans h2, fun W i hd hW hi hp => ?_, fun d hd hp => by unfold reqStep; rw [if_pos hp]⟩
  have hr := h.fr hW (fun _ _ => id)
  obtain ⟨xn, xv, xs⟩ := hd
  have hp' : ¬ pseudoB (tx xn) = true := by rw [show pseudoB (tx xn) = false from hp]; simp
  by_cases h0 : tx xn = sHost
  · refine (applyQ0 i xn xv xs rb gA gC gF au (mkS ck) f W hr h0).mono fun e w' ⟨e1, e2⟩ => ⟨(xn, xv, xs), !au, e1, ?_, e2⟩
    unfold reqStep
    rw [if_neg hp', if_pos h0]
    cases au <;> rfl
  by_cases h1 : tx xn = sAuthz
  · refine (applyQ1 i xn xv xs rb gA gC gF au (mkS ck) f W hr h0 h1).mono fun e w' ⟨e1, e2⟩ => ⟨(xn, xv, true), true, e1, ?_, e2⟩
    unfold reqStep
    rw [if_neg hp', if_neg h0, if_pos h1]
    rfl
  by_cases h2 : tx xn = sCookie
  · refine (applyQ2 i xn xv xs rb gA gC gF au (mkS ck) f W hr h0 h1 h2).mono fun e w' ⟨e1, e2⟩ => ⟨(mkS sCookie, mkS ck, true), (i : Int) == f, e1, ?_, e2⟩
    unfold reqStep
    rw [if_neg hp', if_neg h0, if_neg h1, if_pos h2, first_eq hf hi h2]
    cases findL (l.take i) sCookie <;> rfl
  by_cases h3 : tx xn = sVia
  · refine (applyQ3 i xn xv xs rb gA gC gF au (mkS ck) f W hr h0 h1 h2 h3).mono fun e w' ⟨e1, e2⟩ => ⟨zeroHd, false, e1, ?_, e2⟩
    unfold reqStep
    rw [if_neg hp', if_neg h0, if_neg h1, if_neg h2, if_pos h3]
    rfl
  · refine (applyQ4 i xn xv xs rb gA gC gF au (mkS ck) f W hr h0 h1 h2 h3).mono fun e w' ⟨e1, e2⟩ => ⟨(xn, xv, xs), true, e1, ?_, e2⟩
    unfold reqStep
    rw [if_neg hp', if_neg h0, if_neg h1, if_neg h2, if_neg h3]
    rfl
theorem rulesP_ok {l : List Hd} {w : World} {rb : Nat} (h : RulesP w rb) : RulesOk resStep l rb 2 (fun W => Fr (fun _ => False) w W) := by
  refine ⟨fun W W' h1 h2 => h1.trans h2, fun W i hd hW hi hp => ?_, fun d hd hp => by unfold resStep; rw [if_pos hp]⟩
  have hr := h.fr hW (fun _ _ => id)
  obtain ⟨xn, xv, xs⟩ := hd
  have hp' : ¬ pseudoB (tx xn) = true := by rw [show pseudoB (tx xn) = false from hp]; simp
  by_cases h0 : tx xn = sSetC
  · refine (applyP0 i xn xv xs rb W hr h0).mono fun e w' ⟨e1, e2⟩ => ⟨(xn, xv, true), true, e1, ?_, e2⟩
    unfold resStep
    rw [if_neg hp', if_pos h0]
    rfl
  by_cases h3 : tx xn = sVia
  · refine (applyP1 i xn xv xs rb W hr h0 h3).mono fun e w' ⟨e1, e2⟩ => ⟨zeroHd, false, e1, ?_, e2⟩
    unfold resStep
    rw [if_neg hp', if_neg h0, if_pos h3]
    rfl
  · refine (applyP2 i xn xv xs rb W hr h0 h3).mono fun e w' ⟨e1, e2⟩ => ⟨(xn, xv, xs), true, e1, ?_, e2⟩
    unfold resStep
    rw [if_neg hp', if_neg h0, if_neg h3]
    rfl
/-- What requestRules answers. -/
def RulesAs (w : World) (l : List Hd) (ck : ByteArray) (e : Ending) (w' : World) : Prop := ∃ rb gA gC gF f, e = .returned (.slice (some ⟨rb, 0, none⟩) 4 4) ∧ RulesQ w' rb gA gC gF (hasO l sAuth) ck f ∧ FirstC l f ∧ Fr (fun _ => False) w w'
theorem find_auth (l : List Hd) : ∃ a, findV l (tx ⟨#[58, 97, 117, 116, 104, 111, 114, 105, 116, 121]⟩) = .tuple #[.string a, .bool (hasO l sAuth)] := by
  have e : tx ⟨#[58, 97, 117, 116, 104, 111, 114, 105, 116, 121]⟩ = sAuth := rfl
  rw [e]
  unfold findV hasO
  cases findL l sAuth with
  | none => exact ⟨_, rfl⟩
  | some v => exact ⟨_, rfl⟩
theorem rulesQ_new {w0 W1 w2 : World} (ck : ByteArray) (au : Bool) (f : Int) (hf : Fr (fun _ => False) (w0.alloc (.cells #[.string ck] 9)) W1) (hf2 : Fr (fun _ => False) (W1.alloc (.cells #[.bool au] 4)) w2) :
    RulesQ ((w2.alloc (.cells #[.int .i64 f] 3)).alloc (.cells #[.string ⟨#[104, 111, 115, 116]⟩, .func (.func 47) #[] #[.pointer (some ⟨W1.heap.size, 0, none⟩)], .string ⟨#[97, 117, 116, 104, 111, 114, 105, 122, 97, 116, 105, 111, 110]⟩, .func (.func 48) #[] #[], .string ⟨#[99, 111, 111, 107, 105, 101]⟩, .func (.func 49) #[] #[.pointer (some ⟨w0.heap.size, 0, none⟩), .pointer (some ⟨w2.heap.size, 0, none⟩)], .string ⟨#[118, 105, 97]⟩, .func (.func 50) #[] #[]] 86)) (w2.heap.size + 1) W1.heap.size w0.heap.size w2.heap.size au ck f := by
  have hc0 : (w0.alloc (.cells #[.string ck] 9)).heap[w0.heap.size]? = some (.cells #[.string ck] 9 (0, 0)) := heap_alloc_new _ _
  have ha0 : (W1.alloc (.cells #[.bool au] 4)).heap[W1.heap.size]? = some (.cells #[.bool au] 4 (0, 0)) := heap_alloc_new _ _
  have hc1 := (((((hf.alloc (.cells #[.bool au] 4)).trans hf2).alloc (.cells #[.int .i64 f] 3)).alloc (.cells #[.string ⟨#[104, 111, 115, 116]⟩, .func (.func 47) #[] #[.pointer (some ⟨W1.heap.size, 0, none⟩)], .string ⟨#[97, 117, 116, 104, 111, 114, 105, 122, 97, 116, 105, 111, 110]⟩, .func (.func 48) #[] #[], .string ⟨#[99, 111, 111, 107, 105, 101]⟩, .func (.func 49) #[] #[.pointer (some ⟨w0.heap.size, 0, none⟩), .pointer (some ⟨w2.heap.size, 0, none⟩)], .string ⟨#[118, 105, 97]⟩, .func (.func 50) #[] #[]] 86)).block _ (lt_of_heap hc0) id).trans hc0
  have ha1 := (((hf2.alloc (.cells #[.int .i64 f] 3)).alloc (.cells #[.string ⟨#[104, 111, 115, 116]⟩, .func (.func 47) #[] #[.pointer (some ⟨W1.heap.size, 0, none⟩)], .string ⟨#[97, 117, 116, 104, 111, 114, 105, 122, 97, 116, 105, 111, 110]⟩, .func (.func 48) #[] #[], .string ⟨#[99, 111, 111, 107, 105, 101]⟩, .func (.func 49) #[] #[.pointer (some ⟨w0.heap.size, 0, none⟩), .pointer (some ⟨w2.heap.size, 0, none⟩)], .string ⟨#[118, 105, 97]⟩, .func (.func 50) #[] #[]] 86)).block _ (lt_of_heap ha0) id).trans ha0
  refine ⟨?_, cell_of_heap ha1 rfl, cell_of_heap hc1 rfl, ?_⟩
  · have := heap_alloc_new (w2.alloc (.cells #[.int .i64 f] 3)) (.cells #[.string ⟨#[104, 111, 115, 116]⟩, .func (.func 47) #[] #[.pointer (some ⟨W1.heap.size, 0, none⟩)], .string ⟨#[97, 117, 116, 104, 111, 114, 105, 122, 97, 116, 105, 111, 110]⟩, .func (.func 48) #[] #[], .string ⟨#[99, 111, 111, 107, 105, 101]⟩, .func (.func 49) #[] #[.pointer (some ⟨w0.heap.size, 0, none⟩), .pointer (some ⟨w2.heap.size, 0, none⟩)], .string ⟨#[118, 105, 97]⟩, .func (.func 50) #[] #[]] 86)
    rwa [World.size_alloc] at this
  · have h1 := heap_alloc_new w2 (.cells #[.int .i64 f] 3)
    exact cell_of_heap ((((Fr.refl (fun _ => False) _).alloc _).block _ (lt_of_heap h1) id).trans h1) rfl
theorem rules_in (q : Option Addr) (c : Nat) (l : List Hd) (ck : ByteArray) (w : World) (hl : HL w q c l) :
    Calls Tryz.prog 23 #[.slice q l.length c, .string ck] w fun e w' => RulesAs w l ck e w' := by
  have HF0 : Hid (Fr (fun _ => False) w (w.alloc (.cells #[.string ck] 9))) := (Fr.refl _ _).alloc _
  have KF := Find_in q c l ⟨#[58, 97, 117, 116, 104, 111, 114, 105, 116, 121]⟩ (w.alloc (.cells #[.string ck] 9)) (hl.fr HF0.out)
  obtain ⟨av, hav⟩ := find_auth l
  rw [hav] at KF
  have KI : Hid (∀ W, Fr (fun _ => False) w W → Calls Tryz.prog 45 #[.slice q l.length c, .func (.func 46) #[] #[]] W fun e w' => IdxH l sCookie e ∧ Fr (fun _ => False) W w') := fun W f => indexC_in q c l W (hl.fr f)
  obtain ⟨au, hau⟩ : ∃ au, hasO l sAuth = au := ⟨_, rfl⟩
  have HAU : Hid (hasO l sAuth = au) := hau
  rw [hau] at KF
  clear hav hau hl
  go_enter Tryz.func23, Tryz.ntmps23
  go_wp2_with (fail)
  refine KF.mono ?_
  rintro e W1 ⟨rfl, f1⟩
  have HF1 : Hid (Fr (fun _ => False) (w.alloc (.cells #[.string ck] 9)) W1) := f1
  clear f1 KF
  go_wp2_with (fail)
  refine (KI.out _ ((HF0.out.trans HF1.out).alloc _)).mono ?_
  rintro e w2 ⟨hI, f2⟩
  have HF2 : Hid (Fr (fun _ => False) (W1.alloc (.cells #[.bool au] 4)) w2) := f2
  clear f2
  obtain ⟨f, rfl, hF⟩ : ∃ f, e = .returned (.int .i64 f) ∧ FirstC l f := by
    rcases hI with ⟨rfl, hn⟩ | ⟨i, h, rfl, h1, h2, h3⟩
    · exact ⟨_, rfl, .inl ⟨rfl, hn⟩⟩
    · exact ⟨_, rfl, .inr ⟨i, h, rfl, h1, h2, h3⟩⟩
  have HFC : Hid (FirstC l f) := hF
  clear hI hF
  go_wp2_with (fail)
  go_ret
  refine ⟨w2.heap.size + 1, W1.heap.size, w.heap.size, w2.heap.size, f, rfl, ?_, HFC.out, ?_⟩
  · rw [HAU.out]
    exact rulesQ_new ck au f HF1.out HF2.out
  · exact ((((HF0.out.trans HF1.out).alloc _).trans HF2.out).alloc _).alloc _
theorem rrules_in (w : World) : Calls Tryz.prog 29 #[] w fun e w' => e = .returned (.slice (some ⟨w.heap.size, 0, none⟩) 2 2) ∧ RulesP w' w.heap.size ∧ Fr (fun _ => False) w w' := by
  have HF0 : Hid (RulesP (w.alloc (.cells #[.string ⟨#[115, 101, 116, 45, 99, 111, 111, 107, 105, 101]⟩, .func (.func 48) #[] #[], .string ⟨#[118, 105, 97]⟩, .func (.func 50) #[] #[]] 86)) w.heap.size) := ⟨heap_alloc_new _ _⟩
  go_enter Tryz.func29, Tryz.ntmps29
  go_wp2_with (fail)
  go_ret
  exact ⟨rfl, HF0.out, (Fr.refl _ _).alloc _⟩
end Go.Proofs.YtplggcfoadjffaaGreatDoor
