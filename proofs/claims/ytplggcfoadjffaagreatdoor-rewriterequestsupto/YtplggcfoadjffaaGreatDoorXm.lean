/- Contracts of the program's Request and Response. -/
import Derived.Test.YtplggcfoadjffaaGreatDoorXk
import Derived.Test.YtplggcfoadjffaaGreatDoorXl
import Derived.Test.YtplggcfoadjffaaGreatDoorOq
namespace Go.Proofs.YtplggcfoadjffaaGreatDoor
open Go.RowKit
set_option linter.unusedVariables false
set_option maxRecDepth 100000
set_option maxHeartbeats 4000000

theorem HL.sizes {w : World} {q : Option Addr} {c : Nat} {l : List Hd} (h : HL w q c l) : ∀ x ∈ l, x.1.size < 2 ^ 47 ∧ x.2.1.size < 2 ^ 47 := fun x hm => by
  obtain ⟨r, hr', hxr⟩ := List.getElem_of_mem hm
  obtain ⟨_, _, _, _, _, _, _, s1, s2⟩ := h.cells r x (by rw [List.getElem?_eq_getElem hr', hxr])
  exact ⟨s1, s2⟩
theorem req_sizes {l : List Hd} (hs : ∀ x ∈ l, x.1.size < 2 ^ 47 ∧ x.2.1.size < 2 ^ 47) {au : Bool} {ck : List UInt8} (hc : ck.length ≤ 16384) : ∀ d h x, h ∈ l → x ∈ reqStep au ck d h → x.1.size < 2 ^ 47 ∧ x.2.1.size < 2 ^ 47 := by
  intro d h x hm hx
  have h0 := hs h hm
  unfold reqStep at hx
  split at hx
  · simp at hx
  split at hx
  · split at hx
    · simp at hx
    · simp at hx; subst hx; exact h0
  split at hx
  · simp at hx; subst hx; exact h0
  split at hx
  · split at hx
    · simp at hx
      subst hx
      refine ⟨?_, ?_⟩
      · show (mkS sCookie).size < _
        rw [mkS_size]; decide
      · show (mkS ck).size < _
        rw [mkS_size]; omega
    · simp at hx
  split at hx
  · simp at hx
  · simp at hx; subst hx; exact h0
theorem res_sizes {l : List Hd} (hs : ∀ x ∈ l, x.1.size < 2 ^ 47 ∧ x.2.1.size < 2 ^ 47) : ∀ d h x, h ∈ l → x ∈ resStep d h → x.1.size < 2 ^ 47 ∧ x.2.1.size < 2 ^ 47 := by
  intro d h x hm hx
  have h0 := hs h hm
  unfold resStep at hx
  split at hx
  · simp at hx
  split at hx
  · simp at hx; subst hx; exact h0
  split at hx
  · simp at hx
  · simp at hx; subst hx; exact h0
theorem PassAs.from {w w1 : World} {r : List Hd × Int} {e : Ending} {w' : World} (h : PassAs w1 r e w') (hf : Fr (fun _ => False) w w1) : PassAs w r e w' := by
  obtain ⟨q', c', h1, h2, h3⟩ := h
  exact ⟨q', c', h1, h2, hf.trans h3⟩
theorem xReq_in (q : Option Addr) (c : Nat) (l : List Hd) (name : ByteArray) (w : World) (hl : HL w q c l) (hE : ErrAt w) (hls : l.length * 40 + 400 ≤ 2 ^ 47) (hname : name.size < 2 ^ 60) :
    Calls Tryz.prog 7 #[.slice q l.length c, .string name] w fun e w' => PassAs w (rewReq l (tx name)) e w' := by
  have KQ := Request_in q c l w hl hE
  have HLW : Hid (HL w q c l) := hl
  by_cases h0 : requestO l = 0
  · rw [h0] at KQ
    have HR0 : Hid (requestO l = 0) := h0
    have KV : Hid (∀ W, Fr (fun _ => False) w W → Calls Tryz.prog 19 #[.slice q l.length c, .string ⟨#[99, 111, 111, 107, 105, 101]⟩] W fun e w' => ValsAs W (valuesB l sCookie) e w') := fun W f => values_in q c l ⟨#[99, 111, 111, 107, 105, 101]⟩ W (hl.fr f)
    have HM : Hid ((valuesB l sCookie).length * 40 < 2 ^ 47) := by have := valuesB_len l sCookie; show _ < _; omega
    have HCJ : Hid (joinL (tx ⟨#[59, 32]⟩) (((valuesB l sCookie).filter fullB).map tx) = cookieO l) := rfl
    have KR : Hid (∀ W (ck : ByteArray), Fr (fun _ => False) w W → Calls Tryz.prog 23 #[.slice q l.length c, .string ck] W fun e w' => RulesAs W l ck e w') := fun W ck f => rules_in q c l ck W (hl.fr f)
    have KP : Hid (∀ W rb gA gC gF f, RulesQ W rb gA gC gF (hasO l sAuth) (mkS (cookieO l)) f → FirstC l f → (cookieO l).length ≤ 16384 → Fr (fun _ => False) w W → Calls Tryz.prog 22 #[.slice q l.length c, .string name, .slice (some ⟨rb, 0, none⟩) 4 4] W fun e w' => PassAs W (passR (reqStep (hasO l sAuth) (cookieO l)) l (tx name)) e w') := fun W rb gA gC gF f hr hfc hck hf =>
      pass_in q c l name rb 4 (reqStep (hasO l sAuth) (cookieO l)) W (hl.fr hf) hls hname (rulesQ_ok hr hfc) (fun d h => reqStep_len _ _ d h) (req_sizes hl.sizes hck)
    obtain ⟨VS, hVS⟩ : ∃ VS, valuesB l sCookie = VS := ⟨_, rfl⟩
    rw [hVS] at KV HM HCJ
    obtain ⟨len, hlen⟩ : ∃ len, l.length = len := ⟨_, rfl⟩
    rw [hlen] at KQ KV KR KP ⊢
    clear hl hE h0 hVS hls hname hlen
    go_enter Tryz.func7, Tryz.ntmps7
    go_wp2_with (fail)
    refine KQ.mono ?_
    rintro e w1 ⟨rfl, f1⟩
    have HF1 : Hid (Fr (fun _ => False) w w1) := f1
    clear f1 KQ
    go_wp2_with (fail)
    refine (KV.out w1 HF1.out).mono ?_
    rintro e w2 ⟨va, vc, rfl, hO, hnew, hf2⟩
    have HO : Hid (OwnAt w2 9 (.slice va VS.length vc) (strV VS)) := hO
    have HK2 : Hid ((∀ k, (Value.slice va VS.length vc).ownBlock = some k → w.heap.size ≤ k) ∧ Fr (fun _ => False) w w2) := ⟨fun k hk => Nat.le_trans HF1.out.size (hnew k hk), HF1.out.trans hf2⟩
    have KD := delete_in va vc VS w2 hO HM.out
    clear hO hnew hf2 KV
    go_wp2_with (fail)
    refine KD.mono ?_
    rintro e w3 ⟨da, dc, rfl, hT, hf3⟩
    have HT : Hid (TxAt w3 da (VS.filter fullB)) := hT
    have HF3 : Hid (Fr (fun _ => False) w w3) := HK2.out.2.freshS hf3 HK2.out.1
    have KJ := join_in ⟨#[59, 32]⟩ da dc (VS.filter fullB) w3 hT (by have := HM.out; have := List.length_filter_le fullB VS; omega) rfl
    rw [HCJ.out] at KJ
    clear hT hf3 KD
    go_wp2_with (fail)
    refine KJ.mono ?_
    rintro e w4 ⟨he, hf4⟩
    have HF4 : Hid (Fr (fun _ => False) w w4) := HF3.out.trans hf4
    clear hf4 KJ
    by_cases hck : (cookieO l).length ≤ 16384
    · rw [if_pos hck] at he
      subst he
      have HCK : Hid ((cookieO l).length ≤ 16384) := hck
      have HRW : Hid (rewReq l (tx name) = passR (reqStep (hasO l sAuth) (cookieO l)) l (tx name)) := by show _ = _; unfold rewReq; rw [if_pos HR0.out, if_pos hck]
      clear hck
      have KR2 := KR.out w4 (mkS (cookieO l)) HF4.out
      go_wp2_with (fail)
      refine KR2.mono ?_
      rintro e w5 ⟨rb, gA, gC, gF, f, rfl, hr, hfc, hf5⟩
      have HF5 : Hid (Fr (fun _ => False) w w5) := HF4.out.trans hf5
      have KP2 := KP.out w5 rb gA gC gF f hr hfc HCK.out HF5.out
      clear hr hfc hf5 KR2
      go_wp2_with (fail)
      refine KP2.mono ?_
      rintro e w6 ⟨rq, rc, rfl, hH, hf6⟩
      have HH : Hid (HL w6 rq rc (passR (reqStep (hasO l sAuth) (cookieO l)) l (tx name)).1 ∧ Fr (fun _ => False) w w6) := ⟨hH, HF5.out.trans hf6⟩
      clear hH hf6 KP2
      go_wp2_with (fail)
      go_ret2
      rw [HRW.out]
      exact ⟨rq, rc, rfl, HH.out⟩
    · rw [if_neg hck] at he
      subst he
      have HRW : Hid (rewReq l (tx name) = ([], 2)) := by show _ = _; unfold rewReq; rw [if_pos HR0.out, if_neg hck]
      clear hck
      go_wp2_with (fail)
      go_ret2
      rw [HRW.out]
      exact ⟨none, 0, rfl, HL.nil _, HF4.out⟩
  · have HRW : Hid (rewReq l (tx name) = ([], requestO l)) := by show _ = _; unfold rewReq; rw [if_neg h0]
    obtain ⟨V, hV⟩ : ∃ V, requestO l = V := ⟨_, rfl⟩
    rw [hV] at KQ HRW h0
    obtain ⟨len, hlen⟩ : ∃ len, l.length = len := ⟨_, rfl⟩
    rw [hlen] at KQ ⊢
    clear hl hE hls hname hlen hV
    go_enter Tryz.func7, Tryz.ntmps7
    go_wp2_with (fail)
    refine KQ.mono ?_
    rintro e w1 ⟨rfl, f1⟩
    have HF1 : Hid (Fr (fun _ => False) w w1) := f1
    clear f1 KQ
    go_wp2_with (fail)
    go_ret2
    rw [HRW.out]
    exact ⟨none, 0, rfl, HL.nil _, HF1.out⟩
theorem xRes_in (q : Option Addr) (c : Nat) (l : List Hd) (name : ByteArray) (w : World) (hl : HL w q c l) (hE : ErrAt w) (hls : l.length * 40 + 400 ≤ 2 ^ 47) (hname : name.size < 2 ^ 60) :
    Calls Tryz.prog 11 #[.slice q l.length c, .string name] w fun e w' => PassAs w (rewRes l (tx name)) e w' := by
  have KQ := Response_in q c l w hl hE
  have KP : Hid (∀ W rb, RulesP W rb → Fr (fun _ => False) w W → Calls Tryz.prog 22 #[.slice q l.length c, .string name, .slice (some ⟨rb, 0, none⟩) 2 2] W fun e w' => PassAs W (passR resStep l (tx name)) e w') := fun W rb hr hf =>
    pass_in q c l name rb 2 resStep W (hl.fr hf) hls hname (rulesP_ok hr) (fun d h => resStep_len d h) (res_sizes hl.sizes)
  obtain ⟨st, hst⟩ : ∃ st, (((responseO l).1 : Nat) : Int) = st := ⟨_, rfl⟩
  rw [hst] at KQ
  obtain ⟨len, hlen⟩ : ∃ len, l.length = len := ⟨_, rfl⟩
  rw [hlen] at KQ KP ⊢
  clear hl hE hls hname hlen hst
  by_cases h0 : (responseO l).2 = 0
  · rw [h0] at KQ
    have HRW : Hid (rewRes l (tx name) = passR resStep l (tx name)) := by show _ = _; unfold rewRes; rw [if_pos h0]
    clear h0
    go_enter Tryz.func11, Tryz.ntmps11
    go_wp2_with (fail)
    refine KQ.mono ?_
    rintro e w1 ⟨rfl, f1⟩
    have HF1 : Hid (Fr (fun _ => False) w w1) := f1
    have KR := rrules_in w1
    clear f1 KQ
    go_wp2_with (fail)
    refine KR.mono ?_
    rintro e w5 ⟨rfl, hr, hf5⟩
    have HF5 : Hid (Fr (fun _ => False) w w5) := HF1.out.trans hf5
    have KP2 := KP.out w5 w1.heap.size hr HF5.out
    clear hr hf5 KR
    go_wp2_with (fail)
    refine KP2.mono ?_
    rintro e w6 ⟨rq, rc, rfl, hH, hf6⟩
    have HH : Hid (HL w6 rq rc (passR resStep l (tx name)).1 ∧ Fr (fun _ => False) w w6) := ⟨hH, HF5.out.trans hf6⟩
    clear hH hf6 KP2
    go_wp2_with (fail)
    go_ret2
    rw [HRW.out]
    exact ⟨rq, rc, rfl, HH.out⟩
  · have HRW : Hid (rewRes l (tx name) = ([], (responseO l).2)) := by show _ = _; unfold rewRes; rw [if_neg h0]
    obtain ⟨V, hV⟩ : ∃ V, (responseO l).2 = V := ⟨_, rfl⟩
    rw [hV] at KQ HRW h0
    clear hV
    go_enter Tryz.func11, Tryz.ntmps11
    go_wp2_with (fail)
    refine KQ.mono ?_
    rintro e w1 ⟨rfl, f1⟩
    have HF1 : Hid (Fr (fun _ => False) w w1) := f1
    clear f1 KQ
    go_wp2_with (fail)
    go_ret2
    rw [HRW.out]
    exact ⟨none, 0, rfl, HL.nil _, HF1.out⟩
end Go.Proofs.YtplggcfoadjffaaGreatDoor
