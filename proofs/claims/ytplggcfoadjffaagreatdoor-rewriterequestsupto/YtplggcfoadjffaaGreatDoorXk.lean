/- Headers passed on, with via behind them. -/
import Derived.Test.YtplggcfoadjffaaGreatDoorXj
import Derived.Test.YtplggcfoadjffaaGreatDoorXd
import Derived.Test.YtplggcfoadjffaaGreatDoorB1
namespace Go.Proofs.YtplggcfoadjffaaGreatDoor
open Go.RowKit
set_option linter.unusedVariables false
set_option maxRecDepth 100000
set_option maxHeartbeats 4000000
attribute [local go_sem] Oper.semAt_some

def PassAs (w : World) (r : List Hd × Int) (e : Ending) (w' : World) : Prop := ∃ q' c', e = .returned (.tuple #[.slice q' r.1.length c', .int .i64 r.2]) ∧ HL w' q' c' r.1 ∧ Fr (fun _ => False) w w'
theorem tx_two (s : ByteArray) : tx ((⟨#[50, 32]⟩ : ByteArray) ++ s) = twoL ++ tx s := by
  unfold tx
  simp [twoL]
theorem pseudos_in (q nq : Option Addr) (c nc n m : Nat) (w : World) : Calls Tryz.prog 42 #[.slice q n c, .slice nq m nc] w fun e w' => e = .returned (.func (.func 70) #[] #[.pointer (some ⟨w.heap.size + 1, 0, none⟩), .pointer (some ⟨w.heap.size, 0, none⟩)]) ∧ w' = (w.alloc (.cells #[.slice q n c] 22)).alloc (.cells #[.slice nq m nc] 42) := by
  go_enter Tryz.func42, Tryz.ntmps42
  go_wp2_with (fail)
  go_ret
  exact ⟨rfl, rfl⟩
theorem others_in (q : Option Addr) (c n rb rn : Nat) (w : World) : Calls Tryz.prog 43 #[.slice q n c, .slice (some ⟨rb, 0, none⟩) rn rn] w fun e w' => e = .returned (.func (.func 72) #[] #[.pointer (some ⟨w.heap.size, 0, none⟩), .pointer (some ⟨w.heap.size + 1, 0, none⟩)]) ∧ w' = (w.alloc (.cells #[.slice q n c] 22)).alloc (.cells #[.slice (some ⟨rb, 0, none⟩) rn rn] 49) := by
  go_enter Tryz.func43, Tryz.ntmps43
  go_wp2_with (fail)
  go_ret
  exact ⟨rfl, rfl⟩
theorem fr_old {S : Nat → Prop} {w W2 W : World} (h0 : Fr (fun _ => False) w W2) (h : Fr S W2 W) (hS : ∀ k, S k → w.heap.size ≤ k) : Fr (fun _ => False) w W :=
  ((h0.mono (T := fun k => w.heap.size ≤ k) (fun _ _ e => e.elim)).trans (h.mono (fun k _ e => hS k e))).mono (fun k hk e => by omega)
theorem fr_putH (w : World) (D : Nat) (o : Obj) : Fr (fun k => k = D) w (w.putObj D o) := by
  have h := grownBy_putObj' w D o
  exact ⟨h.os, h.tape, h.output, h.size, fun k hk hs => h.block k hk (fun e => hs (by cases e; rfl))⟩
theorem pass_len1 (step : List Hd → Hd → List Hd) (l : List Hd) (name : List UInt8) : 1 ≤ (passO step l name).length := by
  unfold passO
  simp only [List.length_append, List.length_cons, List.length_nil]
  omega
theorem pick_mem1 {l : List Hd} {ns : List (List UInt8)} {x : Hd} (h : x ∈ pickO l ns) : x ∈ l := by
  unfold pickO at h
  rw [List.mem_filterMap] at h
  obtain ⟨n, hn, hx⟩ := h
  exact (fst_mem hx).1
theorem gath_mem1 {f : List Hd → Hd → List Hd} : ∀ {l done : List Hd} {x : Hd}, x ∈ gathO f done l → ∃ h ∈ l, ∃ d, x ∈ f d h
  | [], done, x, hx => by simp [gathO] at hx
  | h :: t, done, x, hx => by
    rw [gathO, List.mem_append] at hx
    rcases hx with hx | hx
    · exact ⟨h, by simp, _, hx⟩
    · obtain ⟨y, hy, d, hd⟩ := gath_mem1 hx
      exact ⟨y, by simp [hy], d, hd⟩
theorem via_join (l : List Hd) (name : ByteArray) : joinL (tx ⟨#[44, 32]⟩) ((valuesB l sVia ++ [(⟨#[50, 32]⟩ : ByteArray) ++ name]).map tx) = viaO l (tx name) := by
  rw [List.map_append]
  unfold viaO
  rw [List.map_cons, tx_two]
  rfl
def allS : List ByteArray := [⟨#[58, 115, 116, 97, 116, 117, 115]⟩, ⟨#[58, 109, 101, 116, 104, 111, 100]⟩, ⟨#[58, 115, 99, 104, 101, 109, 101]⟩, ⟨#[58, 97, 117, 116, 104, 111, 114, 105, 116, 121]⟩, ⟨#[58, 112, 97, 116, 104]⟩, ⟨#[58, 112, 114, 111, 116, 111, 99, 111, 108]⟩]
theorem allS_tx : allS.map tx = allN := by decide
theorem texts_new (w : World) (zs : List ByteArray) : TxAt (w.alloc (.cells (strV zs).toArray 9)) (some ⟨w.heap.size, 0, none⟩) zs := fun r z hz => by
  refine ⟨w.heap.size, 0, rfl, by simp, cell_of_heap (heap_alloc_new w _) ?_⟩
  rw [Nat.zero_add]
  unfold strV
  simp [hz]
theorem pass_in (q : Option Addr) (c : Nat) (l : List Hd) (name : ByteArray) (rb rn : Nat) (step : List Hd → Hd → List Hd) (w : World) (hl : HL w q c l) (hls : l.length * 40 + 400 ≤ 2 ^ 47) (hname : name.size < 2 ^ 60)
    (hR : RulesOk step l rb rn (fun W => Fr (fun _ => False) w W)) (hone : ∀ d h, (step d h).length ≤ 1) (hsz : ∀ d h x, h ∈ l → x ∈ step d h → x.1.size < 2 ^ 47 ∧ x.2.1.size < 2 ^ 47) :
    Calls Tryz.prog 22 #[.slice q l.length c, .string name, .slice (some ⟨rb, 0, none⟩) rn rn] w fun e w' => PassAs w (passR step l (tx name)) e w' := by
  refine (callsIn_wide (n := 0)).1 ?_
  have HLW : Hid (HL w q c l) := hl
  have HRR : Hid (RulesOk step l rb rn (fun W => Fr (fun _ => False) w W)) := hR
  have HSZ : Hid ((∀ d h, (step d h).length ≤ 1) ∧ ∀ d h x, h ∈ l → x ∈ step d h → x.1.size < 2 ^ 47 ∧ x.2.1.size < 2 ^ 47) := ⟨hone, hsz⟩
  have KV := values_in q c l ⟨#[118, 105, 97]⟩ w hl
  have hvv : valuesB l (tx ⟨#[118, 105, 97]⟩) = valuesB l sVia := rfl
  rw [hvv] at KV
  obtain ⟨len, hlen⟩ : ∃ len, l.length = len := ⟨_, rfl⟩
  have HN : Hid (l.length = len) := hlen
  have HM : Hid ((valuesB l sVia).length * 40 < 2 ^ 47) := by have := valuesB_len l sVia; show _ < _; omega
  have HVJ : Hid (joinL (tx ⟨#[44, 32]⟩) ((valuesB l sVia ++ [(⟨#[50, 32]⟩ : ByteArray) ++ name]).map tx) = viaO l (tx name)) := via_join l name
  obtain ⟨VS, hVS⟩ : ∃ VS, valuesB l sVia = VS := ⟨_, rfl⟩
  rw [hVS] at KV HM HVJ
  rw [hlen] at KV hls ⊢
  have hcat : (((⟨#[50, 32]⟩ : ByteArray).size : Nat) : Int) + (name.size : Int) ≤ 9223372036854775807 := by
    have : (⟨#[50, 32]⟩ : ByteArray).size = 2 := rfl
    rw [this]
    omega
  clear hl hR hone hsz hVS hvv hlen hname
  refine callsIn_of_wp_marks Tryz.func22 rfl trivial ?_ rfl
  simp only [Tryz.ntmps22, List.size_toArray, List.length_cons, List.length_nil, Nat.reduceAdd, Nat.reduceSub, Array.replicate_succ, Array.replicate_zero, List.push_toArray, List.append_toArray, List.nil_append, List.cons_append]
  gi_wp2
  refine ⟨trivial, rfl, (callsIn_wide.2 KV).mono ?_⟩
  rintro e w1 ⟨va, vc, rfl, hO, hnew, hf1⟩
  have HO : Hid (OwnAt w1 9 (.slice va VS.length vc) (strV VS)) := hO
  have HK1 : Hid ((∀ k, (Value.slice va VS.length vc).ownBlock = some k → w.heap.size ≤ k) ∧ Fr (fun _ => False) w w1) := ⟨hnew, hf1⟩
  have KJ : Hid (∀ w4 a4 c4, OwnAt w4 9 (.slice a4 (VS.length + 1) c4) (strV (VS ++ [(⟨#[50, 32]⟩ : ByteArray) ++ name])) → Calls Tryz.prog 21 #[.string ⟨#[44, 32]⟩, .slice a4 (VS.length + 1) c4] w4 fun e w' => JoinAs w4 (viaO l (tx name)) e w') := fun w4 a4 c4 h4 => by
    have := join_in ⟨#[44, 32]⟩ a4 c4 (VS ++ [(⟨#[50, 32]⟩ : ByteArray) ++ name]) w4 h4.texts (by have := HM.out; rw [List.length_append]; simp; omega) rfl
    rw [HVJ.out, List.length_append] at this
    exact this
  clear hO hnew hf1 KV
  gi_wp2_with (refine wpListIn_addS rfl (.tmp 15) (.tmp 18) rfl (.slice va VS.length vc) VS ((⟨#[50, 32]⟩ : ByteArray) ++ name) (by go_simp) HO.out (by go_simp) HM.out ?_; intro a4 n4 c4 w4 N4 O4 F4 K4)
  obtain rfl := N4.out
  have HF4 : Hid (Fr (fun _ => False) w w4) := HK1.out.2.freshS F4.out HK1.out.1
  refine ⟨trivial, rfl, (callsIn_wide.2 (KJ.out w4 a4 c4 O4.out)).mono ?_⟩
  rintro e w5 ⟨he, hf5⟩
  have HF5 : Hid (Fr (fun _ => False) w w5) := HF4.out.trans hf5
  clear hf5 KJ HVJ
  by_cases hL : (viaO l (tx name)).length ≤ 16384
  · rw [if_pos hL] at he
    subst he
    have HL : Hid ((viaO l (tx name)).length ≤ 16384) := hL
    have HPR : Hid (passR step l (tx name) = (passO step l (tx name), 0)) := by show _ = _; unfold passR; rw [if_pos hL]
    obtain ⟨VT, hVT⟩ : ∃ VT, mkS (viaO l (tx name)) = VT := ⟨_, rfl⟩
    have HVT : Hid (mkS (viaO l (tx name)) = VT) := hVT
    rw [hVT]
    clear hL hVT
    obtain ⟨W6, hW6⟩ : ∃ W6, W6 = (w5.alloc (.cells #[.slice none 0 0] 22)).alloc (.cells #[.string ⟨#[58, 115, 116, 97, 116, 117, 115]⟩, .string ⟨#[58, 109, 101, 116, 104, 111, 100]⟩, .string ⟨#[58, 115, 99, 104, 101, 109, 101]⟩, .string ⟨#[58, 97, 117, 116, 104, 111, 114, 105, 116, 121]⟩, .string ⟨#[58, 112, 97, 116, 104]⟩, .string ⟨#[58, 112, 114, 111, 116, 111, 99, 111, 108]⟩] 9) := ⟨_, rfl⟩
    have KP := pseudos_in q (some ⟨w5.heap.size + 1, 0, none⟩) c 6 len 6 W6
    rw [show W6.heap.size = w5.heap.size + 2 by rw [hW6]; simp] at KP
    gi_wp2
    rw [← hW6]
    refine ⟨trivial, rfl, (callsIn_wide.2 KP).mono ?_⟩
    rintro e W7 ⟨rfl, hW7⟩
    --LOOPS
    have F7 : Hid (Fr (fun _ => False) w W7) := by rw [hW7, hW6]; exact (((HF5.out.alloc _).alloc _).alloc _).alloc _
    have B7 : Hid (W7.heap[w5.heap.size]? = some (.cells #[.slice none 0 0] 22 (0, 0))) := by rw [hW7, hW6]; exact pastH _ (pastH _ (pastH _ (heap_alloc_new w5 _)))
    have S7 : Hid (W7.heap.size = w5.heap.size + 4 ∧ w.heap.size ≤ w5.heap.size) := ⟨by rw [hW7, hW6]; simp, HF5.out.size⟩
    have Z7 : Hid (∀ W, Fr (fun k => k = w5.heap.size ∨ (Value.slice none 0 0).ownBlock = some k) W7 W → pseuZ (w5.heap.size + 2 + 1) (w5.heap.size + 2) (some ⟨w5.heap.size + 1, 0, none⟩) 6 allS q c l W) := fun W hf => by
      have no : ∀ k, k ≠ w5.heap.size → ¬ (k = w5.heap.size ∨ (Value.slice none 0 0).ownBlock = some k) := fun k hk e => by
        rcases e with e | e
        · exact hk e
        · simp [Value.ownBlock] at e
      refine ⟨fr_box (w := W7) ⟨42, ?_⟩ hf (no _ (by omega)), fr_box (w := W7) ⟨22, ?_⟩ hf (no _ (by omega)), ?_, ?_⟩
      · rw [hW7]; exact lastH _ (by rw [hW6]; simp)
      · rw [hW7, HN.out]; exact pastH _ (lastH _ (by rw [hW6]; simp))
      · refine TxAt.fr (w := W7) ?_ hf (fun b o e => no _ (by cases e; omega))
        refine TxAt.fr (S := fun _ => False) (w := W6) ?_ (by rw [hW7]; exact ((Fr.refl _ _).alloc _).alloc _) (fun _ _ _ => id)
        have ht := texts_new (w5.alloc (.cells #[.slice none 0 0] 22)) allS
        rw [World.size_alloc] at ht
        rw [hW6]
        exact ht
      · exact HLW.out.fr (fr_old F7.out hf (fun k e => by
          rcases e with e | e
          · rw [e]; exact S7.out.2
          · simp [Value.ownBlock] at e))
    have G7 : Hid (GatH W7 w5.heap.size (.slice none 0 0) ([] ++ (pickO l allN).take 0) (.slice none 0 0) W7) := ⟨B7.out, ⟨rfl, .inl ⟨rfl, rfl⟩⟩, .inl rfl, Fr.refl _ _⟩
    have PL : Hid ((pickO l allN).length ≤ 6 ∧ (gathO step [] l).length ≤ len) := ⟨List.length_filterMap_le _ _, by rw [← HN.out]; exact gathO_len HSZ.out.1 l []⟩
    clear hW7 hW6 KP
    gi_wp2
    refine range_law3 (gf := 70) (fs := #[]) (lb := #[.pointer (some ⟨w5.heap.size + 2 + 1, 0, none⟩), .pointer (some ⟨w5.heap.size + 2, 0, none⟩)]) rfl (enters_of Tryz.func70 (by kernel_rfl) rfl)
      (by have := pseu_tells (w5.heap.size + 2 + 1) (w5.heap.size + 2) (some ⟨w5.heap.size + 1, 0, none⟩) 6 allS q c l (by decide); rw [allS_tx] at this; exact this) (fun k args W h => by obtain ⟨h, -, rfl⟩ := h; rfl)
      (fun k W => ∃ v, GatH W7 w5.heap.size (.slice none 0 0) (([] : List Hd) ++ (pickO l allN).take k) v W)
      (fun k X1 Y1 row hs hg hr => by obtain ⟨v, h⟩ := hs; exact ⟨v, h.own hg hr⟩)
      (fun k W h => by obtain ⟨v, h⟩ := h; exact Z7.out W h.fr)
      ⟨_, G7.out⟩
      (fun k a' W => ∃ (h : Hd) (b : Nat), (pickO l allN)[k]? = some h ∧ W.heap[b]? = some (.cells #[.string h.1, .string h.2.1, .bool h.2.2] 35 (0, 0)) ∧ a' = { tmps := #[.slice q len c, .string name, .slice (some ⟨rb, 0, none⟩) rn rn, undef, undef, undef, .slice none 0 0, .int .i64 0, .string VT, .bool true, .pointer (some ⟨w5.heap.size, 0, none⟩), .pointer (some ⟨b, 0, none⟩), undef, .tuple #[.string VT, .bool true], .slice q len c, .slice va VS.length vc, .string name, .string ((⟨#[50, 32]⟩ : ByteArray) ++ name), .slice (some ⟨w1.heap.size, 0, none⟩) 1 1, .slice a4 (VS.length + 1) c4, .tuple #[.string VT, .bool true], .string VT, .bool true, .bool true, .bool false, .slice q len c, .slice (some ⟨w5.heap.size + 1, 0, none⟩) 6 6, .func (.func 70) #[] #[.pointer (some ⟨w5.heap.size + 2 + 1, 0, none⟩), .pointer (some ⟨w5.heap.size + 2, 0, none⟩)], .agg #[.string h.1, .string h.2.1, .bool h.2.2], undef, undef, undef, undef, undef, undef, undef, undef, undef, undef, undef, undef, undef, undef, undef, undef, undef], defers := [] })
      (fun k a' _ X1 Y1 row hs hg hr => by
        obtain ⟨h, b, e1, e2, e3⟩ := hs
        exact ⟨h, b, e1, ((Fr.of_ownH hg hr).block _ (lt_of_heap e2) (cells_notH e2)).trans e2, e3⟩)
      ?assign1 ?body1 ?done1
    case assign1 =>
      rintro ll k W args K hk ⟨v, hG⟩ ⟨h, hh, rfl⟩ hK
      gi_wp2
      exact hK _ _ (keepsH (S := fun _ => False) ((Fr.refl _ _).alloc _) (fun _ _ e _ => e.elim)) ⟨v, hG.later ((Fr.refl _ _).alloc _)⟩ ⟨h, _, hh, heap_alloc_new W _, rfl⟩
    case body1 =>
      rintro ll k a' W hl hk ⟨v, hG⟩ ⟨h, b, hh, hb, rfl⟩
      have HG : Hid (GatH W7 w5.heap.size (.slice none 0 0) (([] : List Hd) ++ (pickO l allN).take k) v W) := hG
      have HH : Hid (([] : List Hd) ++ (pickO l allN).take (k + 1) = (([] : List Hd) ++ (pickO l allN).take k) ++ [h]) := by
        show _ = _
        rw [List.take_add_one, hh]
        simp
      have HLE : Hid ((([] : List Hd) ++ (pickO l allN).take k).length * 40 < 2 ^ 47) := by have := PL.out.1; show _ < _; rw [List.length_append, List.length_take]; simp only [List.length_nil]; omega
      have q10 : W.cell? ⟨w5.heap.size, 0, none⟩ = some v := cell_of_heap hG.box rfl
      have z10 : W.frozen? ⟨w5.heap.size, 0, none⟩ = false := frozen_of_heap hG.box
      have k0 : W.cell? ⟨b, 0, none⟩ = some (.string h.1) := cell_of_heap hb rfl
      have k1 : W.cell? ⟨b, 1, none⟩ = some (.string h.2.1) := cell_of_heap hb rfl
      have k2 : W.cell? ⟨b, 2, none⟩ = some (.bool h.2.2) := cell_of_heap hb rfl
      obtain ⟨LL, hLL⟩ : ∃ LL, ([] : List Hd) ++ (pickO l allN).take k = LL := ⟨_, rfl⟩
      rw [hLL] at HG HH HLE
      have HADD : Hid (∀ v' w6, w6.ownsRow 0 35 3 v' (LL ++ [h]).length (cellsH (LL ++ [h])) → Fr (fun k => v.ownBlock = some k) W w6 → (v'.ownBlock = v.ownBlock ∨ ∃ k, v'.ownBlock = some k ∧ W.heap.size ≤ k) → w6.heap[w5.heap.size]? = some (.cells #[v] 22 (0, 0)) ∧ GatH W7 w5.heap.size (.slice none 0 0) (LL ++ [h]) v' (w6.setCell ⟨w5.heap.size, 0, none⟩ v') ∧ KeepsFrom W7.heap.size W (w6.setCell ⟨w5.heap.size, 0, none⟩ v')) := fun v' w6 h1 h2 h3 => HG.out.add h1 h2 h3
      clear hG hh hb hLL
      gi_wp2_with (refine wpListIn_addH rfl (.tmp 29) (.tmp 31) rfl v LL h (by go_simp) HG.out.row (by go_simp) HLE.out ?_; intro a6 n6 c6 w6 N6 O6 F6 K6; obtain ⟨B6, G6, P6⟩ := HADD.out _ w6 O6.out F6.out K6.out; have HG6 : Hid (GatH W7 w5.heap.size (.slice none 0 0) (LL ++ [h]) (.slice a6 n6 c6) (w6.setCell ⟨w5.heap.size, 0, none⟩ (.slice a6 n6 c6)) ∧ KeepsFrom W7.heap.size W (w6.setCell ⟨w5.heap.size, 0, none⟩ (.slice a6 n6 c6))) := ⟨G6, P6⟩; have q11 : w6.cell? ⟨w5.heap.size, 0, none⟩ = some v := cell_of_heap B6 rfl; have z11 : w6.frozen? ⟨w5.heap.size, 0, none⟩ = false := frozen_of_heap B6; clear B6 G6 P6)
      exact ⟨HG6.out.2, .slice a6 n6 c6, by rw [HH.out]; exact HG6.out.1⟩
    case done1 =>
      rintro D1 W8 hD1 ⟨vO, hG⟩ hK1
      rw [List.take_length, List.nil_append] at hG
      have HG1 : Hid (GatH W7 w5.heap.size (.slice none 0 0) (pickO l allN) vO W8) := hG
      have HD1 : Hid (W8.heap[D1]? = some (.deferred (some [])) ∧ W7.heap.size ≤ D1) := ⟨hK1, hD1⟩
      clear hG hK1 hD1 G7 Z7
      have KO := others_in q c len rb rn W8
      gi_wp2
      refine ⟨trivial, rfl, (callsIn_wide.2 KO).mono ?_⟩
      rintro e W9 ⟨rfl, hW9⟩
      have E9 : Hid (Fr (fun _ => False) W8 W9) := by rw [hW9]; exact ((Fr.refl _ _).alloc _).alloc _
      have HNV : Hid (∀ k, vO.ownBlock = some k → W7.heap.size ≤ k) := fun k hk => by
        rcases HG1.out.new with e | ⟨k', e, e2⟩
        · rw [e] at hk; simp [Value.ownBlock] at hk
        · rw [e] at hk; cases hk; exact e2
      have F8 : Hid (Fr (fun _ => False) w W8) := fr_old F7.out HG1.out.fr (fun k e => by
        rcases e with e | e
        · rw [e]; exact S7.out.2
        · simp [Value.ownBlock] at e)
      have F9 : Hid (Fr (fun _ => False) w W9) := F8.out.trans E9.out
      have X9 : Hid (W9.heap[W8.heap.size]? = some (.cells #[.slice q len c] 22 (0, 0)) ∧ W9.heap[W8.heap.size + 1]? = some (.cells #[.slice (some ⟨rb, 0, none⟩) rn rn] 49 (0, 0))) := ⟨by rw [hW9]; exact pastH _ (heap_alloc_new _ _), by rw [hW9]; exact lastH _ (by simp)⟩
      have G9 : Hid (GatH W9 w5.heap.size vO (pickO l allN ++ (gathO step [] l).take 0) vO W9) := by
        have h := HG1.out.later E9.out
        refine ⟨h.box, ?_, .inl rfl, Fr.refl _ _⟩
        rw [List.take_zero, List.append_nil]
        exact h.row
      have D9 : Hid (W9.heap[D1]? = some (.deferred (some []))) := (E9.out.block _ (lt_of_heap HD1.out.1) id).trans HD1.out.1
      have Z9 : Hid (∀ W, Fr (fun k => k = w5.heap.size ∨ vO.ownBlock = some k) W9 W → othZ W8.heap.size (W8.heap.size + 1) rb rn q c l (fun W => Fr (fun _ => False) w W) W) := fun W hf => by
        have hB8 : w5.heap.size < W8.heap.size := lt_of_heap HG1.out.box
        have no : ∀ k, W8.heap.size ≤ k → ¬ (k = w5.heap.size ∨ vO.ownBlock = some k) := fun k hk e => by
          rcases e with e | e
          · omega
          · have := (rowH_lt HG1.out.row k e).1
            omega
        have hfw : Fr (fun _ => False) w W := fr_old F9.out hf (fun k e => by
          rcases e with e | e
          · rw [e]; exact S7.out.2
          · have h1 := HNV.out k e
            have h2 := S7.out
            omega)
        refine ⟨fr_box (w := W9) ⟨_, by rw [HN.out]; exact X9.out.1⟩ hf (no _ (Nat.le_refl _)), fr_box (w := W9) ⟨_, X9.out.2⟩ hf (no _ (by omega)), HLW.out.fr hfw, hfw⟩
      clear hW9 KO
      gi_wp2
      refine range_law3 (gf := 72) (fs := #[]) (lb := #[.pointer (some ⟨W8.heap.size, 0, none⟩), .pointer (some ⟨W8.heap.size + 1, 0, none⟩)]) rfl (enters_of Tryz.func72 (by kernel_rfl) rfl)
        (oth_tells W8.heap.size (W8.heap.size + 1) rb rn q c l step (fun W => Fr (fun _ => False) w W) HRR.out) (fun k args W h => by obtain ⟨h, -, rfl⟩ := h; rfl)
        (fun k W => ∃ v, GatH W9 w5.heap.size vO (pickO l allN ++ (gathO step [] l).take k) v W)
        (fun k X1 Y1 row hs hg hr => by obtain ⟨v, h⟩ := hs; exact ⟨v, h.own hg hr⟩)
        (fun k W h => by obtain ⟨v, h⟩ := h; exact Z9.out W h.fr)
        ⟨_, G9.out⟩
        (fun k a' W => ∃ (h : Hd) (b : Nat), (gathO step [] l)[k]? = some h ∧ W.heap[b]? = some (.cells #[.string h.1, .string h.2.1, .bool h.2.2] 35 (0, 0)) ∧ a' = { tmps := #[.slice q len c, .string name, .slice (some ⟨rb, 0, none⟩) rn rn, undef, undef, undef, .slice none 0 0, .int .i64 0, .string VT, .bool true, .pointer (some ⟨w5.heap.size, 0, none⟩), undef, .pointer (some ⟨b, 0, none⟩), .tuple #[.string VT, .bool true], .slice q len c, .slice va VS.length vc, .string name, .string ((⟨#[50, 32]⟩ : ByteArray) ++ name), .slice (some ⟨w1.heap.size, 0, none⟩) 1 1, .slice a4 (VS.length + 1) c4, .tuple #[.string VT, .bool true], .string VT, .bool true, .bool true, .bool false, .slice q len c, .slice (some ⟨w5.heap.size + 1, 0, none⟩) 6 6, .func (.func 70) #[] #[.pointer (some ⟨w5.heap.size + 2 + 1, 0, none⟩), .pointer (some ⟨w5.heap.size + 2, 0, none⟩)], undef, undef, undef, undef, undef, .slice q len c, .slice (some ⟨rb, 0, none⟩) rn rn, .func (.func 72) #[] #[.pointer (some ⟨W8.heap.size, 0, none⟩), .pointer (some ⟨W8.heap.size + 1, 0, none⟩)], .agg #[.string h.1, .string h.2.1, .bool h.2.2], undef, undef, undef, undef, undef, undef, undef, undef, undef], defers := [] })
        (fun k a' _ X1 Y1 row hs hg hr => by
          obtain ⟨h, b, e1, e2, e3⟩ := hs
          exact ⟨h, b, e1, ((Fr.of_ownH hg hr).block _ (lt_of_heap e2) (cells_notH e2)).trans e2, e3⟩)
        ?assign2 ?body2 ?done2
      case assign2 =>
        rintro ll k W args K hk ⟨v, hG⟩ ⟨h, hh, rfl⟩ hK
        gi_wp2
        exact hK _ _ (keepsH (S := fun _ => False) ((Fr.refl _ _).alloc _) (fun _ _ e _ => e.elim)) ⟨v, hG.later ((Fr.refl _ _).alloc _)⟩ ⟨h, _, hh, heap_alloc_new W _, rfl⟩
      case body2 =>
        rintro ll k a' W hl hk ⟨v, hG⟩ ⟨h, b, hh, hb, rfl⟩
        have HG : Hid (GatH W9 w5.heap.size vO (pickO l allN ++ (gathO step [] l).take k) v W) := hG
        have HH : Hid (pickO l allN ++ (gathO step [] l).take (k + 1) = (pickO l allN ++ (gathO step [] l).take k) ++ [h]) := by
          show _ = _
          rw [List.take_add_one, hh]
          simp
        have HLE : Hid ((pickO l allN ++ (gathO step [] l).take k).length * 40 < 2 ^ 47) := by have := PL.out; show _ < _; rw [List.length_append, List.length_take]; omega
        have q10 : W.cell? ⟨w5.heap.size, 0, none⟩ = some v := cell_of_heap hG.box rfl
        have z10 : W.frozen? ⟨w5.heap.size, 0, none⟩ = false := frozen_of_heap hG.box
        have k0 : W.cell? ⟨b, 0, none⟩ = some (.string h.1) := cell_of_heap hb rfl
        have k1 : W.cell? ⟨b, 1, none⟩ = some (.string h.2.1) := cell_of_heap hb rfl
        have k2 : W.cell? ⟨b, 2, none⟩ = some (.bool h.2.2) := cell_of_heap hb rfl
        obtain ⟨LL, hLL⟩ : ∃ LL, pickO l allN ++ (gathO step [] l).take k = LL := ⟨_, rfl⟩
        rw [hLL] at HG HH HLE
        have HADD : Hid (∀ v' w6, w6.ownsRow 0 35 3 v' (LL ++ [h]).length (cellsH (LL ++ [h])) → Fr (fun k => v.ownBlock = some k) W w6 → (v'.ownBlock = v.ownBlock ∨ ∃ k, v'.ownBlock = some k ∧ W.heap.size ≤ k) → w6.heap[w5.heap.size]? = some (.cells #[v] 22 (0, 0)) ∧ GatH W9 w5.heap.size vO (LL ++ [h]) v' (w6.setCell ⟨w5.heap.size, 0, none⟩ v') ∧ KeepsFrom W9.heap.size W (w6.setCell ⟨w5.heap.size, 0, none⟩ v')) := fun v' w6 h1 h2 h3 => HG.out.add h1 h2 h3
        clear hG hh hb hLL
        gi_wp2_with (refine wpListIn_addH rfl (.tmp 37) (.tmp 39) rfl v LL h (by go_simp) HG.out.row (by go_simp) HLE.out ?_; intro a6 n6 c6 w6 N6 O6 F6 K6; obtain ⟨B6, G6, P6⟩ := HADD.out _ w6 O6.out F6.out K6.out; have HG6 : Hid (GatH W9 w5.heap.size vO (LL ++ [h]) (.slice a6 n6 c6) (w6.setCell ⟨w5.heap.size, 0, none⟩ (.slice a6 n6 c6)) ∧ KeepsFrom W9.heap.size W (w6.setCell ⟨w5.heap.size, 0, none⟩ (.slice a6 n6 c6))) := ⟨G6, P6⟩; have q11 : w6.cell? ⟨w5.heap.size, 0, none⟩ = some v := cell_of_heap B6 rfl; have z11 : w6.frozen? ⟨w5.heap.size, 0, none⟩ = false := frozen_of_heap B6; clear B6 G6 P6)
        exact ⟨HG6.out.2, .slice a6 n6 c6, by rw [HH.out]; exact HG6.out.1⟩
      case done2 =>
        rintro D2 W hD2 ⟨u, hG⟩ hK2
        rw [List.take_length] at hG
        have HG2 : Hid (GatH W9 w5.heap.size vO (pickO l allN ++ gathO step [] l) u W) := hG
        have HD2 : Hid (W.heap[D2]? = some (.deferred (some [])) ∧ W9.heap.size ≤ D2) := ⟨hK2, hD2⟩
        have DW : Hid (W.heap[D1]? = some (.deferred (some []))) := by
          refine (hG.fr.block _ (lt_of_heap D9.out) (fun e => ?_)).trans D9.out
          rcases e with e | e
          · have := HG1.out.box
            rw [← e, HD1.out.1] at this
            cases this
          · obtain ⟨-, cur, hc⟩ := rowH_lt HG1.out.row _ e
            rw [HD1.out.1] at hc
            cases hc
        have HNU : Hid (∀ k, u.ownBlock = some k → w.heap.size ≤ k) := fun k hk => by
          have h2 := S7.out
          rcases hG.new with e | ⟨k', e, e2⟩
          · have h1 := HNV.out k (by rw [← e]; exact hk)
            omega
          · rw [e] at hk
            cases hk
            have := F9.out.size
            omega
        have FW : Hid (Fr (fun _ => False) w W) := fr_old F9.out hG.fr (fun k e => by
          have h2 := S7.out
          rcases e with e | e
          · omega
          · have h1 := HNV.out k e
            omega)
        have q10 : W.cell? ⟨w5.heap.size, 0, none⟩ = some u := cell_of_heap hG.box rfl
        have HLE : Hid ((pickO l allN ++ gathO step [] l).length * 40 < 2 ^ 47) := by have := PL.out; show _ < _; rw [List.length_append]; omega
        have HNB : Hid (∀ k, u.ownBlock = some k → ∃ cur, W.heap[k]? = some (.cells cur 35 (0, 0))) := fun k hk => (rowH_lt hG.row k hk).2
        clear hG hK2 hD2 G9 Z9
        gi_wp2_with (refine wpListIn_addH rfl (.tmp 41) (.tmp 44) rfl u (pickO l allN ++ gathO step [] l) ((⟨#[118, 105, 97]⟩ : ByteArray), VT, false) (by go_simp) HG2.out.row (by go_simp) HLE.out ?_; intro a6 n6 c6 w6 N6 O6 F6 K6)
        obtain rfl := N6.out
        have R6 : Hid (w6.heap[D2]? = some (.deferred (some [])) ∧ w6.heap[D1]? = some (.deferred (some []))) := by
          refine ⟨(F6.out.block _ (lt_of_heap HD2.out.1) (fun e => ?_)).trans HD2.out.1, (F6.out.block _ (lt_of_heap DW.out) (fun e => ?_)).trans DW.out⟩
          · obtain ⟨cur, hc⟩ := HNB.out _ e
            rw [HD2.out.1] at hc
            cases hc
          · obtain ⟨cur, hc⟩ := HNB.out _ e
            rw [DW.out] at hc
            cases hc
        have hDD : D1 ≠ D2 := fun e => by
          have h1 := lt_of_heap HD1.out.1
          have h2 := HD2.out.2
          have h3 := E9.out.size
          omega
        refine ⟨by simp, .inl ⟨_, _, rfl, run_takeDeferred R6.out.1, ?_⟩⟩
        have P1 : (w6.putObj D2 (.deferred none)).heap[D1]? = some (.deferred (some [])) := (World.putObj_heap_other hDD).trans R6.out.2
        refine ⟨by simp, .inl ⟨_, _, rfl, run_takeDeferred P1, ?_⟩⟩
        have E1 : Fr (fun k => k = D2) w6 (w6.putObj D2 (.deferred none)) := fr_putH w6 D2 _
        have E2 : Fr (fun k => k = D1) (w6.putObj D2 (.deferred none)) ((w6.putObj D2 (.deferred none)).putObj D1 (.deferred none)) := fr_putH _ D1 _
        have hrow : ((w6.putObj D2 (.deferred none)).putObj D1 (.deferred none)).ownsRow 0 35 3 (.slice a6 ((pickO l allN ++ gathO step [] l).length + 1) c6) ((pickO l allN ++ gathO step [] l) ++ [((⟨#[118, 105, 97]⟩ : ByteArray), VT, false)]).length (cellsH ((pickO l allN ++ gathO step [] l) ++ [((⟨#[118, 105, 97]⟩ : ByteArray), VT, false)])) := by
          refine rowH_fr (rowH_fr O6.out E1 (fun k hk e => ?_)) E2 (fun k hk e => ?_)
          · have e' : k = D2 := e
            subst e'
            obtain ⟨-, cur, hc⟩ := rowH_lt O6.out _ hk
            rw [R6.out.1] at hc
            cases hc
          · have e' : k = D1 := e
            subst e'
            obtain ⟨-, cur, hc⟩ := rowH_lt O6.out _ hk
            rw [R6.out.2] at hc
            cases hc
        have hLL : (pickO l allN ++ gathO step [] l) ++ [((⟨#[118, 105, 97]⟩ : ByteArray), VT, false)] = passO step l (tx name) := by
          rw [← HVT.out]
          rfl
        rw [hLL] at hrow
        have hln : (pickO l allN ++ gathO step [] l).length + 1 = (passO step l (tx name)).length := by rw [← hLL]; simp only [List.length_append, List.length_singleton]
        rw [hln] at hrow ⊢
        obtain ⟨n1, hn1⟩ : ∃ n1, (passO step l (tx name)).length = n1 + 1 := ⟨(passO step l (tx name)).length - 1, by have := pass_len1 step l (tx name); omega⟩
        have hrow' := hrow
        rw [hn1] at hrow'
        obtain ⟨g7, cap7, e7⟩ := row_form hrow'
        rw [← hn1] at e7
        have e8 := Value.slice.inj e7
        obtain ⟨e8a, -, e8b⟩ := e8
        rw [e8a, e8b] at hrow ⊢
        refine ⟨.tuple #[.slice (some ⟨g7, 0, none⟩) (passO step l (tx name)).length cap7, .int .i64 0], by simp [results, Tryz.f22, go_sem], ?_⟩
        rw [HPR.out]
        refine ⟨_, _, rfl, hl_row hrow ?_ ?_, ?_⟩
        · have h1 := PL.out
          rw [← hln, List.length_append]
          omega
        · intro y hy
          have h0 : ∀ h ∈ l, h.1.size < 2 ^ 47 ∧ h.2.1.size < 2 ^ 47 := fun h hm => by
            obtain ⟨r, hr', hxr⟩ := List.getElem_of_mem hm
            obtain ⟨_, _, _, _, _, _, _, s1, s2⟩ := HLW.out.cells r h (by rw [List.getElem?_eq_getElem hr', hxr])
            exact ⟨s1, s2⟩
          rw [← hLL, List.mem_append, List.mem_append] at hy
          rcases hy with (hy | hy) | hy
          · exact h0 y (pick_mem1 hy)
          · obtain ⟨h, hm, d, hd⟩ := gath_mem1 hy
            exact HSZ.out.2 d h y hm hd
          · simp at hy
            subst hy
            refine ⟨by show (3 : Nat) < _; decide, ?_⟩
            show VT.size < _
            rw [← HVT.out, mkS_size]
            have := HL.out
            omega
        · have h9 := F9.out.size
          refine fr_old (fr_old (fr_old FW.out F6.out HNU.out) E1 (fun k e => ?_)) E2 (fun k e => ?_)
          · have e' : k = D2 := e
            have := HD2.out.2
            omega
          · have e' : k = D1 := e
            have := HD1.out.2
            have := F7.out.size
            omega
  · rw [if_neg hL] at he
    subst he
    have HPR : Hid (passR step l (tx name) = ([], 2)) := by show _ = _; unfold passR; rw [if_neg hL]
    clear hL
    gi_wp2
    refine ⟨.tuple #[.slice none 0 0, .int .i64 2], by simp [results, Tryz.f22, go_sem], ?_⟩
    rw [HPR.out]
    exact ⟨none, 0, rfl, HL.nil _, HF5.out⟩
end Go.Proofs.YtplggcfoadjffaaGreatDoor
