/- Trailers as they are passed on; the list of a status alone, the document's; the walk of RewriteTrailers. -/
import Derived.Test.YtplggcfoadjffaaDoorXo
import Derived.Test.YtplggcfoadjffaaDoorOw
import Derived.Test.YtplggcfoadjffaaDoorAv
import Derived.Test.YtplggcfoadjffaaDoorA2
import Derived.Laws.Cover3
namespace Go.Proofs.YtplggcfoadjffaaDoor
open Go.RowKit
set_option linter.unusedVariables false
set_option maxRecDepth 100000
set_option maxHeartbeats 8000000

def TraAs (w : World) (l : List Hd) (e : Ending) (w' : World) : Prop := ∃ q' c', e = .returned (.tuple #[.slice q' (if trailersO l = 0 then l else []).length c', .int .i64 (trailersO l)]) ∧ HL w' q' c' (if trailersO l = 0 then l else []) ∧ Fr (fun _ => False) w w'
def CloneAs (w : World) (l : List Hd) (e : Ending) (w' : World) : Prop := ∃ q' c', e = .returned (.slice q' l.length c') ∧ HL w' q' c' l ∧ Fr (fun _ => False) w w'
theorem clone_in (q : Option Addr) (c : Nat) (l : List Hd) (w : World) (hl : HL w q c l) : Calls Tryd.prog 14 #[.slice q l.length c] w fun e w' => CloneAs w l e w' := by
  have hnil : ∀ (a : Option Addr) (l c : Nat) (w : World), Sem.run Tryd.prog (binOp .eql 22 (.slice a l c) (.slice none 0 0)) w = .ok (.bool a.isNone) w := fun a l c w => by
    simp [binOp, run_equal_slice_nil w _ _ a l c Tryd.underlying22]
  cases q with
  | none =>
    have h0 : l = [] := by
      cases l with
      | nil => rfl
      | cons x t => obtain ⟨b, o, e, -⟩ := hl.cells 0 x rfl; cases e
    subst h0
    go_enter Tryd.func14, Tryd.ntmps14
    go_wp2_with (fail)
    go_ret
    exact ⟨none, 0, rfl, HL.nil _, Fr.refl _ _⟩
  | some a =>
    obtain ⟨q', c', w', hrun, hh, hb, -⟩ := copy_run hl
    have HH : Hid (HL w' q' c' l ∧ Fr (fun _ => False) w w') := ⟨hh, Fr.of_below hb⟩
    obtain ⟨len, hlen⟩ : ∃ len, l.length = len := ⟨_, rfl⟩
    have HN : Hid (l.length = len) := hlen
    rw [hlen] at hrun ⊢
    clear hl hh hb hlen
    go_enter Tryd.func14, Tryd.ntmps14
    go_wp2_with (refine wpList_append_run9 rfl (.tmp 5) (.tmp 6) 22 rfl _ _ _ rfl rfl hrun ?_)
    go_ret
    exact ⟨q', c', by rw [HN.out]; rfl, HH.out⟩
theorem xTra_in (q : Option Addr) (c : Nat) (l : List Hd) (w : World) (hl : HL w q c l) : Calls Tryd.prog 5 #[.slice q l.length c] w fun e w' => TraAs w l e w' := by
  have KT := Trailers_in q c l w hl
  have KC : Hid (∀ W, Fr (fun _ => False) w W → Calls Tryd.prog 14 #[.slice q l.length c] W fun e w' => CloneAs W l e w') := fun W f => clone_in q c l W (hl.fr f)
  unfold TraAs
  obtain ⟨V, hV⟩ : ∃ V, trailersO l = V := ⟨_, rfl⟩
  rw [hV] at KT ⊢
  by_cases h0 : V = 0
  · subst h0
    rw [if_pos rfl]
    obtain ⟨len, hlen⟩ : ∃ len, l.length = len := ⟨_, rfl⟩
    have HN : Hid (l.length = len) := hlen
    rw [hlen] at KT KC ⊢
    clear hl hV hlen
    go_enter Tryd.func5, Tryd.ntmps5
    go_wp2_with (fail)
    refine KT.mono ?_
    rintro e w1 ⟨rfl, f1⟩
    have HF1 : Hid (Fr (fun _ => False) w w1) := f1
    clear f1 KT
    go_wp2_with (fail)
    refine (KC.out w1 HF1.out).mono ?_
    rintro e w2 ⟨q', c', he2, hh, f2⟩
    rw [HN.out] at he2
    subst he2
    have HH : Hid (HL w2 q' c' l ∧ Fr (fun _ => False) w w2) := ⟨hh, HF1.out.trans f2⟩
    clear hh f2
    go_wp2_with (fail)
    go_ret2
    exact ⟨q', c', rfl, HH.out⟩
  · rw [if_neg h0]
    generalize l.length = len at KT ⊢
    clear hl hV KC
    go_enter Tryd.func5, Tryd.ntmps5
    go_wp2_with (fail)
    refine KT.mono ?_
    rintro e w1 ⟨rfl, f1⟩
    have HF1 : Hid (Fr (fun _ => False) w w1) := f1
    clear f1 KT
    go_wp2_with (fail)
    go_ret2
    exact ⟨none, 0, rfl, HL.nil _, HF1.out⟩
theorem rxTra_in (q : Option Addr) (c : Nat) (l : List Hd) (w : World) (hl : HL w q c l) : Calls Tryd.prog 6 #[.slice q l.length c] w fun e w' => TraAs w l e w' := by
  have KT := rTrailers_in q c l w hl
  have HLW : Hid (HL w q c l) := hl
  unfold TraAs
  obtain ⟨V, hV⟩ : ∃ V, trailersO l = V := ⟨_, rfl⟩
  rw [hV] at KT ⊢
  by_cases h0 : V = 0
  · subst h0
    rw [if_pos rfl]
    obtain ⟨len, hlen⟩ : ∃ len, l.length = len := ⟨_, rfl⟩
    have HN : Hid (l.length = len) := hlen
    rw [hlen] at KT ⊢
    clear hl hV hlen
    go_enter Tryd.func6, Tryd.ntmps6
    go_wp2_with (fail)
    refine KT.mono ?_
    rintro e w1 ⟨rfl, f1⟩
    obtain ⟨q', c', w', hrun, hh, hb, -⟩ := copy_run (HLW.out.fr f1)
    have HH : Hid (HL w' q' c' l ∧ Fr (fun _ => False) w w') := ⟨hh, f1.trans (Fr.of_below hb)⟩
    rw [HN.out] at hrun
    clear f1 KT hh hb
    go_wp2_with (refine wpList_append_run9 rfl (.tmp 10) (.tmp 11) 22 rfl _ _ _ rfl rfl hrun ?_)
    go_ret2
    exact ⟨q', c', rfl, HH.out⟩
  · rw [if_neg h0]
    generalize l.length = len at KT ⊢
    clear hl hV
    go_enter Tryd.func6, Tryd.ntmps6
    go_wp2_with (fail)
    refine KT.mono ?_
    rintro e w1 ⟨rfl, f1⟩
    have HF1 : Hid (Fr (fun _ => False) w w1) := f1
    clear f1 KT
    go_wp2_with (fail)
    go_ret2
    exact ⟨none, 0, rfl, HL.nil _, HF1.out⟩
/-- Three bytes as a text. -/
theorem three_text (a b c : UInt8) (x y z : Int) (ha : (a.toNat : Int) = x) (hb : (b.toNat : Int) = y) (hc : (c.toNat : Int) = z) (w : World) : (convert 39 9 (.slice (some ⟨w.heap.size, 0, none⟩) 3 3)).run Tryd.prog (w.alloc (.cells #[.int .u8 x, .int .u8 y, .int .u8 z] 5)) = .ok (.string ⟨#[a, b, c]⟩) (w.alloc (.cells #[.int .u8 x, .int .u8 y, .int .u8 z] 5)) := by
  have hs : SrcAt (w.alloc (.cells #[.int .u8 x, .int .u8 y, .int .u8 z] 5)) (some ⟨w.heap.size, 0, none⟩) [a, b, c] := by
    intro j d hj
    refine ⟨_, rfl, ?_⟩
    rw [add_none, Nat.zero_add]
    match j, hj with
    | 0, hj => simp at hj; subst hj; rw [ha]; exact cell_of_heap (i := 0) (heap_alloc_new w _) rfl
    | 1, hj => simp at hj; subst hj; rw [hb]; exact cell_of_heap (i := 1) (heap_alloc_new w _) rfl
    | 2, hj => simp at hj; subst hj; rw [hc]; exact cell_of_heap (i := 2) (heap_alloc_new w _) rfl
    | j + 3, hj => simp at hj
  exact string_of 39 9 5 Tryd.underlying39 Tryd.underlying9 Tryd.underlying5 hs _ _ rfl
theorem dig_nat (d : Nat) (h : d < 10) : ((UInt8.ofNat (48 + d)).toNat : Int) = 48 + (d : Int) := by
  rw [UInt8.toNat_ofNat']
  omega
theorem rplain_in (z : Int) (w : World) (hz0 : -9223372036854775808 ≤ z) (hz1 : z ≤ 9223372036854775807) : Calls Tryd.prog 9 #[.int .i64 z] w fun e w' => PlainAs w [(statusS, mkS (statL z), false)] e w' := by
  have hr := rest_lt z
  have hm := tmod_rest z
  rw [statL_rest]
  obtain ⟨r, hR⟩ : ∃ r, restN z = r := ⟨_, rfl⟩
  rw [hR] at hr hm ⊢
  obtain ⟨a, haa⟩ : ∃ a, r / 100 = a := ⟨_, rfl⟩
  obtain ⟨b, hbb⟩ : ∃ b, r / 10 = b := ⟨_, rfl⟩
  obtain ⟨b2, hbb2⟩ : ∃ b2, b % 10 = b2 := ⟨_, rfl⟩
  obtain ⟨c, hcc⟩ : ∃ c, r % 10 = c := ⟨_, rfl⟩
  rw [haa, hbb, hbb2, hcc]
  have e1 : (r : Int).tdiv 100 = (a : Int) := by rw [Int.tdiv_eq_ediv_of_nonneg (by omega)]; omega
  have e2 : (r : Int).tdiv 10 = (b : Int) := by rw [Int.tdiv_eq_ediv_of_nonneg (by omega)]; omega
  have e3 : (b : Int).tmod 10 = (b2 : Int) := by rw [Int.tmod_eq_emod_of_nonneg (by omega)]; omega
  have e4 : (r : Int).tmod 10 = (c : Int) := by rw [Int.tmod_eq_emod_of_nonneg (by omega)]; omega
  have e5 : (r : Int) / 100 = (a : Int) := by omega
  have e6 : (r : Int) / 10 = (b : Int) := by omega
  have e7 : (b : Int) % 10 = (b2 : Int) := by omega
  have e8 : (r : Int) % 10 = (c : Int) := by omega
  have k1 : a < 10 := by omega
  have k2 : b2 < 10 := by omega
  have k3 : c < 10 := by omega
  have hrb : (r : Int) ≤ 9223372036854775807 := by omega
  have hbb9 : (b : Int) ≤ 9223372036854775807 := by omega
  have hr0 : (0 : Int) ≤ (r : Int) := by omega
  have hb0 : (0 : Int) ≤ (b : Int) := by omega
  have hcv := three_text _ _ _ _ _ _ (dig_nat a k1) (dig_nat b2 k2) (dig_nat c k3) w
  obtain ⟨d1, h1⟩ : ∃ d, UInt8.ofNat (48 + a) = d := ⟨_, rfl⟩
  obtain ⟨d2, h2⟩ : ∃ d, UInt8.ofNat (48 + b2) = d := ⟨_, rfl⟩
  obtain ⟨d3, h3⟩ : ∃ d, UInt8.ofNat (48 + c) = d := ⟨_, rfl⟩
  rw [h1, h2, h3] at hcv ⊢
  have u1 : IntKind.u8.wrap (48 + (a : Int)) = 48 + (a : Int) := by unfold IntKind.wrap; simp [IntKind.bits, IntKind.signed]; omega
  have u2 : IntKind.u8.wrap (48 + (b2 : Int)) = 48 + (b2 : Int) := by unfold IntKind.wrap; simp [IntKind.bits, IntKind.signed]; omega
  have u3 : IntKind.u8.wrap (48 + (c : Int)) = 48 + (c : Int) := by unfold IntKind.wrap; simp [IntKind.bits, IntKind.signed]; omega
  clear h1 h2 h3 hR haa hbb hbb2 hcc
  have hb1 : -1000 < z.tmod 1000 := by have := Int.lt_tmod_of_pos z (by decide : (0 : Int) < 1000); omega
  have hb2 : z.tmod 1000 < 1000 := Int.tmod_lt_of_pos z (by decide)
  have hw1 : wrap64 (z.tmod 1000 + 1000) = z.tmod 1000 + 1000 := by unfold wrap64; omega
  have HF : Hid (Fr (fun _ => False) w (w.alloc (.cells #[.int .u8 (48 + (a : Int)), .int .u8 (48 + (b2 : Int)), .int .u8 (48 + (c : Int))] 5))) := (Fr.refl _ _).alloc _
  go_enter Tryd.func9, Tryd.ntmps9
  go_wp2_with (fail)
  go_ret
  have h9 := hl_one (w.alloc (.cells #[.int .u8 (48 + (a : Int)), .int .u8 (48 + (b2 : Int)), .int .u8 (48 + (c : Int))] 5)) statusS (mkS [d1, d2, d3]) false (by decide) (by rw [mkS_size]; simp)
  rw [World.size_alloc] at h9
  exact ⟨_, rfl, h9, HF.out.alloc _⟩
theorem trailers_walk14 (q : Option Addr) (c : Nat) (l : List Hd) (z : Int) (w : World) (hl : HL w q c l) (hP : PowAt w) (hz0 : -9223372036854775808 ≤ z) (hz1 : z ≤ 9223372036854775807) :
    Calls Tryd.prog 3 #[.slice q l.length c, .int .i64 z] w fun e w' => e = .returned (.bool true) ∧ Below w.heap.size w w' := by
  have K1 := xTra_in q c l w hl
  have K2 : Hid (∀ W, Fr (fun _ => False) w W → Calls Tryd.prog 6 #[.slice q l.length c] W fun e w' => TraAs W l e w') := fun W f => rxTra_in q c l W (hl.fr f)
  have K3 : Hid (∀ W, Fr (fun _ => False) w W → Calls Tryd.prog 8 #[.int .i64 z] W fun e w' => PlainAs W [(statusS, mkS (statL z), false)] e w') := fun W f => plain_in z W (hP.fr f) hz0 hz1
  have K4 : Hid (∀ W, Calls Tryd.prog 9 #[.int .i64 z] W fun e w' => PlainAs W [(statusS, mkS (statL z), false)] e w') := fun W => rplain_in z W hz0 hz1
  have KA : Hid (∀ W, Fr (fun _ => False) w W → Calls Tryd.prog 10 #[] W fun e w' => e = .returned (.bool true) ∧ Fr (fun _ => False) W w') := fun W f => awake14_in W (hP.fr f)
  unfold TraAs at K1 K2
  obtain ⟨V, hV⟩ : ∃ V, trailersO l = V := ⟨_, rfl⟩
  rw [hV] at K1 K2
  obtain ⟨L, hL⟩ : ∃ L, (if V = 0 then l else []) = L := ⟨_, rfl⟩
  rw [hL] at K1 K2
  generalize l.length = len at K1 K2 ⊢
  clear hl hP hV hL
  have hvv : (V == V) = true := beq_self_eq_true _
  go_enter Tryd.func3, Tryd.ntmps3
  go_wp2_with (fail)
  refine K1.mono ?_
  rintro e w1 ⟨q1, c1, rfl, h1, f1⟩
  have HF1 : Hid (Fr (fun _ => False) w w1) := f1
  have HH1 : Hid (HL w1 q1 c1 L) := h1
  clear f1 h1 K1
  go_wp2_with (fail)
  refine (K2.out w1 HF1.out).mono ?_
  rintro e w2 ⟨q2, c2, rfl, h2, f2⟩
  have HF2 : Hid (Fr (fun _ => False) w w2) := HF1.out.trans f2
  have KH := headers_in q1 q2 c1 c2 L w2 (HH1.out.fr f2) h2
  clear f2 h2 K2
  go_wp2_with (fail)
  refine KH.mono ?_
  rintro e w3 ⟨rfl, f3⟩
  have HF3 : Hid (Fr (fun _ => False) w w3) := HF2.out.trans f3
  clear f3 KH
  go_wp2_with (fail)
  refine (K3.out w3 HF3.out).mono ?_
  rintro e w4 ⟨g4, rfl, h4, f4⟩
  have HF4 : Hid (Fr (fun _ => False) w w4) := HF3.out.trans f4
  have HH4 : Hid (HL w4 (some ⟨g4, 0, none⟩) 1 [(statusS, mkS (statL z), false)]) := h4
  clear f4 h4
  go_wp2_with (fail)
  refine (K4.out w4).mono ?_
  rintro e w5 ⟨g5, rfl, h5, f5⟩
  have HF5 : Hid (Fr (fun _ => False) w w5) := HF4.out.trans f5
  have KH2 := headers_in _ _ _ _ [(statusS, mkS (statL z), false)] w5 (HH4.out.fr f5) h5
  clear f5 h5
  go_wp2_with (fail)
  refine KH2.mono ?_
  rintro e w6 ⟨rfl, f6⟩
  have HF6 : Hid (Fr (fun _ => False) w w6) := HF5.out.trans f6
  clear f6 KH2
  go_wp2_with (fail)
  refine (KA.out w6 HF6.out).mono ?_
  rintro e w7 ⟨rfl, f7⟩
  have HF7 : Hid (Fr (fun _ => False) w w7) := HF6.out.trans f7
  clear f7
  go_wp2_with (fail)
  go_ret
  exact ⟨rfl, HF7.out.below (fun _ _ h => h)⟩
end Go.Proofs.YtplggcfoadjffaaDoor
