/- The walk of RewriteVia. -/
import Derived.Test.YtplggcfoadjffabGreatDoorXm
import Derived.Test.YtplggcfoadjffabGreatDoorXo
import Derived.Test.YtplggcfoadjffabGreatDoorXu
import Derived.Test.YtplggcfoadjffabGreatDoorA2
namespace Go.Proofs.YtplggcfoadjffabGreatDoor
open Go.RowKit
set_option linter.unusedVariables false
set_option maxRecDepth 100000
set_option maxHeartbeats 8000000

theorem tx_catV (a b : ByteArray) : tx (a ++ b) = tx a ++ tx b := by
  unfold tx
  simp
/-- A copy of a list, in a row of one's own. -/
theorem copy_rowN {w : World} {q : Option Addr} {c : Nat} {l : List Hd} (h : HL w q c l) :
    ∃ (q' : Option Addr) (c' : Nat) (w' : World), (Builtin.append_ #[22, 22] 22 #[.slice (some ⟨w.heap.size, 0, none⟩) 0 0, .slice q l.length c]).run Tryz.prog (w.alloc (.cells #[] 25)) = .ok (.slice q' l.length c') w' ∧ Hid (RowN w (.slice q' l.length c') l w') := by
  obtain ⟨i, hi, hz0, hz1, hz2⟩ := info_parts info_hd
  have hf0 : Fr (fun _ => False) w (w.alloc (.cells #[] 25)) := (Fr.refl _ _).alloc _
  have hlit := World.ownsRow_lit (base := 0) (e := 25) (size := 3) w #[] 0 (Nat.zero_le _) (by decide) rfl
  have h0 := h.fr hf0
  have hfew := h.few
  by_cases hl0 : l = []
  · subst hl0
    have hs : Src Tryz.prog i.size 22 (.slice q 0 c) 0 [] (w.alloc (.cells #[] 25)) := by
      cases q with
      | none => exact Src.ofNil _ Tryz.underlying22 c
      | some a => exact Src.ofSlice _ Tryz.underlying22 a 0 c [] (by simp) (fun j u hj => by simp at hj) (fun u hu => by cases hu)
    exact ⟨_, _, _, run_append_nothing _ 22 22 22 25 i Tryz.underlying22 hi _ 0 0 (Nat.le_refl _) _ hs, hlit, fun k hk => by simp [Value.ownBlock] at hk; omega, hf0⟩
  · have hpos : 0 < l.length := List.length_pos_iff.2 hl0
    obtain ⟨b, o, rfl, -⟩ := h0.cells 0 l[0] (List.getElem?_eq_getElem hpos)
    have hnews : ∀ (j : Nat) (x : Value), (cellsH l)[j]? = some x → (w.alloc (.cells #[] 25)).cell? ((⟨b, o, none⟩ : Addr).add j) = some x := fun j x hj => by
      rw [add_none]
      obtain ⟨r, y, hr, hx⟩ := cellsH_get hj
      obtain ⟨b', o', e, -, k0, k1, k2, -⟩ := h0.cells r y hr
      cases e
      rcases hx with ⟨rfl, rfl⟩ | ⟨rfl, rfl⟩ | ⟨rfl, rfl⟩
      · exact k0
      · rw [← Nat.add_assoc]; exact k1
      · rw [← Nat.add_assoc]; exact k2
    have hby : ((0 + l.length) + (0 + l.length) / 4 + 192) * 40 ≤ 281474976710656 := by omega
    obtain ⟨v', w', hr, ho, hg, hiff⟩ := run_append_own_wide (P := Tryz.prog) _ 0 22 22 25 i (.agg #[.string ⟨#[]⟩, .string ⟨#[]⟩, .bool false]) 3 40 Tryz.underlying22 hi hz0 hz1 hz2 rfl (by decide) _ 0 _ hlit ⟨b, o, none⟩ l.length c (cellsH l) (by rw [cellsH_length]) hnews (cellsH_one l) (by simp only [maxLen]; omega) hby (Nat.zero_le _)
    have hlit' := hlit
    rw [← hz1] at hlit'
    have hwh := append_where (P := Tryz.prog) _ 22 22 25 i (.agg #[.string ⟨#[]⟩, .string ⟨#[]⟩, .bool false]) Tryz.underlying22 hi hz0 _ 0 _ hlit' ⟨b, o, none⟩ l.length c (cellsH l) (by rw [cellsH_length, hz1]) hnews (cellsH_one l) hpos (by omega) (by rw [hz2]; exact hby) v' w' hr
    rw [Nat.zero_add] at ho
    obtain ⟨n1, hn1⟩ : ∃ n1, l.length = n1 + 1 := ⟨l.length - 1, by omega⟩
    have ho' := ho
    rw [hn1] at ho'
    obtain ⟨g7, cap7, rfl⟩ := row_form ho'
    rw [← hn1] at hr ho hwh hiff
    have hg7 : w.heap.size ≤ g7 := by
      rcases hwh with e | e
      · simp [Value.ownBlock] at e; omega
      · simp [Value.ownBlock] at e; omega
    refine ⟨_, cap7, w', hr, ⟨by simpa using ho, fun k hk => by simp [Value.ownBlock] at hk; omega, ?_⟩⟩
    have h2 : Fr (fun k => (Value.slice (some ⟨w.heap.size, 0, none⟩) 0 0).ownBlock = some k) (w.alloc (.cells #[] 25)) w' := Fr.of_grown hg
    exact ((hf0.mono (T := fun k => w.heap.size ≤ k) (fun _ _ e => e.elim)).trans (h2.mono (fun k _ e => by simp [Value.ownBlock] at e; omega))).mono (fun k hk e => by omega)
def viaB : ByteArray := ⟨#[118, 105, 97]⟩
def viaL (VS : List ByteArray) : List Hd := VS.map fun v => (viaB, v, false)
theorem viaL_vals (VS : List ByteArray) : valuesB (viaL VS) sVia = VS := by
  unfold valuesB viaL
  induction VS with
  | nil => rfl
  | cons v t ih =>
    rw [List.map_cons, List.filter_cons]
    have : (tx ((viaB, v, false) : Hd).1 == sVia) = true := rfl
    rw [this]
    simp only [if_true, List.map_cons, ih]
def wantL (VS : List ByteArray) : List UInt8 := VS.flatMap fun v => tx v ++ commaL
theorem via_want {l : List Hd} {VS : List ByteArray} (h : findL l sVia = none) : viaO (l ++ viaL VS) [112] = wantL VS ++ [50, 32, 112] := by
  unfold viaO
  rw [valuesB_append, valuesB_none h, viaL_vals, List.nil_append, join_vias]
  unfold wantL twoL
  rw [List.flatMap_map]
  rfl
theorem rewReq_via {Q : List Hd} (h : (rewReq Q [112]).2 = 0) : cntV (rewReq Q [112]).1 = 1 ∧ (rewReq Q [112]).1[(rewReq Q [112]).1.length - 1]? = some (viaB, mkS (viaO Q [112]), false) ∧ 1 ≤ (rewReq Q [112]).1.length := by
  by_cases h0 : requestO Q = 0
  · by_cases h1 : (cookieO Q).length ≤ 16384
    · by_cases h2 : (viaO Q [112]).length ≤ 16384
      · have e : (rewReq Q [112]).1 = passO (reqStep (hasO Q sAuth) (cookieO Q)) Q [112] := by unfold rewReq passR; rw [if_pos h0, if_pos h1, if_pos h2]
        rw [e]
        exact ⟨one_via Q [112] _ _, pass_last Q [112], pass_len Q [112]⟩
      · unfold rewReq passR at h; rw [if_pos h0, if_pos h1, if_neg h2] at h; simp at h
    · unfold rewReq at h; rw [if_pos h0, if_neg h1] at h; simp at h
  · unfold rewReq at h; rw [if_neg h0] at h; exact absurd h h0
theorem byte_textV (B : UInt8) (z : Int) (hz : (B.toNat : Int) = z) (w : World) : (convert 23 9 (.slice (some ⟨w.heap.size, 0, none⟩) 1 1)).run Tryz.prog (w.alloc (.cells #[.int .u8 z] 5)) = .ok (.string ⟨#[B]⟩) (w.alloc (.cells #[.int .u8 z] 5)) := by
  have hs : SrcAt (w.alloc (.cells #[.int .u8 z] 5)) (some ⟨w.heap.size, 0, none⟩) [B] := by
    intro j c hj
    cases j with
    | succ j => simp at hj
    | zero =>
      simp at hj
      subst hj
      refine ⟨_, rfl, ?_⟩
      rw [add_none, hz]
      exact cell_of_heap (i := 0) (v := .int .u8 z) (heap_alloc_new w (.cells #[.int .u8 z] 5)) rfl
  exact string_of 23 9 5 Tryz.underlying23 Tryz.underlying9 Tryz.underlying5 hs _ _ rfl
/-- How far the gathering is. -/
structure ViaS (w : World) (l : List Hd) (i : Nat) (v : Value) (s : ByteArray) (VS : List ByteArray) (W : World) : Prop where
  row : RowN w v (l ++ viaL VS) W
  len : VS.length = i
  txt : tx s = wantL VS
  sz : s.size = 5 * i
  small : ∀ v ∈ VS, v.size = 3
theorem ViaS.hl {w : World} {l : List Hd} {i : Nat} {a : Option Addr} {n c : Nat} {s : ByteArray} {VS : List ByteArray} {W : World} (h : ViaS w l i (.slice a n c) s VS W) (hi : i ≤ 20) (hl : l.length * 40 + 4096 ≤ 2 ^ 47) (hs : ∀ x ∈ l, x.1.size < 2 ^ 47 ∧ x.2.1.size < 2 ^ 47) : n = (l ++ viaL VS).length ∧ HL W a c (l ++ viaL VS) ∧ (l ++ viaL VS).length * 40 + 400 ≤ 2 ^ 47 := by
  have hlen : (l ++ viaL VS).length = l.length + i := by rw [List.length_append]; unfold viaL; rw [List.length_map, h.len]
  obtain ⟨h1, h2⟩ := h.row.hl (by omega) (fun y hy => by
    rw [List.mem_append] at hy
    rcases hy with hy | hy
    · exact hs y hy
    · unfold viaL at hy
      rw [List.mem_map] at hy
      obtain ⟨v, hv, rfl⟩ := hy
      have := h.small v hv
      exact ⟨by show (3 : Nat) < _; decide, by show v.size < _; omega⟩)
  exact ⟨h1, h2, by omega⟩
theorem via_walk (q : Option Addr) (c : Nat) (l : List Hd) (lq : Option Addr) (lc : Nat) (X : List UInt8) (w : World) (hl : HL w q c l) (hE : ErrAt w) (hP : PowAt w) (hls : l.length * 40 + 4096 ≤ 2 ^ 47) (hsrc : SrcAt w lq X) (hX : X.length < 2 ^ 47) (hXc : X.length ≤ lc) :
    Calls Tryz.prog 3 #[.slice q l.length c, .slice lq X.length lc] w fun e w' => e = .returned (.bool true) ∧ Below w.heap.size w w' := by
  have HLW : Hid (HL w q c l) := hl
  have HSR : Hid (SrcAt w lq X) := hsrc
  obtain ⟨q0, c0q, w0, hrun, HR0⟩ := copy_rowN hl
  have KX : Hid (∀ W a n c s i VS, ViaS w l i (.slice a n c) s VS W → i ≤ 20 → Calls Tryz.prog 4 #[.slice a n c, .string ⟨#[112]⟩] W fun e w' => PassAs W (rewReq (l ++ viaL VS) [112]) e w') := fun W a n c s i VS hV hi => by
    obtain ⟨rfl, h2, h3⟩ := hV.hl hi hls hl.sizes
    exact xReq_in a c (l ++ viaL VS) ⟨#[112]⟩ W h2 (hE.fr hV.row.fr) h3 (by decide)
  have KF : Hid (∀ W, Fr (fun _ => False) w W → Calls Tryz.prog 5 #[.slice q l.length c, .string ⟨#[118, 105, 97]⟩] W fun e w' => e = .returned (findV l sVia) ∧ W = w') := fun W f => rFind_in q c l ⟨#[118, 105, 97]⟩ W (hl.fr f)
  have KA : Hid (∀ W, Fr (fun _ => False) w W → Calls Tryz.prog 6 #[] W fun e w' => e = .returned (.bool true) ∧ Fr (fun _ => False) W w') := fun W f => awake14_in W (hP.fr f)
  have HLB : Hid (∀ VS : List ByteArray, VS.length ≤ 20 → (l ++ viaL VS).length * 40 < 2 ^ 47) := fun VS h => by
    rw [List.length_append]; unfold viaL; rw [List.length_map]; omega
  obtain ⟨xl, hxl⟩ : ∃ xl, X.length = xl := ⟨_, rfl⟩
  have HXL : Hid (X.length = xl) := hxl
  obtain ⟨len, hlen⟩ : ∃ len, l.length = len := ⟨_, rfl⟩
  have H00 : Hid (ViaS w l 0 (.slice q0 len c0q) ⟨#[]⟩ [] w0) := by
    have h := HR0.out
    rw [hlen] at h
    exact ⟨by simpa [viaL] using h, rfl, rfl, rfl, fun v hv => by cases hv⟩
  rw [hxl] at hX hXc ⊢
  rw [hlen] at hrun KF ⊢
  clear hl hE hP hsrc hxl HR0
  go_enter Tryz.func3, Tryz.ntmps3
  go_wp2_with (refine wpList_append_run9 rfl (.tmp 15) (.tmp 16) 22 rfl _ _ _ rfl rfl hrun ?_)
  go_loopw [5, 6, 7] (fun x5 x6 x7 wr => ∃ (i : Nat) (s : ByteArray) (a : Option Addr) (n c : Nat) (VS : List ByteArray), x5 = .slice a n c ∧ x6 = .string s ∧ x7 = .int .i64 (i : Int) ∧ i ≤ 20 ∧ i ≤ xl ∧ Hid (ViaS w l i (.slice a n c) s VS wr)) (fun _ _ x7 _ => 20 - (intOf x7).toNat)
  case atStart => exact ⟨0, ⟨#[]⟩, q0, len, c0q, [], rfl, rfl, rfl, by omega, by omega, H00.out⟩
  case round =>
    obtain ⟨i, s, a, n, cc, VS, rfl, rfl, rfl, hi, hix, HS⟩ := hrel
    by_cases hlt : i < xl ∧ i < 20
    · have hlt2 : (i : Int) < (xl : Int) := by omega
      have hlt3 : (i : Int) < 20 := by omega
      have hlt4 : i < xl := hlt.1
      obtain ⟨ad, e0, c0'⟩ := HSR.out i (X[i]'(by rw [HXL.out]; exact hlt.1)) (List.getElem?_eq_getElem _)
      obtain ⟨k, hk⟩ : ∃ k : Nat, (X[i]'(by rw [HXL.out]; exact hlt.1)).toNat = k := ⟨_, rfl⟩
      have hk2 : k < 256 := by rw [← hk]; exact UInt8.toNat_lt _
      rw [hk] at c0'
      have c0 : wr.cell? (ad.add i) = some (.int .u8 (k : Int)) := (HS.out.row.fr.cell (p := ad.add i) (World.block_lt_of_cell? _ _ c0') id).trans c0'
      subst e0
      obtain ⟨m, hm⟩ : ∃ m, k % 26 = m := ⟨_, rfl⟩
      have hm2 : m < 26 := by omega
      have hr : (k : Int).tmod 26 = (m : Int) := by rw [Int.tmod_eq_emod_of_nonneg (by omega)]; omega
      have hr2 : (k : Int) % 26 = (m : Int) := by omega
      have hB1 : (UInt8.ofNat (97 + m)).toNat = 97 + m := by rw [UInt8.toNat_ofNat']; omega
      obtain ⟨B, hB⟩ : ∃ B, UInt8.ofNat (97 + m) = B := ⟨_, rfl⟩
      rw [hB] at hB1
      have hcv := byte_textV B (97 + (m : Int)) (by omega) wr
      have hwr : IntKind.u8.wrap (97 + (m : Int)) = 97 + (m : Int) := by unfold IntKind.wrap; simp [IntKind.bits, IntKind.signed]; omega
      have hp1 : (((⟨#[49, 32]⟩ : ByteArray).size : Nat) : Int) + (((⟨#[B]⟩ : ByteArray).size : Nat) : Int) ≤ 9223372036854775807 := by
        have e1 : (⟨#[49, 32]⟩ : ByteArray).size = 2 := rfl
        have e2 : (⟨#[B]⟩ : ByteArray).size = 1 := rfl
        rw [e1, e2]; omega
      have hvs : ((⟨#[49, 32]⟩ : ByteArray) ++ ⟨#[B]⟩).size = 3 := by rw [← tx_len, tx_catV]; rfl
      have hss := HS.out.sz
      obtain ⟨vv, hvv⟩ : ∃ vv, (⟨#[49, 32]⟩ : ByteArray) ++ ⟨#[B]⟩ = vv := ⟨_, rfl⟩
      rw [hvv] at hvs
      have hp2 : (s.size : Int) + (vv.size : Int) ≤ 9223372036854775807 := by omega
      have hsv : (s ++ vv).size = s.size + vv.size := by rw [← tx_len, tx_catV, List.length_append, tx_len, tx_len]
      have hp3 : ((s ++ vv).size : Int) + (((⟨#[44, 32]⟩ : ByteArray).size : Nat) : Int) ≤ 9223372036854775807 := by
        have e1 : (⟨#[44, 32]⟩ : ByteArray).size = 2 := rfl
        rw [e1, hsv]; omega
      have HT : Hid (tx (s ++ vv ++ ⟨#[44, 32]⟩) = wantL (VS ++ [vv]) ∧ (s ++ vv ++ ⟨#[44, 32]⟩).size = 5 * (i + 1) ∧ (∀ v ∈ VS ++ [vv], v.size = 3)) := by
        refine ⟨?_, ?_, ?_⟩
        · rw [tx_catV, tx_catV, HS.out.txt]
          unfold wantL
          rw [List.flatMap_append]
          simp
          rfl
        · rw [← tx_len, tx_catV, tx_catV, List.length_append, List.length_append, tx_len, tx_len, hss, hvs]
          show 5 * i + 3 + 2 = _
          omega
        · intro v hv
          rw [List.mem_append] at hv
          rcases hv with hv | hv
          · exact HS.out.small v hv
          · simp at hv; subst hv; exact hvs
      have HF2 : Hid (Fr (fun _ => False) wr (wr.alloc (.cells #[.int .u8 (97 + (m : Int))] 5))) := (Fr.refl _ _).alloc _
      have HR2 : Hid (RowN w (.slice a n cc) (l ++ viaL VS) (wr.alloc (.cells #[.int .u8 (97 + (m : Int))] 5))) := HS.out.row.later HF2.out
      have HM : Hid ((l ++ viaL VS).length * 40 < 2 ^ 47) := HLB.out VS (by rw [HS.out.len]; exact hi)
      have HVL : Hid (VS.length = i ∧ l ++ viaL VS ++ [(viaB, vv, false)] = l ++ viaL (VS ++ [vv])) := ⟨HS.out.len, by unfold viaL; simp⟩
      clear hk c0' hm hB1 hB hlt hvs hss hsv
      go_wp2_with (refine wpList_addH rfl (.tmp 37) (.tmp 40) rfl (.slice a n cc) (l ++ viaL VS) (viaB, vv, false) rfl HR2.out.row (by go_simp) HM.out ?_; intro a6 n6 c6 w6 N6 O6 F6 K6)
      have HN2 : Hid (ViaS w l (i + 1) (.slice a6 n6 c6) (s ++ vv ++ ⟨#[44, 32]⟩) (VS ++ [vv]) w6) := by
        have h1 := HR2.out.add O6.out F6.out K6.out
        rw [HVL.out.2] at h1
        exact ⟨h1, by rw [List.length_append, HVL.out.1]; rfl, HT.out.1, HT.out.2.1, HT.out.2.2⟩
      go_roundw
      case rel => exact ⟨i + 1, _, a6, n6, c6, VS ++ [vv], rfl, rfl, by go_num, by omega, by omega, HN2.out⟩
      case measure => simp [intOf]; omega
    · have KX2 := KX.out wr a n cc s i VS HS.out hi
      have HFw : Hid (Fr (fun _ => False) w wr) := HS.out.row.fr
      have HSS : Hid (s.size ≤ 100) := by have := HS.out.sz; show _ ≤ _; omega
      have HTX : Hid (tx s = wantL VS) := HS.out.txt
      obtain ⟨⟨LX, erX⟩, hRX⟩ : ∃ r, rewReq (l ++ viaL VS) [112] = r := ⟨_, rfl⟩
      have HKX : Hid (erX = 0 → cntV LX = 1 ∧ LX[LX.length - 1]? = some (viaB, mkS (viaO (l ++ viaL VS) [112]), false) ∧ 1 ≤ LX.length) := by have := rewReq_via (Q := l ++ viaL VS); rw [hRX] at this; exact this
      rw [hRX] at KX2
      clear hRX
      by_cases hlt5 : i < xl
      case' pos =>
        have hlt2 : (i : Int) < (xl : Int) := by omega
        have hlt3 : ¬ (i : Int) < 20 := by omega
        go_wp2_with (fail)
      case' neg =>
        have hlt2 : ¬ (i : Int) < (xl : Int) := by omega
        go_wp2_with (fail)
      all_goals (
        refine KX2.mono ?_
        rintro e w1 ⟨qx, cx, rfl, hX9, f1⟩
        dsimp only at hX9 ⊢
        have HF1 : Hid (Fr (fun _ => False) w w1) := HFw.out.trans f1
        have HX1 : Hid (HL w1 qx cx LX) := hX9
        have hfx := hX9.few
        have KF2 := KF.out w1 HF1.out
        obtain ⟨fv, hfv⟩ : ∃ fv, findL l sVia = fv := ⟨_, rfl⟩
        have HFV : Hid (findL l sVia = fv) := hfv
        unfold findV at KF2
        rw [hfv] at KF2
        obtain ⟨nx, hnx⟩ : ∃ nx, LX.length = nx := ⟨_, rfl⟩
        have HNX : Hid (LX.length = nx) := hnx
        rw [hnx] at hfx HKX ⊢
        clear hX9 f1 KX2 hfv hnx
        go_wp2_with (fail)
        by_cases hx0 : erX = 0
        · subst hx0
          cases fv with
          | some v0 =>
            refine KF2.mono ?_
            rintro e w2 ⟨rfl, rfl⟩
            go_wp2_with (fail)
            refine (KA.out _ HF1.out).mono ?_
            rintro e v9 ⟨rfl, g9⟩
            have HF9 : Hid (Fr (fun _ => False) w v9) := HF1.out.trans g9
            clear g9
            go_wp2_with (fail)
            go_ret
            exact ⟨rfl, HF9.out.below (fun _ _ h => h)⟩
          | none =>
            obtain ⟨hcv, hla, hx1⟩ := HKX.out rfl
            rw [via_want HFV.out] at hla
            have hvv : mkS (wantL VS ++ [50, 32, 112]) = s ++ ⟨#[50, 32, 112]⟩ := tx_ext (by rw [mkS_tx, tx_catV, HTX.out]; rfl)
            rw [hvv] at hla
            have HLA : Hid (LX[nx - 1]? = some (viaB, s ++ ⟨#[50, 32, 112]⟩, false)) := hla
            have HCV : Hid (cntV LX = 1) := hcv
            have hp9 : (s.size : Int) + (((⟨#[50, 32, 112]⟩ : ByteArray).size : Nat) : Int) ≤ 9223372036854775807 := by
              have e1 : (⟨#[50, 32, 112]⟩ : ByteArray).size = 3 := rfl
              have := HSS.out
              rw [e1]; omega
            have hw1 : wrap64 ((nx : Int) - 1) = ((nx - 1 : Nat) : Int) := by unfold wrap64; omega
            have hw2 : (nx : Int) - 1 = ((nx - 1 : Nat) : Int) := by omega
            have hnl : nx - 1 < nx := by omega
            have hnl2 : ((nx - 1 : Nat) : Int) < (nx : Int) := by omega
            have sv1 := str_same viaB
            have sv2 := str_same (s ++ ⟨#[50, 32, 112]⟩)
            unfold viaB at sv1
            clear hcv hla hvv HKX
            refine KF2.mono ?_
            rintro e w2 ⟨rfl, rfl⟩
            go_wp2_with (fail)
            go_loopw [13, 14] (fun x13 x14 wr => ∃ (j m : Nat), x13 = .int .i64 (m : Int) ∧ x14 = .int .i64 (j : Int) ∧ j ≤ nx ∧ m ≤ j ∧ w1 = wr ∧ Hid (cntV (LX.take j) = m)) (fun _ x14 _ => nx - (intOf x14).toNat)
            case atStart => exact ⟨0, 0, rfl, rfl, by omega, by omega, rfl, rfl⟩
            case round =>
              obtain ⟨j, m, rfl, rfl, hj, hmj, rfl, HC⟩ := hrel
              by_cases hjl : j < nx
              · have hjl2 : (j : Int) < (nx : Int) := by omega
                obtain ⟨x, hx⟩ : ∃ x, LX[j]? = some x := ⟨_, List.getElem?_eq_getElem (by rw [HNX.out]; exact hjl)⟩
                obtain ⟨b, o, e5, hb, c0, c1, c2, -⟩ := HX1.out.cells j x hx
                have ec := cntV_step hx
                obtain ⟨xn, xv, xs⟩ := x
                dsimp only at c0 c1 c2 ec
                subst e5
                clear hx
                by_cases he : tx xn = sVia
                · obtain ⟨pv, rv⟩ := list_equ he
                  unfold sVia at pv rv
                  have HC2 : Hid (cntV (LX.take (j + 1)) = m + 1) := by show _ = _; rw [ec, HC.out, if_pos he]
                  clear he ec
                  go_wp2_with (fail)
                  go_roundw
                  case rel => exact ⟨j + 1, m + 1, by go_num, by go_num, by omega, by omega, trivial, HC2.out⟩
                  case measure => simp [intOf]; omega
                · obtain ⟨pv, rv⟩ := list_neq he
                  unfold sVia at pv rv
                  have HC2 : Hid (cntV (LX.take (j + 1)) = m) := by show _ = _; rw [ec, HC.out, if_neg he]; rfl
                  clear he ec
                  go_wp2_with (fail)
                  go_roundw
                  case rel => exact ⟨j + 1, m, rfl, by go_num, by omega, by omega, trivial, HC2.out⟩
                  case measure => simp [intOf]; omega
              · have hjl2 : ¬ (j : Int) < (nx : Int) := by omega
                obtain rfl : m = 1 := by
                  have := HC.out
                  rw [List.take_of_length_le (by rw [HNX.out]; omega), HCV.out] at this
                  exact this.symm
                obtain ⟨b, o, e5, hb, c0, c1, c2, -⟩ := HX1.out.cells (nx - 1) _ HLA.out
                dsimp only at c0 c1 c2
                unfold viaB at c0
                subst e5
                have KA2 := KA.out _ HF1.out
                go_wp2_with (fail)
                refine KA2.mono ?_
                rintro e v9 ⟨rfl, g9⟩
                have HF9 : Hid (Fr (fun _ => False) w v9) := HF1.out.trans g9
                clear g9
                go_wp2_with (fail)
                go_ret
                exact ⟨rfl, HF9.out.below (fun _ _ h => h)⟩
        · have hx2 : (erX == 0) = false := beq_eq_false_iff_ne.2 hx0
          cases fv
          all_goals (
            refine KF2.mono ?_
            rintro e w2 ⟨rfl, rfl⟩
            go_wp2_with (fail)
            refine (KA.out _ HF1.out).mono ?_
            rintro e v9 ⟨rfl, g9⟩
            have HF9 : Hid (Fr (fun _ => False) w v9) := HF1.out.trans g9
            clear g9
            go_wp2_with (fail)
            go_ret
            exact ⟨rfl, HF9.out.below (fun _ _ h => h)⟩))
end Go.Proofs.YtplggcfoadjffabGreatDoor
