/- Empty texts fall out of a row of one's own. -/
import Derived.Test.YtplggcfoadjffaaGreatDoorXc
namespace Go.Proofs.YtplggcfoadjffaaGreatDoor
open Go.RowKit
set_option linter.unusedVariables false
set_option maxRecDepth 100000
set_option maxHeartbeats 4000000

/-- One text of a row is stored. -/
theorem OwnAt.setS {w : World} {g off n c : Nat} {xs : List ByteArray} (h : OwnAt w 9 (.slice (some ⟨g, off, none⟩) n c) (strV xs)) (j : Nat) (hj : j < xs.length) (y : ByteArray) :
    OwnAt (w.setCell ⟨g, off + j, none⟩ (.string y)) 9 (.slice (some ⟨g, off, none⟩) n c) (strV (xs.set j y)) := by
  rcases h with ⟨h, _⟩ | ⟨g', off', cap, cur, h, hg, h1, h2, h3, h4⟩
  · cases h
  · cases h
    rw [strV_length] at h2 h4 ⊢
    refine .inr ⟨g, off, c, cur.setIfInBounds (off + j) (.string y), by rw [strV_length, List.length_set], ?_, ?_, by rw [strV_length, List.length_set]; exact h2, h3, ?_⟩
    · rw [setCell_eq_setRow w g _ cur 9 _ _ hg]
      exact setRow_heap w g cur _ 9 _ hg
    · simpa using h1
    · rw [strV_length, List.length_set, Array.toList_setIfInBounds]
      have hset : strV (xs.set j y) = (strV xs).set j (.string y) := by simp [strV, List.map_set]
      rw [hset, ← h4]
      apply List.ext_getElem?
      intro k
      simp only [List.getElem?_take, List.getElem?_drop, List.getElem?_set, List.length_take, List.length_drop, Array.length_toList]
      by_cases hk : k < xs.length
      · rw [if_pos hk]
        by_cases hkj : j = k
        · subst hkj
          rw [if_pos rfl, if_pos rfl, if_pos (by omega), if_pos (by omega)]
        · rw [if_neg (by omega), if_neg hkj, if_pos hk]
      · rw [if_neg hk]
        by_cases hkj : j = k
        · omega
        · rw [if_neg hkj, if_neg hk]
/-- How far the walk over a row is: what stays stands at its head, what is still to be looked at lies as it lay. -/
def DelSt (w : World) (g off n c : Nat) (zs : List ByteArray) (i j : Nat) (wr : World) : Prop :=
  ∃ cur : List ByteArray, OwnAt wr 9 (.slice (some ⟨g, off, none⟩) n c) (strV cur) ∧ cur.length = n ∧ cur.take i = (zs.take j).filter fullB ∧ ((zs.take j).filter fullB).length = i ∧ cur.drop j = zs.drop j ∧ i < j ∧ Fr (fun k => k = g) w wr
theorem del_keep {w : World} {g off n c : Nat} {zs : List ByteArray} {i j : Nat} {wr : World} {z : ByteArray} (h : DelSt w g off n c zs i j wr) (hz : zs[j]? = some z) (hb : fullB z = true) (hj : j < n) : DelSt w g off n c zs (i + 1) (j + 1) (wr.setCell ⟨g, off + i, none⟩ (.string z)) := by
  obtain ⟨cur, h1, h2, h3, h4, h5, h6, h7⟩ := h
  have hT : zs.take (j + 1) = zs.take j ++ [z] := by rw [List.take_add_one, hz]; rfl
  have hF : (zs.take (j + 1)).filter fullB = (zs.take j).filter fullB ++ [z] := by rw [hT, List.filter_append]; simp [hb]
  refine ⟨cur.set i z, h1.setS i (by omega) z, by rw [List.length_set]; exact h2, ?_, by rw [hF, List.length_append, h4]; rfl, ?_, by omega, ?_⟩
  · rw [hF, ← h3, List.take_add_one, List.getElem?_set_self (by omega), List.take_set, List.set_eq_of_length_le (by rw [List.length_take]; omega)]
    rfl
  · rw [List.drop_set_of_lt (by omega), ← List.drop_drop, h5, List.drop_drop]
  · exact Fr.setB h7 _ _
theorem del_skip {w : World} {g off n c : Nat} {zs : List ByteArray} {i j : Nat} {wr : World} {z : ByteArray} (h : DelSt w g off n c zs i j wr) (hz : zs[j]? = some z) (hb : fullB z = false) : DelSt w g off n c zs i (j + 1) wr := by
  obtain ⟨cur, h1, h2, h3, h4, h5, h6, h7⟩ := h
  have hT : zs.take (j + 1) = zs.take j ++ [z] := by rw [List.take_add_one, hz]; rfl
  have hF : (zs.take (j + 1)).filter fullB = (zs.take j).filter fullB := by rw [hT, List.filter_append]; simp [hb]
  exact ⟨cur, h1, h2, by rw [hF]; exact h3, by rw [hF]; exact h4, by rw [← List.drop_drop, h5, List.drop_drop], by omega, h7⟩
theorem del_cell {w : World} {g off n c : Nat} {zs : List ByteArray} {i j : Nat} {wr : World} {z : ByteArray} (h : DelSt w g off n c zs i j wr) (hz : zs[j]? = some z) : wr.cell? ⟨g, off + j, none⟩ = some (.string z) := by
  obtain ⟨cur, h1, h2, h3, h4, h5, h6, h7⟩ := h
  have hc : cur[j]? = some z := by
    have e1 : (cur.drop j)[0]? = (zs.drop j)[0]? := by rw [h5]
    simpa [List.getElem?_drop, hz] using e1
  obtain ⟨b, o, e, -, hc2⟩ := h1.texts j z hc
  cases e
  exact hc2
theorem del_old {w : World} {g off n c : Nat} {zs : List ByteArray} {i j : Nat} {wr : World} (h : DelSt w g off n c zs i j wr) (hi : i < n) : (∃ u, wr.cell? ⟨g, off + i, none⟩ = some u) ∧ wr.frozen? ⟨g, off + i, none⟩ = false := by
  obtain ⟨cur, h1, h2, h3, h4, h5, h6, h7⟩ := h
  obtain ⟨g', off', cap, e, hc, hf⟩ := h1.cells i (.string (cur[i]'(by omega))) (by unfold strV; rw [List.getElem?_map, List.getElem?_eq_getElem (by omega)]; rfl)
  cases e
  exact ⟨⟨_, hc⟩, hf⟩
/-- What DeleteFunc answers. -/
def DelAs (w : World) (S : Nat → Prop) (zs : List ByteArray) (e : Ending) (w' : World) : Prop := ∃ a c, e = .returned (.slice a zs.length c) ∧ TxAt w' a zs ∧ Fr S w w'
theorem del_end {w : World} {g off n c : Nat} {zs : List ByteArray} {i j : Nat} {wr : World} (h : DelSt w g off n c zs i j wr) (hn : zs.length = n) (hj : n ≤ j) (dp : Option Addr) (hdp : i < c → dp = some ((⟨g, off, none⟩ : Addr).add i)) :
    i ≤ n ∧ i = (zs.filter fullB).length ∧ n ≤ c ∧ ∃ w', (Builtin.clear_ #[42] 0 #[.slice dp (n - i) (c - i)]).run Tryz.prog wr = .ok (.tuple #[]) w' ∧ Hid (TxAt w' (some ⟨g, off, none⟩) (zs.filter fullB)) ∧ Hid (Fr (fun k => k = g) w w') := by
  obtain ⟨cur, h1, h2, h3, h4, h5, h6, h7⟩ := h
  have hT : zs.take j = zs := List.take_of_length_le (by omega)
  rw [hT] at h3 h4
  have hin : i ≤ n := by
    have := List.length_filter_le fullB zs
    omega
  obtain ⟨-, hnc⟩ := h1.len
  rcases h1 with ⟨e, -⟩ | ⟨g', off', cap, row, e, hg, k1, k2, k3, k4⟩
  · cases e
  · obtain ⟨e2, e3, e4⟩ := Value.slice.inj e
    cases e2
    subst e4
    rw [strV_length] at k2 k4
    have HZ : ∀ m, ∀ v ∈ (Builtin.zeroCells (Value.string ⟨#[]⟩).cells m).toList, v.oneCell' = true := fun m v hv => by
      simp [Builtin.zeroCells, Value.cells] at hv
      obtain ⟨k, -, rfl⟩ := hv
      simp [Nat.mod_one, Value.oneCell']
    obtain ⟨w', row', r1, r2, r3, r4, r5⟩ := run_clear wr 42 0 9 (.string ⟨#[]⟩) 1 Tryz.underlying42 (Tryz.zeroValue9 wr) rfl HZ dp (n - i) (c - i) g (off + i) row 9 hg (fun hp => by rw [hdp (by omega), add_none]) (by omega)
    refine ⟨hin, h4.symm, by omega, w', r1, fun r z hz => ⟨g, off, rfl, lt_of_heap r2.out, ?_⟩, h7.trans r5.out⟩
    have hr : r < i := by rw [← h4]; exact (List.getElem?_eq_some_iff.1 hz).1
    refine cell_of_heap r2.out ?_
    have e1 : (row'.toList.take (off + i))[off + r]? = (row.toList.take (off + i))[off + r]? := by rw [r4.out]
    rw [List.getElem?_take, List.getElem?_take, if_pos (by omega), if_pos (by omega)] at e1
    rw [← Array.getElem?_toList, e1]
    rw [← h3, List.getElem?_take, if_pos hr] at hz
    have e2 : (strV cur)[r]? = some (.string z) := by unfold strV; rw [List.getElem?_map, hz]; rfl
    rw [← k4, List.getElem?_take, List.getElem?_drop, if_pos (by omega)] at e2
    exact e2
theorem cutS_to (a : Addr) (len cap k : Nat) (hl : k ≤ cap) (hc : 0 < cap) (h0 : a.add 0 = a) (hk : k < 9223372036854775807) :
    ∀ w, (Instr.slice 42 (.slice (some a) len cap) none (some (.int .i64 (k : Int))) none).run Tryz.prog w = .ok (.slice (some a) k cap) w := by
  intro w
  have hb := run_sliceBound (P := Tryz.prog) (w := w) .i64 (k : Int) cap .sliceAcap (by omega) (by omega)
  obtain ⟨i, I1, I2, I3, I4⟩ := info_str
  have hc1 : ¬ cap = 0 := by omega
  simp [Instr.slice, run_underlying Tryz.underlying42, Instr.sliceBounds, hb, sizeOf, typeInfo, I1, hc1, h0]
theorem delete_in (a : Option Addr) (c : Nat) (zs : List ByteArray) (w : World) (h : OwnAt w 9 (.slice a zs.length c) (strV zs)) (hn : zs.length * 40 < 2 ^ 47) :
    Calls Tryz.prog 18 #[.slice a zs.length c, .func (.func 20) #[] #[]] w fun e w' => DelAs w (fun k => (Value.slice a zs.length c).ownBlock = some k) (zs.filter fullB) e w' := by
  have HT : Hid (OwnAt w 9 (.slice a zs.length c) (strV zs)) := h
  have KI := indexS_in a c zs w h.texts hn
  obtain ⟨n, hlen⟩ : ∃ n, zs.length = n := ⟨_, rfl⟩
  have HN : Hid (zs.length = n) := hlen
  rw [hlen] at hn KI HT ⊢
  clear h hlen
  go_enter Tryz.func18, Tryz.ntmps18
  go_wp2_with (fail)
  refine KI.mono ?_
  rintro e w1 ⟨rfl, (⟨rfl, hall⟩ | ⟨i, rfl, hi, h1, h2⟩)⟩
  · have HA : Hid (zs.filter fullB = zs) := hall
    clear hall
    go_wp2_with (fail)
    go_ret
    refine ⟨a, c, ?_, ?_, Fr.refl _ _⟩
    · rw [HA.out, HN.out]; rfl
    · rw [HA.out]; exact HT.out.texts
  · obtain ⟨z0, hz0⟩ : ∃ z, zs[i]? = some z := ⟨_, List.getElem?_eq_getElem hi⟩
    obtain ⟨g, off, rfl, -, -⟩ := HT.out.texts i z0 hz0
    have HI : Hid (DelSt w g off n c zs i (i + 1) w) := ⟨zs, HT.out, HN.out, by rw [h2], by rw [h2, List.length_take]; omega, rfl, by omega, Fr.refl _ _⟩
    have hi2 : i < n := by rw [← HN.out]; exact hi
    have hni : ((i : Int) == -1) = false := by rw [beq_eq_false_iff_ne]; omega
    clear h1 h2 hz0 hi
    go_wp2_with (fail)
    go_loopw [5, 6] (fun x5 x6 wr => ∃ (i j : Nat), x5 = .int .i64 (i : Int) ∧ x6 = .int .i64 (j : Int) ∧ i < j ∧ j ≤ n ∧ Hid (DelSt w g off n c zs i j wr)) (fun _ x6 _ => n - (intOf x6).toNat)
    case atStart => exact ⟨i, i + 1, rfl, by go_num, by omega, by omega, HI.out⟩
    case round =>
      obtain ⟨i, j, rfl, rfl, hij, hjn, HS⟩ := hrel
      by_cases hlt : j < n
      · have hlt2 : (j : Int) < (n : Int) := by omega
        obtain ⟨z, hz⟩ : ∃ z, zs[j]? = some z := ⟨_, List.getElem?_eq_getElem (by rw [HN.out]; exact hlt)⟩
        have c0 := del_cell HS.out hz
        have K := xempty_in z wr
        obtain ⟨v, hv⟩ : ∃ v, fullB z = v := ⟨_, rfl⟩
        rw [hv] at K
        cases v with
        | true =>
          obtain ⟨⟨u, hu⟩, hfz⟩ := del_old HS.out (by omega)
          have hin : i < n := by omega
          have HS2 : Hid (DelSt w g off n c zs (i + 1) (j + 1) (wr.setCell ⟨g, off + i, none⟩ (.string z))) := del_keep HS.out hz hv hlt
          clear hz hv
          go_wp2_with (fail)
          refine K.mono ?_
          rintro e w2 ⟨rfl, rfl⟩
          go_wp2_with (fail)
          go_roundw
          case rel => exact ⟨i + 1, j + 1, by go_num, by go_num, by omega, by omega, HS2.out⟩
          case measure => simp [intOf]; omega
        | false =>
          have HS2 : Hid (DelSt w g off n c zs i (j + 1) wr) := del_skip HS.out hz hv
          clear hz hv
          go_wp2_with (fail)
          refine K.mono ?_
          rintro e w2 ⟨rfl, rfl⟩
          go_wp2_with (fail)
          go_roundw
          case rel => exact ⟨i, j + 1, rfl, by go_num, by omega, by omega, HS2.out⟩
          case measure => simp [intOf]; omega
      · have hlt2 : ¬ (j : Int) < (n : Int) := by omega
        have hin : i ≤ n := by omega
        obtain ⟨dp, hcut, hdp⟩ := cut_from Tryz.prog 42 9 Tryz.underlying42 (by kernel_rfl) ⟨g, off, none⟩ n c i .i64 hin
        obtain ⟨-, hiL, hnc, w2, hclr, HT2, HF2⟩ := del_end HS.out HN.out (by omega) dp hdp
        have hto := cutS_to ⟨g, off, none⟩ n c i (by omega) (by omega) rfl (by omega)
        have HIL : Hid (i = (zs.filter fullB).length) := hiL
        clear hiL hdp
        go_wp2_with (fail)
        go_ret
        refine ⟨some ⟨g, off, none⟩, c, ?_, HT2.out, HF2.out.mono (fun k _ e => by subst e; rfl)⟩
        rw [← HIL.out]
        rfl
end Go.Proofs.YtplggcfoadjffaaGreatDoor
