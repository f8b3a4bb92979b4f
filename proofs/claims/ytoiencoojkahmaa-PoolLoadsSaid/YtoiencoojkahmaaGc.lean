/- One number falls out of a row of one's own. -/
import Derived.Test.YtoiencoojkahmaaGb
import Derived.Test.YtoiencoojkahmaaUc
import Derived.Shelf.Abstract
import Derived.Test.YtoiencoojkahmaaIv
namespace Go.Proofs.Ytoiencoojkahmaa
open Go.RowKit
set_option linter.unusedVariables false
set_option maxRecDepth 100000
set_option maxHeartbeats 4000000

theorem qdrop1_in (x d : Int) (b : Nat) (w : World) (hb : w.cell? ⟨b, 0, none⟩ = some (.int .i64 d)) : Calls Try.prog 67 #[.int .i64 x, .pointer (some ⟨b, 0, none⟩)] w fun e w' => e = .returned (.bool (x == d)) ∧ w = w' := by
  go_enter Try.func67, Try.ntmps67
  go_wp2_with (fail)
  go_ret
  exact ⟨rfl, rfl⟩
/-- Stays it? -/
def keepB (d x : Int) : Bool := !(x == d)
/-- The first one that goes. -/
def IdxI (d : Int) (zs : List Int) (e : Ending) : Prop := (e = .returned (.int .i64 (-1)) ∧ zs.filter (keepB d) = zs) ∨ ∃ i : Nat, e = .returned (.int .i64 (i : Int)) ∧ i < zs.length ∧ (zs.take i).filter (keepB d) = zs.take i ∧ (zs.take (i + 1)).filter (keepB d) = zs.take i
theorem indexI_in (a : Option Addr) (c : Nat) (zs : List Int) (d : Int) (b : Nat) (w : World) (hz : OwnAt w 3 (.slice a zs.length c) (iv zs)) (hb : w.cell? ⟨b, 0, none⟩ = some (.int .i64 d)) (hn : zs.length ≤ 4096) :
    Calls Try.prog 68 #[.slice a zs.length c, .func (.func 67) #[] #[.pointer (some ⟨b, 0, none⟩)]] w fun e w' => w = w' ∧ IdxI d zs e := by
  have HZ : Hid (OwnAt w 3 (.slice a zs.length c) (iv zs)) := hz
  have HB : Hid (w.cell? ⟨b, 0, none⟩ = some (.int .i64 d)) := hb
  obtain ⟨n, hlen⟩ : ∃ n, zs.length = n := ⟨_, rfl⟩
  have HN : Hid (zs.length = n) := hlen
  rw [hlen] at hn HZ ⊢
  clear hz hlen hb
  go_enter Try.func68, Try.ntmps68
  go_wp2_with (fail)
  go_loopw [8] (fun x8 wr => ∃ i : Nat, x8 = .int .i64 (i : Int) ∧ i ≤ n ∧ w = wr ∧ Hid ((zs.take i).filter (keepB d) = zs.take i)) (fun x8 _ => n - (intOf x8).toNat)
  case atStart => exact ⟨0, rfl, by omega, rfl, rfl⟩
  case round =>
    obtain ⟨i, rfl, hin, rfl, HM⟩ := hrel
    by_cases hlt : i < n
    · have hlt2 : (i : Int) < (n : Int) := by omega
      obtain ⟨z, hz⟩ : ∃ z, zs[i]? = some z := ⟨_, List.getElem?_eq_getElem (by rw [HN.out]; exact hlt)⟩
      obtain ⟨gb, o, rfl, -, c0⟩ := HZ.out.ints i z hz
      have HX : Hid ((zs.take (i + 1)).filter (keepB d) = zs.take i ++ [z].filter (keepB d) ∧ zs.take (i + 1) = zs.take i ++ [z]) := by
        have : zs.take (i + 1) = zs.take i ++ [z] := by rw [List.take_add_one, hz]; rfl
        refine ⟨?_, this⟩
        rw [this, List.filter_append, HM.out]
      have K := qdrop1_in z d b w HB.out
      obtain ⟨v, hv⟩ : ∃ v, (z == d) = v := ⟨_, rfl⟩
      rw [hv] at K
      have HV : Hid (keepB d z = !v) := by show _ = _; unfold keepB; rw [hv]
      clear hz hv
      cases v with
      | false =>
        have HM2 : Hid ((zs.take (i + 1)).filter (keepB d) = zs.take (i + 1)) := by
          have h1 := HX.out
          show _ = _
          rw [h1.1, h1.2]
          simp [HV.out]
        go_wp2_with (fail)
        refine K.mono ?_
        rintro e w2 ⟨rfl, rfl⟩
        go_wp2_with (fail)
        go_roundw
        case rel => exact ⟨i + 1, by go_num, by omega, trivial, HM2.out⟩
        case measure => simp [intOf]; omega
      | true =>
        have HM2 : Hid ((zs.take (i + 1)).filter (keepB d) = zs.take i) := by
          have h1 := HX.out
          show _ = _
          rw [h1.1]
          simp [HV.out]
        go_wp2_with (fail)
        refine K.mono ?_
        rintro e w2 ⟨rfl, rfl⟩
        go_wp2_with (fail)
        go_ret
        exact ⟨rfl, .inr ⟨i, rfl, by rw [HN.out]; exact hlt, HM.out, HM2.out⟩⟩
    · have hlt2 : ¬ (i : Int) < (n : Int) := by omega
      go_wp2_with (fail)
      go_ret
      have := HM.out
      rw [List.take_of_length_le (by rw [HN.out]; omega)] at this
      exact ⟨rfl, .inl ⟨rfl, this⟩⟩
/-- One number of a row is stored. -/
theorem OwnAt.setI {w : World} {g off n c : Nat} {xs : List Int} (h : OwnAt w 3 (.slice (some ⟨g, off, none⟩) n c) (iv xs)) (j : Nat) (hj : j < xs.length) (y : Int) :
    OwnAt (w.setCell ⟨g, off + j, none⟩ (.int .i64 y)) 3 (.slice (some ⟨g, off, none⟩) n c) (iv (xs.set j y)) := by
  rcases h with ⟨h, _⟩ | ⟨g', off', cap, cur, h, hg, h1, h2, h3, h4⟩
  · cases h
  · cases h
    rw [iv_length] at h2 h4 ⊢
    refine .inr ⟨g, off, c, cur.setIfInBounds (off + j) (.int .i64 y), by rw [iv_length, List.length_set], ?_, ?_, by rw [iv_length, List.length_set]; exact h2, h3, ?_⟩
    · rw [setCell_eq_setRow w g _ cur 3 _ _ hg]
      exact setRow_heap w g cur _ 3 _ hg
    · simpa using h1
    · rw [iv_length, List.length_set, Array.toList_setIfInBounds]
      have hset : iv (xs.set j y) = (iv xs).set j (.int .i64 y) := by simp [iv, List.map_set]
      rw [hset, ← h4]
      apply List.ext_getElem?
      intro k
      simp only [List.getElem?_take, List.getElem?_drop, List.getElem?_set, List.length_take, List.length_drop, Array.length_toList]
      by_cases hk : k < xs.length
      · rw [if_pos hk]
        by_cases hkj : j = k
        · subst hkj
          rw [if_pos rfl, if_pos rfl, if_pos (by omega), if_pos (by omega)]
        · rw [if_neg (by omega), if_neg hkj, if_pos hk]
      · rw [if_neg hk]
        by_cases hkj : j = k
        · omega
        · rw [if_neg hkj, if_neg hk]
/-- How far the walk over a row is: what stays stands at its head, what is still to be looked at lies as it lay. -/
def DelI (d : Int) (w : World) (g off n c : Nat) (zs : List Int) (i j : Nat) (wr : World) : Prop :=
  ∃ cur : List Int, OwnAt wr 3 (.slice (some ⟨g, off, none⟩) n c) (iv cur) ∧ cur.length = n ∧ cur.take i = (zs.take j).filter (keepB d) ∧ ((zs.take j).filter (keepB d)).length = i ∧ cur.drop j = zs.drop j ∧ i < j ∧ Fr (fun k => k = g) w wr
theorem delI_keep {d : Int} {w : World} {g off n c : Nat} {zs : List Int} {i j : Nat} {wr : World} {z : Int} (h : DelI d w g off n c zs i j wr) (hz : zs[j]? = some z) (hb : keepB d z = true) (hj : j < n) : DelI d w g off n c zs (i + 1) (j + 1) (wr.setCell ⟨g, off + i, none⟩ (.int .i64 z)) := by
  obtain ⟨cur, h1, h2, h3, h4, h5, h6, h7⟩ := h
  have hT : zs.take (j + 1) = zs.take j ++ [z] := by rw [List.take_add_one, hz]; rfl
  have hF : (zs.take (j + 1)).filter (keepB d) = (zs.take j).filter (keepB d) ++ [z] := by rw [hT, List.filter_append]; simp [hb]
  refine ⟨cur.set i z, h1.setI i (by omega) z, by rw [List.length_set]; exact h2, ?_, by rw [hF, List.length_append, h4]; rfl, ?_, by omega, ?_⟩
  · rw [hF, ← h3, List.take_add_one, List.getElem?_set_self (by omega), List.take_set, List.set_eq_of_length_le (by rw [List.length_take]; omega)]
    rfl
  · rw [List.drop_set_of_lt (by omega), ← List.drop_drop, h5, List.drop_drop]
  · exact Fr.setB h7 _ _
theorem delI_skip {d : Int} {w : World} {g off n c : Nat} {zs : List Int} {i j : Nat} {wr : World} {z : Int} (h : DelI d w g off n c zs i j wr) (hz : zs[j]? = some z) (hb : keepB d z = false) : DelI d w g off n c zs i (j + 1) wr := by
  obtain ⟨cur, h1, h2, h3, h4, h5, h6, h7⟩ := h
  have hT : zs.take (j + 1) = zs.take j ++ [z] := by rw [List.take_add_one, hz]; rfl
  have hF : (zs.take (j + 1)).filter (keepB d) = (zs.take j).filter (keepB d) := by rw [hT, List.filter_append]; simp [hb]
  exact ⟨cur, h1, h2, by rw [hF]; exact h3, by rw [hF]; exact h4, by rw [← List.drop_drop, h5, List.drop_drop], by omega, h7⟩
theorem delI_cell {d : Int} {w : World} {g off n c : Nat} {zs : List Int} {i j : Nat} {wr : World} {z : Int} (h : DelI d w g off n c zs i j wr) (hz : zs[j]? = some z) : wr.cell? ⟨g, off + j, none⟩ = some (.int .i64 z) := by
  obtain ⟨cur, h1, h2, h3, h4, h5, h6, h7⟩ := h
  have hc : cur[j]? = some z := by
    have e1 : (cur.drop j)[0]? = (zs.drop j)[0]? := by rw [h5]
    simpa [List.getElem?_drop, hz] using e1
  obtain ⟨b, o, e, -, hc2⟩ := h1.ints j z hc
  cases e
  exact hc2
theorem delI_old {d : Int} {w : World} {g off n c : Nat} {zs : List Int} {i j : Nat} {wr : World} (h : DelI d w g off n c zs i j wr) (hi : i < n) : (∃ u, wr.cell? ⟨g, off + i, none⟩ = some u) ∧ wr.frozen? ⟨g, off + i, none⟩ = false := by
  obtain ⟨cur, h1, h2, h3, h4, h5, h6, h7⟩ := h
  obtain ⟨g', off', cap, e, hc, hf⟩ := h1.cells i (.int .i64 (cur[i]'(by omega))) (iv_get (List.getElem?_eq_getElem (by omega)))
  cases e
  exact ⟨⟨_, hc⟩, hf⟩
theorem delI_end {d : Int} {w : World} {g off n c : Nat} {zs : List Int} {i j : Nat} {wr : World} (h : DelI d w g off n c zs i j wr) (hn : zs.length = n) (hj : n ≤ j) (dp : Option Addr) (hdp : i < c → dp = some ((⟨g, off, none⟩ : Addr).add i)) :
    i ≤ n ∧ i = (zs.filter (keepB d)).length ∧ n ≤ c ∧ ∃ w', (Builtin.clear_ #[38] 0 #[.slice dp (n - i) (c - i)]).run Try.prog wr = .ok (.tuple #[]) w' ∧ Hid (OwnAt w' 3 (.slice (some ⟨g, off, none⟩) i c) (iv (zs.filter (keepB d)))) ∧ Hid (Fr (fun k => k = g) w w') := by
  obtain ⟨cur, h1, h2, h3, h4, h5, h6, h7⟩ := h
  have hT : zs.take j = zs := List.take_of_length_le (by omega)
  rw [hT] at h3 h4
  have hin : i ≤ n := by
    have := List.length_filter_le (keepB d) zs
    omega
  obtain ⟨-, hnc⟩ := h1.lenI
  rcases h1 with ⟨e, -⟩ | ⟨g', off', cap, row, e, hg, k1, k2, k3, k4⟩
  · cases e
  · obtain ⟨e2, e3, e4⟩ := Value.slice.inj e
    cases e2
    subst e4
    rw [iv_length] at k2 k4
    have HZ : ∀ m, ∀ v ∈ (Builtin.zeroCells (Value.int .i64 0).cells m).toList, v.oneCell' = true := fun m v hv => by
      simp [Builtin.zeroCells, Value.cells] at hv
      obtain ⟨k, -, rfl⟩ := hv
      simp [Nat.mod_one, Value.oneCell']
    obtain ⟨w', row', r1, r2, r3, r4, r5⟩ := run_clear wr 38 0 3 (.int .i64 0) 1 Try.underlying38 (by kernel_rfl) rfl HZ dp (n - i) (c - i) g (off + i) row 3 hg (fun hp => by rw [hdp (by omega), add_none]) (by omega)
    refine ⟨hin, h4.symm, by omega, w', r1, .inr ⟨g, off, c, row', by rw [iv_length, h4], r2.out, by rw [r3.out]; exact k1, by rw [iv_length, h4]; omega, k3, ?_⟩, h7.trans r5.out⟩
    rw [iv_length, h4]
    have e1 : (row'.toList.drop off).take i = ((row'.toList.take (off + i)).drop off) := by rw [List.drop_take, Nat.add_sub_cancel_left]
    rw [e1, r4.out, List.drop_take, Nat.add_sub_cancel_left]
    have e2 : (row.toList.drop off).take i = ((row.toList.drop off).take cur.length).take i := by rw [List.take_take, Nat.min_eq_left (by omega)]
    rw [e2, k4, ← h3]
    simp [iv, List.map_take]
theorem cutI_to (a : Addr) (len cap k : Nat) (hl : k ≤ cap) (h0 : a.add 0 = a) (hk : k < 9223372036854775807) :
    ∀ w, (Instr.slice 38 (.slice (some a) len cap) none (some (.int .i64 (k : Int))) none).run Try.prog w = .ok (.slice (some a) k cap) w := by
  intro w
  have hb := run_sliceBound (P := Try.prog) (w := w) .i64 (k : Int) cap .sliceAcap (by omega) (by omega)
  obtain ⟨i, I1, I2, I3, I4⟩ : ∃ i, Try.prog.info? 3 = some i ∧ i.zero = some (.int .i64 0) ∧ i.size = 1 ∧ i.bytes = 8 := ⟨(Try.prog.info? 3).get (by kernel_rfl), by kernel_rfl, by kernel_rfl, by kernel_rfl, by kernel_rfl⟩
  by_cases hc1 : cap = 0
  · subst hc1
    simp [Instr.slice, run_underlying Try.underlying38, Instr.sliceBounds, hb, sizeOf, typeInfo, I1]
  · simp [Instr.slice, run_underlying Try.underlying38, Instr.sliceBounds, hb, sizeOf, typeInfo, I1, hc1, h0]
/-- What DeleteFunc answers. -/
def DelAs (w : World) (v : Value) (a : Option Addr) (c : Nat) (zs : List Int) (e : Ending) (w' : World) : Prop := e = .returned (.slice a zs.length c) ∧ OwnAt w' 3 (.slice a zs.length c) (iv zs) ∧ Fr (fun k => v.ownBlock = some k) w w'
theorem deleteI_in (a : Option Addr) (c : Nat) (zs : List Int) (d : Int) (b : Nat) (w : World) (h : OwnAt w 3 (.slice a zs.length c) (iv zs)) (hb : w.cell? ⟨b, 0, none⟩ = some (.int .i64 d)) (hbn : (Value.slice a zs.length c).ownBlock ≠ some b) (hn : zs.length ≤ 4096) :
    Calls Try.prog 66 #[.slice a zs.length c, .func (.func 67) #[] #[.pointer (some ⟨b, 0, none⟩)]] w fun e w' => DelAs w (.slice a zs.length c) a c (zs.filter (keepB d)) e w' := by
  have HT : Hid (OwnAt w 3 (.slice a zs.length c) (iv zs)) := h
  have HB : Hid (w.cell? ⟨b, 0, none⟩ = some (.int .i64 d)) := hb
  have KI := indexI_in a c zs d b w h hb hn
  obtain ⟨n, hlen⟩ : ∃ n, zs.length = n := ⟨_, rfl⟩
  have HN : Hid (zs.length = n) := hlen
  rw [hlen] at hn KI HT hbn ⊢
  have HBN : Hid ((Value.slice a n c).ownBlock ≠ some b) := hbn
  clear h hlen hb hbn
  go_enter Try.func66, Try.ntmps66
  go_wp2_with (fail)
  refine KI.mono ?_
  rintro e w1 ⟨rfl, (⟨rfl, hall⟩ | ⟨i, rfl, hi, h1, h2⟩)⟩
  · have HA : Hid (zs.filter (keepB d) = zs) := hall
    clear hall
    go_wp2_with (fail)
    go_ret
    refine ⟨?_, ?_, Fr.refl _ _⟩
    · rw [HA.out, HN.out]; rfl
    · rw [HA.out, HN.out]; exact HT.out
  · obtain ⟨z0, hz0⟩ : ∃ z, zs[i]? = some z := ⟨_, List.getElem?_eq_getElem hi⟩
    obtain ⟨g, off, rfl, -, -⟩ := HT.out.ints i z0 hz0
    have HI : Hid (DelI d w g off n c zs i (i + 1) w) := ⟨zs, HT.out, HN.out, by rw [h2], by rw [h2, List.length_take]; omega, rfl, by omega, Fr.refl _ _⟩
    have hi2 : i < n := by rw [← HN.out]; exact hi
    have hni : ((i : Int) == -1) = false := by rw [beq_eq_false_iff_ne]; omega
    have HBG : Hid (b ≠ g) := fun e => HBN.out (by rw [e]; rfl)
    clear h1 h2 hz0 hi
    go_wp2_with (fail)
    go_loopw [5, 6] (fun x5 x6 wr => ∃ (i j : Nat), x5 = .int .i64 (i : Int) ∧ x6 = .int .i64 (j : Int) ∧ i < j ∧ j ≤ n ∧ Hid (DelI d w g off n c zs i j wr)) (fun _ x6 _ => n - (intOf x6).toNat)
    case atStart => exact ⟨i, i + 1, rfl, by go_num, by omega, by omega, HI.out⟩
    case round =>
      obtain ⟨i, j, rfl, rfl, hij, hjn, HS⟩ := hrel
      by_cases hlt : j < n
      · have hlt2 : (j : Int) < (n : Int) := by omega
        obtain ⟨z, hz⟩ : ∃ z, zs[j]? = some z := ⟨_, List.getElem?_eq_getElem (by rw [HN.out]; exact hlt)⟩
        have c0 := delI_cell HS.out hz
        have hbc : wr.cell? ⟨b, 0, none⟩ = some (.int .i64 d) := by
          obtain ⟨_, _, _, _, _, _, _, f⟩ := HS.out
          exact (f.cell (p := ⟨b, 0, none⟩) (World.block_lt_of_cell? _ _ HB.out) HBG.out).trans HB.out
        have K := qdrop1_in z d b wr hbc
        obtain ⟨v, hv⟩ : ∃ v, (z == d) = v := ⟨_, rfl⟩
        rw [hv] at K
        have hkv : keepB d z = !v := by unfold keepB; rw [hv]
        clear hbc hv
        cases v with
        | false =>
          obtain ⟨⟨u, hu⟩, hfz⟩ := delI_old HS.out (by omega)
          have hin : i < n := by omega
          have HS2 : Hid (DelI d w g off n c zs (i + 1) (j + 1) (wr.setCell ⟨g, off + i, none⟩ (.int .i64 z))) := delI_keep HS.out hz hkv hlt
          clear hz hkv
          go_wp2_with (fail)
          refine K.mono ?_
          rintro e w2 ⟨rfl, rfl⟩
          go_wp2_with (fail)
          go_roundw
          case rel => exact ⟨i + 1, j + 1, by go_num, by go_num, by omega, by omega, HS2.out⟩
          case measure => simp [intOf]; omega
        | true =>
          have HS2 : Hid (DelI d w g off n c zs i (j + 1) wr) := delI_skip HS.out hz hkv
          clear hz hkv
          go_wp2_with (fail)
          refine K.mono ?_
          rintro e w2 ⟨rfl, rfl⟩
          go_wp2_with (fail)
          go_roundw
          case rel => exact ⟨i, j + 1, rfl, by go_num, by omega, by omega, HS2.out⟩
          case measure => simp [intOf]; omega
      · have hlt2 : ¬ (j : Int) < (n : Int) := by omega
        have hin : i ≤ n := by
          obtain ⟨cur, _, h2, h3, h4, _⟩ := HS.out
          have := List.length_filter_le (keepB d) (zs.take j)
          have := List.length_take_le j zs
          have := HN.out
          rw [List.length_take] at *
          omega
        obtain ⟨dp, hcut, hdp⟩ := cut_from Try.prog 38 3 Try.underlying38 (by kernel_rfl) ⟨g, off, none⟩ n c i .i64 hin
        obtain ⟨-, hiL, hnc, w2, hclr, HT2, HF2⟩ := delI_end HS.out HN.out (by omega) dp hdp
        have hto := cutI_to ⟨g, off, none⟩ n c i (by omega) rfl (by omega)
        have HIL : Hid (i = (zs.filter (keepB d)).length) := hiL
        clear hiL hdp
        go_wp2_with (fail)
        go_ret
        refine ⟨?_, ?_, HF2.out.mono (fun k _ e => by subst e; rfl)⟩
        · rw [← HIL.out]; rfl
        · rw [← HIL.out]; exact HT2.out
end Go.Proofs.Ytoiencoojkahmaa
