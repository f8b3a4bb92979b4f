/- The document's streams: New, Limit, own, Open, Dropped, find, State. -/
import Derived.Test.YtahlhkpabkplfaaVa
import Derived.Test.YtahlhkpabkplfaaYh
import Derived.BigQuiet
namespace Go.Proofs.Ytahlhkpabkplfaa
open Go.RowKit
set_option linter.unusedVariables false
set_option maxRecDepth 100000
set_option maxHeartbeats 4000000

theorem ryNew_in (base : Nat) (sv : Bool) (most : Int) (w : World) (h0 : 0 ≤ most) (h1 : most ≤ 1024) (hb : base ≤ w.heap.size) :
    Calls Try.prog 13 #[.bool sv, .int .i64 most] w fun e w' => e = .returned (.tuple #[.pointer (some ⟨w.heap.size, 0, none⟩), .int .i64 0]) ∧ RAt base w' w.heap.size (newS sv most) (.slice none 0 0) (.slice none 0 0) ∧ Fr (fun _ => False) w w' := by
  go_enter Try.func13, Try.ntmps13
  go_wp2_with (fail)
  go_ret2
  exact ⟨rfl, ⟨heap_alloc_new w _, RowAt.nil _, OwnAt.nil _ _, inv_new _ _ h0 h1, hb, fun k hk => by simp [Value.ownBlock] at hk, fun k hk => by simp [Value.ownBlock] at hk⟩, (Fr.refl _ _).alloc _⟩
theorem ryNew_not (sv : Bool) (most : Int) (w : World) (h : ¬ (0 ≤ most ∧ most ≤ 1024)) :
    Calls Try.prog 13 #[.bool sv, .int .i64 most] w fun e w' => e = .returned (.tuple #[.pointer none, .int .i64 1]) ∧ w = w' := by
  by_cases g1 : most < 0
  · go_enter Try.func13, Try.ntmps13
    go_wp2_with (fail)
    go_ret2
    exact ⟨rfl, rfl⟩
  · have g2 : 1024 < most := by omega
    go_enter Try.func13, Try.ntmps13
    go_wp2_with (fail)
    go_ret2
    exact ⟨rfl, rfl⟩
theorem setB_fr {X : Nat → Prop} {w : World} {g : Nat} (j : Nat) (v : Value) (hX : X g) : Fr X w (w.setCell ⟨g, j, none⟩ v) := (Fr.refl _ _).setS hX j v
theorem RAt.put {base : Nat} {w : World} {g : Nat} {S T : Stm} {vL vG uL uG : Value} (h : RAt base w g S vL vG) (j : Nat) (v : Value) (e : (#[.bool S.server, .int .i64 S.most, .int .i64 S.mine, vL, vG, .int .i64 S.theirs, .int .i64 S.ours] : Array Value).setIfInBounds j v = #[.bool T.server, .int .i64 T.most, .int .i64 T.mine, uL, uG, .int .i64 T.theirs, .int .i64 T.ours]) (hi : InvS T)
    (hL : RowAt w uL T.L) (hG : OwnAt w 3 uG (T.gone.map (Value.int .i64))) (bL : ∀ k, uL.ownBlock = some k → base ≤ k ∧ k ≠ g) (bG : ∀ k, uG.ownBlock = some k → base ≤ k ∧ k ≠ g) : RAt base (w.setCell ⟨g, j, none⟩ v) g T uL uG := by
  have F : Fr (fun k => k = g) w (w.setCell ⟨g, j, none⟩ v) := setB_fr j v rfl
  exact ⟨by rw [vset h.blk, e], hL.fr F (fun k hk => (bL k hk).2), hG.fr F (fun k hk => (bG k hk).2), hi, h.bg, fun k hk => (bL k hk).1, fun k hk => (bG k hk).1⟩
theorem RAt.bs {base : Nat} {w : World} {g : Nat} {S : Stm} {vL vG : Value} (h : RAt base w g S vL vG) : (∀ k, vL.ownBlock = some k → base ≤ k ∧ k ≠ g) ∧ (∀ k, vG.ownBlock = some k → base ≤ k ∧ k ≠ g) :=
  ⟨fun k hk => ⟨h.bL k hk, h.apart.1 k hk⟩, fun k hk => ⟨h.bG k hk, h.apart.2.1 k hk⟩⟩
theorem ryLimit_in (base g : Nat) (S : Stm) (vL vG : Value) (n : Int) (w : World) (h : RAt base w g S vL vG) : Calls Try.prog 31 #[.pointer (some ⟨g, 0, none⟩), .int .i64 n] w fun e w' => e = .returned (.int .i64 (limitS S n).1) ∧ RAt base w' g (limitS S n).2 vL vG ∧ Fr (fun k => k = g) w w' := by
  have H : Hid (RAt base w g S vL vG) := h
  by_cases hn : n < 0
  · have e1 : limitS S n = (1, S) := by unfold limitS; rw [if_pos hn]
    rw [e1]
    clear h
    go_enter Try.func31, Try.ntmps31
    go_wp2_with (fail)
    go_ret
    exact ⟨rfl, H.out, Fr.refl _ _⟩
  · have e1 : limitS S n = (0, { S with mine := if n ≤ 1024 then n else 1024 }) := by unfold limitS; rw [if_neg hn]
    have h5 := inv_limit h.inv n
    rw [e1] at h5 ⊢
    have z : w.frozen? ⟨g, 2, none⟩ = false := frozen_of_heap h.blk
    obtain ⟨c0, c1, c2, c3, c4, c5, c6⟩ := h.cells
    clear h
    by_cases hx : n ≤ 1024
    · rw [if_pos hx] at h5 ⊢
      have hmin : min n 1024 = n := by omega
      go_enter Try.func31, Try.ntmps31
      go_wp2_with (fail)
      go_ret
      exact ⟨rfl, H.out.put 2 _ rfl h5 H.out.row H.out.gone H.out.bs.1 H.out.bs.2, setB_fr _ _ rfl⟩
    · rw [if_neg hx] at h5 ⊢
      have hmin : min n 1024 = 1024 := by omega
      go_enter Try.func31, Try.ntmps31
      go_wp2_with (fail)
      go_ret
      exact ⟨rfl, H.out.put 2 _ rfl h5 H.out.row H.out.gone H.out.bs.1 H.out.bs.2, setB_fr _ _ rfl⟩
theorem ryown_in (base g : Nat) (S : Stm) (vL vG : Value) (d : Int) (w : World) (h : RAt base w g S vL vG) (hd : 1 ≤ d) : Calls Try.prog 49 #[.pointer (some ⟨g, 0, none⟩), .int .i64 d] w fun e w' => e = .returned (.bool (ownS S.server d)) ∧ w = w' := by
  obtain ⟨c0, -⟩ := h.cells
  have hm : d.tmod 2 = d % 2 := Int.tmod_eq_emod_of_nonneg (by omega)
  go_enter Try.func49, Try.ntmps49
  go_wp2_with (fail)
  go_ret
  exact ⟨rfl, rfl⟩
theorem count_next {L : List (Int × Int)} {i : Nat} {y : Int × Int} (f : Int × Int → Bool) (h : L[i]? = some y) : ((L.take (i + 1)).filter f).length = ((L.take i).filter f).length + (if f y then 1 else 0) := by
  have hl := (List.getElem?_eq_some_iff.1 h).1
  have e : L.take (i + 1) = L.take i ++ [y] := by
    rw [List.take_succ_eq_append_getElem hl]
    rw [List.getElem?_eq_getElem hl] at h
    cases h
    rfl
  rw [e, List.filter_append, List.length_append]
  cases hf : f y <;> simp [hf]
theorem ryOpen_in (base g : Nat) (S : Stm) (vL vG : Value) (own : Bool) (w : World) (h : RAt base w g S vL vG) : Calls Try.prog 36 #[.pointer (some ⟨g, 0, none⟩), .bool own] w fun e w' => e = .returned (.int .i64 (openS S own : Nat)) ∧ w = w' := by
  have H : Hid (RAt base w g S vL vG) := h
  obtain ⟨a, c, rfl, hcap⟩ := h.row.form
  obtain ⟨c0, c1, c2, c3, c4, c5, c6⟩ := h.cells
  have hfew := few_known h.inv
  obtain ⟨n, hn⟩ : ∃ n, S.L.length = n := ⟨_, rfl⟩
  rw [hn] at c3 hfew hcap H
  have HN : Hid (S.L.length = n) := hn
  clear h hn
  go_enter Try.func36, Try.ntmps36
  go_wp2_with (fail)
  go_loopw [5, 6] (fun x5 x6 wr => ∃ i k : Nat, x5 = .int .i64 (k : Int) ∧ x6 = .int .i64 (i : Int) ∧ i ≤ n ∧ k ≤ i ∧ w = wr ∧ Hid (k = ((S.L.take i).filter (countS S.server own)).length)) (fun _ x6 _ => n - (intOf x6).toNat)
  case atStart => exact ⟨0, 0, rfl, rfl, by omega, by omega, rfl, by show 0 = _; simp⟩
  case round =>
    obtain ⟨i, k, rfl, rfl, hin, hki, rfl, HK⟩ := hrel
    by_cases hlt : i < n
    · have hlt2 : (i : Int) < (n : Int) := by omega
      obtain ⟨⟨yd, ys⟩, hy⟩ : ∃ y, S.L[i]? = some y := ⟨S.L[i]'(by rw [HN.out]; exact hlt), List.getElem?_eq_getElem _⟩
      obtain ⟨gl, cap, e1, r0, r1, -⟩ := H.out.row.cells i _ hy
      cases e1
      have hnum := (H.out.inv.num _ (List.mem_of_getElem? hy)).1
      have hst := H.out.inv.st _ (List.mem_of_getElem? hy)
      dsimp only at hnum hst r0 r1
      have KO := ryown_in base g S _ vG yd w H.out hnum
      have HX : Hid (((S.L.take (i + 1)).filter (countS S.server own)).length = k + (if countS S.server own (yd, ys) then 1 else 0)) := by
        show _ = _
        rw [count_next _ hy, ← HK.out]
      have hs4 : ¬ ys = 4 := by omega
      clear hy hnum
      obtain ⟨b, hb⟩ : ∃ b, ownS S.server yd = b := ⟨_, rfl⟩
      rw [hb] at KO
      have HCo : Hid (countS S.server own (yd, ys) = (b == own)) := by show _ = _; simp [countS, hb, hs4]
      clear hb hst
      cases b <;> cases own
      all_goals
        go_wp2_with (go_at_call 49; refine KO.mono ?_; clear KO; rintro e w' ⟨rfl, rfl⟩)
        go_roundw
        case rel =>
          first
            | exact ⟨i + 1, k, rfl, by go_num, by omega, by omega, (by first | rfl | trivial), by show _ = _; rw [HX.out, HCo.out]; rfl⟩
            | exact ⟨i + 1, k + 1, by go_num, by go_num, by omega, by omega, (by first | rfl | trivial), by show _ = _; rw [HX.out, HCo.out]; rfl⟩
        case measure => simp [intOf]; omega
    · obtain rfl : n = i := by omega
      go_wp2_with (fail)
      go_ret
      have e := HK.out
      rw [← HN.out, List.take_length] at e
      exact ⟨by unfold openS; rw [← e]; rfl, rfl⟩
theorem ryDropped_in (base g : Nat) (S : Stm) (vL vG : Value) (d : Int) (w : World) (h : RAt base w g S vL vG) : Calls Try.prog 33 #[.pointer (some ⟨g, 0, none⟩), .int .i64 d] w fun e w' => e = .returned (.bool (S.gone.contains d)) ∧ w = w' := by
  have H : Hid (RAt base w g S vL vG) := h
  obtain ⟨a, c, rfl, hcap⟩ := h.gone.form
  obtain ⟨c0, c1, c2, c3, c4, c5, c6⟩ := h.cells
  have hfew := h.inv.few
  obtain ⟨n, hn⟩ : ∃ n, S.gone.length = n := ⟨_, rfl⟩
  rw [List.length_map, hn] at c4 hcap H
  rw [hn] at hfew
  have HN : Hid (S.gone.length = n) := hn
  clear h hn
  go_enter Try.func33, Try.ntmps33
  go_wp2_with (fail)
  go_loopw [5] (fun x5 wr => ∃ i : Nat, x5 = .int .i64 (i : Int) ∧ i ≤ n ∧ w = wr ∧ Hid (d ∉ S.gone.take i)) (fun x5 _ => n - (intOf x5).toNat)
  case atStart => exact ⟨0, rfl, by omega, rfl, by show _ ∉ _; simp⟩
  case round =>
    obtain ⟨i, rfl, hin, rfl, HK⟩ := hrel
    by_cases hlt : i < n
    · have hlt2 : (i : Int) < (n : Int) := by omega
      have hl : i < S.gone.length := by rw [HN.out]; exact hlt
      obtain ⟨v, hv⟩ : ∃ v, S.gone[i]? = some v := ⟨S.gone[i], List.getElem?_eq_getElem hl⟩
      obtain ⟨gl, off, cap, e1, r0, -⟩ := H.out.gone.cells i (.int .i64 v) (by rw [List.getElem?_map, hv]; rfl)
      have e2 := (Value.slice.inj e1).1
      subst e2
      clear e1
      have HV : Hid (S.gone[i]? = some v) := hv
      clear hv hl
      by_cases hd : v = d
      · subst hd
        go_wp2_with (fail)
        go_ret
        have : S.gone.contains v = true := List.contains_iff_mem.2 (List.mem_of_getElem? HV.out)
        rw [this]
        exact ⟨rfl, rfl⟩
      · go_wp2_with (fail)
        go_roundw
        case rel => exact ⟨i + 1, by go_num, by omega, (by first | rfl | trivial), take_not HK.out (by rw [List.getD_eq_getElem?_getD, HV.out]; exact hd)⟩
        case measure => simp [intOf]; omega
    · obtain rfl : n = i := by omega
      go_wp2_with (fail)
      go_ret
      have e := HK.out
      rw [← HN.out, List.take_length] at e
      have : S.gone.contains d = false := by
        cases hc : S.gone.contains d with
        | false => rfl
        | true => exact absurd (List.contains_iff_mem.1 hc) e
      rw [this]
      exact ⟨rfl, rfl⟩
/-- Where a stream stands. -/
def FoundS (L : List (Int × Int)) (d : Int) (r : Int) : Prop := (r = -1 ∧ findS L d = none) ∨ ∃ (i : Nat) (y : Int × Int), r = (i : Int) ∧ L[i]? = some y ∧ y.1 = d ∧ findS L d = some y ∧ ∀ x ∈ L.take i, x.1 ≠ d
theorem find_here {L : List (Int × Int)} {i : Nat} {y : Int × Int} {d : Int} (hy : L[i]? = some y) (hd : y.1 = d) (hn : ∀ x ∈ L.take i, x.1 ≠ d) : findS L d = some y := by
  have hl := (List.getElem?_eq_some_iff.1 hy).1
  have e : L = L.take i ++ y :: L.drop (i + 1) := by
    rw [List.getElem?_eq_getElem hl] at hy
    cases hy
    rw [← List.drop_eq_getElem_cons hl, List.take_append_drop]
  have h1 : findS (L.take i) d = none := find_of_none hn
  rw [e]
  unfold findS at h1 ⊢
  rw [List.find?_append, h1]
  simp [hd]
theorem ryfind_in (base g : Nat) (S : Stm) (vL vG : Value) (d : Int) (w : World) (h : RAt base w g S vL vG) : Calls Try.prog 52 #[.pointer (some ⟨g, 0, none⟩), .int .i64 d] w fun e w' => (∃ r, e = .returned (.int .i64 r) ∧ FoundS S.L d r) ∧ w = w' := by
  have H : Hid (RAt base w g S vL vG) := h
  obtain ⟨a, c, rfl, hcap⟩ := h.row.form
  obtain ⟨c0, c1, c2, c3, c4, c5, c6⟩ := h.cells
  have hfew := few_known h.inv
  obtain ⟨n, hn⟩ : ∃ n, S.L.length = n := ⟨_, rfl⟩
  rw [hn] at c3 hfew hcap H
  have HN : Hid (S.L.length = n) := hn
  clear h hn
  go_enter Try.func52, Try.ntmps52
  go_wp2_with (fail)
  go_loopw [5] (fun x5 wr => ∃ i : Nat, x5 = .int .i64 (i : Int) ∧ i ≤ n ∧ w = wr ∧ Hid (∀ x ∈ S.L.take i, x.1 ≠ d)) (fun x5 _ => n - (intOf x5).toNat)
  case atStart => exact ⟨0, rfl, by omega, rfl, fun x hx => by simp at hx⟩
  case round =>
    obtain ⟨i, rfl, hin, rfl, HK⟩ := hrel
    by_cases hlt : i < n
    · have hlt2 : (i : Int) < (n : Int) := by omega
      obtain ⟨⟨yd, ys⟩, hy⟩ : ∃ y, S.L[i]? = some y := ⟨S.L[i]'(by rw [HN.out]; exact hlt), List.getElem?_eq_getElem _⟩
      obtain ⟨gl, cap, e1, r0, r1, -⟩ := H.out.row.cells i _ hy
      cases e1
      dsimp only at r0 r1
      have HY : Hid (S.L[i]? = some (yd, ys)) := hy
      clear hy
      by_cases hd : yd = d
      · subst hd
        go_wp2_with (fail)
        go_ret
        exact ⟨⟨i, rfl, .inr ⟨i, _, rfl, HY.out, rfl, find_here HY.out rfl HK.out, HK.out⟩⟩, rfl⟩
      · go_wp2_with (fail)
        go_roundw
        case rel =>
          refine ⟨i + 1, by go_num, by omega, (by first | rfl | trivial), fun x hx => ?_⟩
          have hl := (List.getElem?_eq_some_iff.1 HY.out).1
          rw [List.take_succ_eq_append_getElem hl, List.mem_append, List.mem_singleton] at hx
          rcases hx with hx | rfl
          · exact HK.out x hx
          · have e := HY.out
            rw [List.getElem?_eq_getElem hl] at e
            rw [Option.some.inj e]
            exact hd
        case measure => simp [intOf]; omega
    · obtain rfl : n = i := by omega
      go_wp2_with (fail)
      go_ret
      have e := HK.out
      rw [← HN.out, List.take_length] at e
      exact ⟨⟨-1, rfl, .inl ⟨rfl, find_of_none e⟩⟩, rfl⟩
end Go.Proofs.Ytahlhkpabkplfaa
