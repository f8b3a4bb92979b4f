/- Choose: the document's; ints; awake; a cut of backends. -/
import Derived.Test.YtedkjlhhgalcfaaHf
import Derived.Test.YtedkjlhhgalcfaaHi
namespace Go.Proofs.Ytedkjlhhgalcfaa
open Go.RowKit
set_option linter.unusedVariables false
set_option maxRecDepth 100000
set_option maxHeartbeats 4000000

theorem rpkChoose_in (q : Option Addr) (c n : Nat) (L : List Bk) (d : Int) (w : World) (h : BacksAt w q c L) (hl : L.length = n) (hd : IsI d) : Calls Try.prog 15 #[.slice q n c, .int .i64 d] w (ChoA L d w) := by
  have K := rpkTies_in q c n L w h hl
  have hnb : (n : Int) ≤ 6000000000000 := by have := h.few; rw [hl] at this; have h2 : reachBytes < 2 ^ 47 := reach_lt; omega
  have htl : (tieL L).length ≤ n := by rw [← hl]; exact nums_len _ _ _
  unfold ChoA
  obtain ⟨T, hT⟩ : ∃ T, tieL L = T := ⟨_, rfl⟩
  rw [hT] at K htl ⊢
  obtain ⟨d1, d2⟩ := hd
  clear h hl hT
  obtain ⟨m, hm⟩ : ∃ m, T.length = m := ⟨_, rfl⟩
  have HM : Hid (T.length = m) := hm
  rw [hm] at htl
  clear hm
  by_cases hz : m = 0
  · subst hz
    obtain ⟨e1, e2⟩ := ch_none HM.out d
    rw [e1, e2]
    clear e1 e2
    go_enter Try.func15, Try.ntmps15
    go_wp2_with (go_at_call 13; refine K.mono ?_; clear K; rintro e w1 ⟨a, m, tc, rfl, h1⟩; have e1 := h1.own.lenI.1; rw [HM.out] at e1; subst e1)
    go_ret2
    exact ⟨rfl, h1.fr⟩
  · obtain ⟨r, hr, hrm, hx, hE⟩ := ch_some (t := T) (by rw [HM.out]; exact hz) d
    rw [hE]
    rw [HM.out] at hr hrm
    obtain ⟨X, hX⟩ : ∃ X, chI T d = X := ⟨_, rfl⟩
    rw [hX] at hx ⊢
    clear hX hE
    have hmz : (m : Int) ≠ 0 := by omega
    have hmp : (0 : Int) < m := by omega
    have hrm2 : (r : Int) < (m : Int) := by omega
    have HX : Hid (T[r]? = some X) := hx
    clear hx
    by_cases hneg : d.tmod (m : Int) < 0
    · have hs : d.tmod (m : Int) + (m : Int) = (r : Int) := by rw [hr]; exact rest_lt hmp hneg
      obtain ⟨z, hz2⟩ : ∃ z, d.tmod (m : Int) = z := ⟨_, rfl⟩
      rw [hz2] at hs hneg
      have b1 : z + (m : Int) ≤ 9223372036854775807 := by omega
      have b2 : -9223372036854775808 ≤ z + (m : Int) := by omega
      clear hr
      go_enter Try.func15, Try.ntmps15
      go_wp2_with (go_at_call 13; refine K.mono ?_; clear K; rintro e w1 ⟨a, tm, tc, rfl, h1⟩; obtain ⟨e1, e2⟩ := h1.own.lenI; rw [HM.out] at e1 e2; subst e1; obtain ⟨gt, ot, rfl, -, c0⟩ := h1.own.ints r X HX.out; have F1 : Hid (Fr (fun _ => False) w w1) := h1.fr; clear h1)
      go_ret2
      exact ⟨rfl, F1.out⟩
    · have hs : d.tmod (m : Int) = (r : Int) := by rw [hr]; exact rest_ge hmp (by omega)
      have hneg2 : ¬ (r : Int) < 0 := by omega
      clear hneg hr
      go_enter Try.func15, Try.ntmps15
      go_wp2_with (go_at_call 13; refine K.mono ?_; clear K; rintro e w1 ⟨a, tm, tc, rfl, h1⟩; obtain ⟨e1, e2⟩ := h1.own.lenI; rw [HM.out] at e1 e2; subst e1; obtain ⟨gt, ot, rfl, -, c0⟩ := h1.own.ints r X HX.out; have F1 : Hid (Fr (fun _ => False) w w1) := h1.fr; clear h1)
      go_ret2
      exact ⟨rfl, F1.out⟩
theorem pkints_in (a b : Option Addr) (c d n m : Nat) (xs : List Int) (w : World) (h1 : OwnAt w 3 (.slice a n c) (iv xs)) (h2 : OwnAt w 3 (.slice b m d) (iv xs)) (hx : xs.length ≤ 6000000000000) :
    Calls Try.prog 8 #[.slice a n c, .slice b m d] w fun e w' => e = .returned (.bool true) ∧ Fr (fun _ => False) w w' := by
  have H1 : Hid (OwnAt w 3 (.slice a n c) (iv xs)) := h1
  have H2 : Hid (OwnAt w 3 (.slice b m d) (iv xs)) := h2
  have hm := h2.lenI.1
  have hn := h1.lenI.1
  rw [← hn] at hm
  subst hm
  have HN : Hid (xs.length = m) := hn.symm
  rw [← hn] at hx
  clear h1 h2 hn
  go_enter Try.func8, Try.ntmps8
  go_wp2_with (fail)
  go_loopw [5] (fun x5 wr => ∃ i : Nat, x5 = .int .i64 (i : Int) ∧ i ≤ m ∧ Hid (Fr (fun _ => False) w wr)) (fun x5 _ => m - (intOf x5).toNat)
  case atStart => exact ⟨0, rfl, by omega, Fr.refl _ _⟩
  case round =>
    obtain ⟨i, rfl, hin, HF⟩ := hrel
    by_cases hlt : i < m
    · obtain ⟨x, hs⟩ : ∃ x, xs[i]? = some x := ⟨_, List.getElem?_eq_getElem (by rw [HN.out]; exact hlt)⟩
      obtain ⟨g1, o1, rfl, -, a0⟩ := (H1.out.fr HF.out (fun _ _ => id)).ints i x hs
      obtain ⟨g2, o2, rfl, -, b0⟩ := (H2.out.fr HF.out (fun _ _ => id)).ints i x hs
      have hlt2 : (i : Int) < (m : Int) := by omega
      clear hs
      go_wp2_with (fail)
      go_quiet (fail)
      go_wp2_with (fail)
      go_roundw
      case rel => exact ⟨i + 1, by go_num, by omega, HF.out.drewN _⟩
      case measure => simp [intOf]; omega
    · go_wp2_with (fail)
      go_ret
      exact ⟨rfl, HF.out⟩
def awkL : List Bk := [(false, 0, 0), (true, 1, 0)]
theorem awk_ch : chI (tieL awkL) 5 = 1 ∧ chE (tieL awkL) = 0 := by decide
theorem pkawake_in (w : World) : Calls Try.prog 11 #[] w fun e w' => e = .returned (.bool true) ∧ Fr (fun _ => False) w w' := by
  obtain ⟨wa, hwa⟩ : ∃ wa, wa = w.alloc (Obj.cells #[.bool false, .int .i64 0, .int .i64 0, .bool true, .int .i64 1, .int .i64 0] 35) := ⟨_, rfl⟩
  have Fa : Hid (Fr (fun _ => False) w wa) := by rw [hwa]; exact (Fr.refl _ _).alloc _
  have ba : wa.heap[w.heap.size]? = some (.cells #[.bool false, .int .i64 0, .int .i64 0, .bool true, .int .i64 1, .int .i64 0] 35 (0, 0)) := by rw [hwa]; exact heap_alloc_new _ _
  have hB : BacksAt wa (some ⟨w.heap.size, 0, none⟩) 2 awkL := by
    refine ⟨by decide, by decide, fun r x hr => ⟨w.heap.size, 0, rfl, lt_of_heap ba, ?_⟩⟩
    match r, hr with
    | 0, hr => cases hr; exact ⟨cell_of_heap ba rfl, cell_of_heap ba rfl, cell_of_heap ba rfl, ⟨by decide, by decide⟩, ⟨by decide, by decide⟩⟩
    | 1, hr => cases hr; exact ⟨cell_of_heap ba rfl, cell_of_heap ba rfl, cell_of_heap ba rfl, ⟨by decide, by decide⟩, ⟨by decide, by decide⟩⟩
    | r + 2, hr => simp [awkL] at hr
  have K := pkChoose_in (some ⟨w.heap.size, 0, none⟩) 2 2 awkL 5 wa hB rfl ⟨by decide, by decide⟩
  unfold ChoA at K
  rw [awk_ch.1, awk_ch.2] at K
  rw [hwa] at K
  have Fb : Hid (Fr (fun _ => False) w (w.alloc (Obj.cells #[.bool false, .int .i64 0, .int .i64 0, .bool true, .int .i64 1, .int .i64 0] 35))) := (Fr.refl _ _).alloc _
  clear hB ba Fa hwa wa
  go_enter Try.func11, Try.ntmps11
  go_wp2_with (go_at_call 14; refine K.mono ?_; clear K; rintro e w1 ⟨rfl, f1⟩)
  go_ret
  exact ⟨rfl, Fb.out.trans f1⟩
/-- A cut of backends from the beginning. -/
theorem cutB (a : Option Addr) (len cap hi : Nat) (h2 : hi ≤ cap) (h3 : hi ≤ 1000000) : ∀ w, (Instr.slice 22 (.slice a len cap) none (some (.int .i64 (hi : Int))) none).run Try.prog w = .ok (.slice a hi cap) w := by
  intro w
  have hsz : (Try.prog.info? 35).map (·.size) = some 3 := by kernel_rfl
  have hb1 := run_sliceBound (P := Try.prog) (w := w) .i64 (hi : Int) cap .sliceAcap (by omega) (by omega)
  have ha : ∀ ad : Addr, ad.add 0 = ad := fun ad => by simp [Addr.add]
  cases hi5 : Try.prog.info? 35 with
  | none => simp [hi5] at hsz
  | some i => cases a <;> simp [Instr.slice, run_underlying Try.underlying22, Instr.sliceBounds, hb1, sizeOf, typeInfo, hi5, ha]
theorem BacksAt.cut {w : World} {q : Option Addr} {c : Nat} {L : List Bk} (h : BacksAt w q c L) (k : Nat) : BacksAt w q c (L.take k) := by
  have hl : (L.take k).length ≤ L.length := by rw [List.length_take]; omega
  refine ⟨Nat.le_trans hl h.cap, Nat.le_trans (Nat.mul_le_mul_right _ hl) h.few, fun r x hr => h.cells r x ?_⟩
  rw [List.getElem?_take] at hr
  split at hr
  · exact hr
  · cases hr
theorem BacksAt.small {w : World} {q : Option Addr} {c : Nat} {L : List Bk} (h : BacksAt w q c L) : L.length ≤ 6000000000000 := by
  have := h.few
  have h2 : reachBytes < 2 ^ 47 := reach_lt
  omega
end Go.Proofs.Ytedkjlhhgalcfaa
