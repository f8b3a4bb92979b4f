/- The walk of PickLeast. -/
import Derived.Test.YtedkjlhhgalcfaaHj
namespace Go.Proofs.Ytedkjlhhgalcfaa
open Go.RowKit
set_option linter.unusedVariables false
set_option maxRecDepth 100000
set_option maxHeartbeats 4000000

/-- Fits one of the first k? -/
def someK (L : List Bk) (k : Nat) : Bool := (L.take k).any fitB
theorem someK_next {L : List Bk} {x : Bk} {k : Nat} (h : L[k]? = some x) : someK L (k + 1) = (someK L k || fitB x) := by
  unfold someK
  rw [List.take_add_one, h, List.any_append]
  simp
theorem someK_all {L : List Bk} {x : Bk} {k r : Nat} (h : L.length ≤ k) (hr : L[r]? = some x) (hf : fitB x = true) : someK L k = true := by
  unfold someK
  rw [List.take_of_length_le h, List.any_eq_true]
  exact ⟨x, List.mem_of_getElem? hr, hf⟩
theorem none_fits {L : List Bk} (h : Lds L) (hT : (tieL L).length = 0) {r : Nat} {x : Bk} (hx : L[r]? = some x) : fitB x = false := by
  cases hf : fitB x with
  | false => rfl
  | true => exact absurd (List.eq_nil_of_length_eq_zero hT) (ties_some h (nums_mem.2 ⟨r, rfl, (List.getElem?_eq_some_iff.1 hx).1, x, hx, hf⟩))
/-- The chosen one fits, and none that fits has less load. -/
theorem the_least {L : List Bk} {X : Int} (hX : X ∈ tieL L) : ∃ (r : Nat) (x : Bk), X = (r : Int) ∧ r < L.length ∧ L[r]? = some x ∧ fitB x = true ∧ ∀ (k : Nat) y, L[k]? = some y → fitB y = true → x.2.2 ≤ y.2.2 := by
  obtain ⟨h1, h2⟩ := tie_mem.1 hX
  obtain ⟨r, rfl, hr, x, hx, hf⟩ := nums_mem.1 h1
  refine ⟨r, x, rfl, hr, hx, hf, fun k y hy hfy => ?_⟩
  have := lst_le (L := L) (F := fitL L) (nums_mem.2 ⟨k, rfl, (List.getElem?_eq_some_iff.1 hy).1, y, hy, hfy⟩)
  rw [load_at hy] at this
  rw [load_at hx] at h2
  omega
theorem fit_parts {u : Bool} {s l : Int} (h : fitB (u, s, l) = true) : u = true ∧ 0 < s := by
  unfold fitB at h
  simpa using h
theorem least_walk (q : Option Addr) (c n : Nat) (L : List Bk) (d : Int) (W : World) (h : BacksAt W q c L) (hl : L.length = n) (hd : IsI d) : Calls Try.prog 6 #[.slice q n c, .int .i64 d] W fun e W' => e = .returned (.bool true) ∧ Below W.heap.size W W' := by
  have HB : Hid (BacksAt W q c L) := h
  have HL : Hid (L.length = n) := hl
  have hnb : (n : Int) ≤ 6000000000000 := by have := h.small; omega
  have hnc : n ≤ c := by have := h.cap; rw [hl] at this; exact this
  have K := pkChoose_in q c n L d W h hl hd
  have HI : Hid (Lds L) := h.lds
  unfold ChoA at K
  clear h hl hd
  by_cases hz : (tieL L).length = 0
  · obtain ⟨e1, e2⟩ := ch_none hz d
    rw [e1, e2] at K
    have HZ : Hid ((tieL L).length = 0) := hz
    clear hz e1 e2
    go_enter Try.func6, Try.ntmps6
    go_wp2_with (go_at_call 14; refine K.mono ?_; clear K; rintro e w1 ⟨rfl, f1⟩; have F1 : Hid (Fr (fun _ => False) W w1) := f1; clear f1)
    go_loopw [7, 8] (fun x7 x8 wr => ∃ i : Nat, x7 = .bool false ∧ x8 = .int .i64 (i : Int) ∧ i ≤ n ∧ Hid (Fr (fun _ => False) W wr)) (fun _ x8 _ => n - (intOf x8).toNat)
    case atStart => exact ⟨0, rfl, rfl, by omega, F1.out⟩
    case round =>
      obtain ⟨i, rfl, rfl, hin, HR⟩ := hrel
      by_cases hlt : i < n
      · have hlt2 : (i : Int) < (n : Int) := by omega
        obtain ⟨x, hx⟩ : ∃ d, L[i]? = some d := ⟨L[i]'(by rw [HL.out]; exact hlt), List.getElem?_eq_getElem _⟩
        have hf := none_fits HI.out HZ.out hx
        obtain ⟨gq, oq, rfl, hgq, d0, d1, d2, -, -⟩ := HB.out.cells i x hx
        obtain ⟨u, s, l⟩ := x
        have c0 : wr.cell? ⟨gq, oq + i * 3, none⟩ = some (.bool u) := (HR.out.cell (p := ⟨gq, oq + i * 3, none⟩) hgq id).trans d0
        have c1 : wr.cell? ⟨gq, oq + i * 3 + 1, none⟩ = some (.int .i64 s) := (HR.out.cell (p := ⟨gq, oq + i * 3 + 1, none⟩) hgq id).trans d1
        clear hx hgq d0 d1 d2
        cases u
        · clear hf
          go_wp2_with (fail)
          go_quiet (fail)
          go_wp2_with (fail)
          go_roundw
          case rel => exact ⟨i + 1, rfl, by go_num, by omega, HR.out.drewN _⟩
          case measure => simp [intOf]; omega
        · have hs : ¬ 0 < s := by unfold fitB at hf; simpa using hf
          have hs2 : decide (0 < s) = false := decide_eq_false hs
          clear hf
          go_wp2_with (fail)
          go_quiet (fail)
          go_wp2_with (fail)
          go_roundw
          case rel => exact ⟨i + 1, rfl, by go_num, by omega, HR.out.drewN _⟩
          case measure => simp [intOf]; omega
      · have hlt2 : ¬ (i : Int) < (n : Int) := by omega
        go_wp2_with (go_at_call 11; refine (pkawake_in _).mono ?_; rintro e w4 ⟨rfl, f4⟩)
        go_ret
        exact ⟨rfl, (HR.out.trans f4).below (fun _ _ => id)⟩
  · obtain ⟨r', -, -, hx', hE⟩ := ch_some hz d
    rw [hE] at K
    obtain ⟨r, ⟨u0, s0, l0⟩, hXr, hr, hx0, hf0, hle⟩ := the_least (List.mem_of_getElem? hx')
    rw [hXr] at K
    rw [HL.out] at hr
    obtain ⟨rfl, hs0⟩ := fit_parts hf0
    have HLe : Hid (∀ (k : Nat) y, L[k]? = some y → fitB y = true → l0 ≤ y.2.2) := hle
    have HX0 : Hid (L[r]? = some (true, s0, l0)) := hx0
    have HF0 : Hid (fitB (true, s0, l0) = true) := hf0
    obtain ⟨gq, oq, rfl, hgq, p0, p1, p2, -, -⟩ := HB.out.cells r _ hx0
    have HP : Hid (gq < W.heap.size ∧ W.cell? ⟨gq, oq + r * 3, none⟩ = some (.bool true) ∧ W.cell? ⟨gq, oq + r * 3 + 1, none⟩ = some (.int .i64 s0) ∧ W.cell? ⟨gq, oq + r * 3 + 2, none⟩ = some (.int .i64 l0)) := ⟨hgq, p0, p1, p2⟩
    have hr2 : (r : Int) < (n : Int) := by omega
    have hr0 : (0 : Int) ≤ (r : Int) := by omega
    have hs02 : decide (0 < s0) = true := decide_eq_true hs0
    clear hz hx' hE hXr hle hx0 hf0 p0 p1 p2 hgq
    go_enter Try.func6, Try.ntmps6
    go_wp2_with (go_at_call 14; refine K.mono ?_; clear K; rintro e w1 ⟨rfl, f1⟩; have F1 : Hid (Fr (fun _ => False) W w1) := f1; clear f1)
    go_loopw [7, 8] (fun x7 x8 wr => ∃ i : Nat, x7 = .bool (someK L i) ∧ x8 = .int .i64 (i : Int) ∧ i ≤ n ∧ Hid (Fr (fun _ => False) W wr)) (fun _ x8 _ => n - (intOf x8).toNat)
    case atStart => exact ⟨0, rfl, rfl, by omega, F1.out⟩
    case round =>
      obtain ⟨i, rfl, rfl, hin, HR⟩ := hrel
      have b0 : wr.cell? ⟨gq, oq + r * 3, none⟩ = some (.bool true) := (HR.out.cell (p := ⟨gq, oq + r * 3, none⟩) HP.out.1 id).trans HP.out.2.1
      have b1 : wr.cell? ⟨gq, oq + r * 3 + 1, none⟩ = some (.int .i64 s0) := (HR.out.cell (p := ⟨gq, oq + r * 3 + 1, none⟩) HP.out.1 id).trans HP.out.2.2.1
      have b2 : wr.cell? ⟨gq, oq + r * 3 + 2, none⟩ = some (.int .i64 l0) := (HR.out.cell (p := ⟨gq, oq + r * 3 + 2, none⟩) HP.out.1 id).trans HP.out.2.2.2
      by_cases hlt : i < n
      · have hlt2 : (i : Int) < (n : Int) := by omega
        obtain ⟨x, hx⟩ : ∃ d, L[i]? = some d := ⟨L[i]'(by rw [HL.out]; exact hlt), List.getElem?_eq_getElem _⟩
        obtain ⟨u, s, l⟩ := x
        obtain ⟨gq', oq', e1, -, d0, d1, d2, -, -⟩ := HB.out.cells i _ hx
        cases e1
        have c0 : wr.cell? ⟨gq, oq + i * 3, none⟩ = some (.bool u) := (HR.out.cell (p := ⟨gq, oq + i * 3, none⟩) HP.out.1 id).trans d0
        have c1 : wr.cell? ⟨gq, oq + i * 3 + 1, none⟩ = some (.int .i64 s) := (HR.out.cell (p := ⟨gq, oq + i * 3 + 1, none⟩) HP.out.1 id).trans d1
        have c2 : wr.cell? ⟨gq, oq + i * 3 + 2, none⟩ = some (.int .i64 l) := (HR.out.cell (p := ⟨gq, oq + i * 3 + 2, none⟩) HP.out.1 id).trans d2
        have HD : Hid (L[i]? = some (u, s, l)) := hx
        have HN0 : Hid (someK L (i + 1) = (someK L i || fitB (u, s, l))) := someK_next hx
        obtain ⟨V, hV⟩ : ∃ V, someK L i = V := ⟨_, rfl⟩
        rw [hV] at HN0 ⊢
        clear hx d0 d1 d2 hV b0 b1
        cases V
        · cases u
          · have HN : Hid (someK L (i + 1) = false) := by show _ = _; rw [HN0.out]; rfl
            go_wp2_with (fail)
            go_quiet (fail)
            go_wp2_with (fail)
            go_roundw
            case rel => exact ⟨i + 1, by rw [HN.out], by go_num, by omega, HR.out.drewN _⟩
            case measure => simp [intOf]; omega
          · by_cases hs : 0 < s
            · have hs2 : decide (0 < s) = true := decide_eq_true hs
              have HN : Hid (someK L (i + 1) = true) := by show _ = _; rw [HN0.out]; unfold fitB; simp [hs]
              have hll : l0 ≤ l := HLe.out i (true, s, l) HD.out (by unfold fitB; simp [hs])
              have hll2 : decide (l < l0) = false := decide_eq_false (by omega)
              go_wp2_with (fail)
              go_quiet (fail)
              go_wp2_with (fail)
              go_roundw
              case rel => exact ⟨i + 1, by rw [HN.out], by go_num, by omega, HR.out.drewN _⟩
              case measure => simp [intOf]; omega
            · have hs2 : decide (0 < s) = false := decide_eq_false hs
              have HN : Hid (someK L (i + 1) = false) := by show _ = _; rw [HN0.out]; unfold fitB; simp [hs]
              go_wp2_with (fail)
              go_quiet (fail)
              go_wp2_with (fail)
              go_roundw
              case rel => exact ⟨i + 1, by rw [HN.out], by go_num, by omega, HR.out.drewN _⟩
              case measure => simp [intOf]; omega
        · cases u
          · have HN : Hid (someK L (i + 1) = true) := by show _ = _; rw [HN0.out]; rfl
            go_wp2_with (fail)
            go_quiet (fail)
            go_wp2_with (fail)
            go_roundw
            case rel => exact ⟨i + 1, by rw [HN.out], by go_num, by omega, HR.out.drewN _⟩
            case measure => simp [intOf]; omega
          · by_cases hs : 0 < s
            · have hs2 : decide (0 < s) = true := decide_eq_true hs
              have HN : Hid (someK L (i + 1) = true) := by show _ = _; rw [HN0.out]; unfold fitB; simp [hs]
              have hll : l0 ≤ l := HLe.out i (true, s, l) HD.out (by unfold fitB; simp [hs])
              have hll2 : decide (l < l0) = false := decide_eq_false (by omega)
              go_wp2_with (fail)
              go_quiet (fail)
              go_wp2_with (fail)
              go_roundw
              case rel => exact ⟨i + 1, by rw [HN.out], by go_num, by omega, HR.out.drewN _⟩
              case measure => simp [intOf]; omega
            · have hs2 : decide (0 < s) = false := decide_eq_false hs
              have HN : Hid (someK L (i + 1) = true) := by show _ = _; rw [HN0.out]; unfold fitB; simp [hs]
              go_wp2_with (fail)
              go_quiet (fail)
              go_wp2_with (fail)
              go_roundw
              case rel => exact ⟨i + 1, by rw [HN.out], by go_num, by omega, HR.out.drewN _⟩
              case measure => simp [intOf]; omega
      · have hlt2 : ¬ (i : Int) < (n : Int) := by omega
        have HE : Hid (someK L i = true) := someK_all (by rw [HL.out]; omega) HX0.out HF0.out
        rw [HE.out]
        go_wp2_with (go_at_call 11; refine (pkawake_in _).mono ?_; rintro e w4 ⟨rfl, f4⟩)
        go_ret
        exact ⟨rfl, (HR.out.trans f4).below (fun _ _ => id)⟩
end Go.Proofs.Ytedkjlhhgalcfaa
