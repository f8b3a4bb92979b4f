/- Ties: the document's. -/
import Derived.Test.YtedkjlhhgalcfaaHg
namespace Go.Proofs.Ytedkjlhhgalcfaa
open Go.RowKit
set_option linter.unusedVariables false
set_option maxRecDepth 100000
set_option maxHeartbeats 4000000

/-- None of the first k has less load. -/
def docK (L : List Bk) (F : List Int) (a : Int) (k : Nat) : Bool := (F.take k).all fun b => decide (loadAt L a ≤ loadAt L b)
theorem docK_next {L : List Bk} {F : List Int} {a b : Int} {k : Nat} (h : F[k]? = some b) : docK L F a (k + 1) = (docK L F a k && decide (loadAt L a ≤ loadAt L b)) := by
  unfold docK
  rw [List.take_add_one, h, List.all_append]
  simp
theorem docK_all {L : List Bk} {F : List Int} {a : Int} {k : Nat} (h : F.length ≤ k) : docK L F a k = docT L F a := by
  unfold docK docT
  rw [List.take_of_length_le h]
theorem take_filter_yes {F : List Int} {Q : Int → Bool} {i : Nat} {a : Int} (h : F[i]? = some a) (hq : Q a = true) : (F.take (i + 1)).filter Q = (F.take i).filter Q ++ [a] := by
  rw [List.take_add_one, h, List.filter_append]
  simp [hq]
theorem take_filter_no {F : List Int} {Q : Int → Bool} {i : Nat} {a : Int} (h : F[i]? = some a) (hq : Q a = false) : (F.take (i + 1)).filter Q = (F.take i).filter Q := by
  rw [List.take_add_one, h, List.filter_append]
  simp [hq]
theorem take_filter_len (F : List Int) (Q : Int → Bool) (i : Nat) : ((F.take i).filter Q).length ≤ F.length := by
  have h1 := List.length_filter_le Q (F.take i)
  have h2 := List.length_take_le i F
  have h3 : (F.take i).length ≤ F.length := by rw [List.length_take]; omega
  omega
theorem BacksAt.lds {w : World} {q : Option Addr} {c : Nat} {L : List Bk} (h : BacksAt w q c L) : Lds L := by
  intro x hx
  obtain ⟨r, hr⟩ := List.getElem?_of_mem hx
  obtain ⟨g, o, -, -, -, -, -, h1, h2⟩ := h.cells r x hr
  exact ⟨h1, h2⟩
theorem fit_row {L : List Bk} {F : List Int} (hF : fitL L = F) {i : Nat} {a : Int} (ha : F[i]? = some a) : ∃ r : Nat, a = (r : Int) ∧ r < L.length ∧ ∃ x, L[r]? = some x ∧ fitB x = true := by
  refine nums_mem.1 ?_
  unfold fitL at hF
  rw [hF]
  exact List.mem_of_getElem? ha
theorem rpkTies_in (q : Option Addr) (c n : Nat) (L : List Bk) (w : World) (h : BacksAt w q c L) (hl : L.length = n) : Calls Try.prog 13 #[.slice q n c] w (GotI w (tieL L)) := by
  have K := rpkFit_in q c n L w h hl
  have HB : Hid (BacksAt w q c L) := h
  have HL : Hid (L.length = n) := hl
  have hnb : (n : Int) ≤ 6000000000000 := by have := h.few; rw [hl] at this; have h2 : reachBytes < 2 ^ 47 := reach_lt; omega
  have hnc : n ≤ c := by have := h.cap; rw [hl] at this; exact this
  rw [← doc_ties h.lds]
  obtain ⟨F, hF⟩ : ∃ F, fitL L = F := ⟨_, rfl⟩
  rw [hF] at K ⊢
  have HF : Hid (fitL L = F) := hF
  have hfl : F.length ≤ n := by rw [← hF, ← hl]; exact nums_len _ _ _
  obtain ⟨nF, hnF⟩ : ∃ nF, F.length = nF := ⟨_, rfl⟩
  have HNF : Hid (F.length = nF) := hnF
  rw [hnF] at hfl
  clear h hl hF hnF
  go_enter Try.func13, Try.ntmps13
  go_wp2_with (go_at_call 10; refine K.mono ?_; clear K; rintro e w1 ⟨fa, fm, fc, rfl, h1⟩; obtain ⟨e1, hfc⟩ := h1.own.lenI; rw [HNF.out] at e1 hfc; subst e1; have H1 : Hid (GotS w w1 fa fm fc F) := h1; clear h1)
  go_loopw [3, 5] (fun x3 x5 wr => ∃ (i dm dc : Nat) (da : Option Addr), x3 = .slice da dm dc ∧ x5 = .int .i64 (i : Int) ∧ i ≤ fm ∧ Hid (GotS w1 wr da dm dc ((F.take i).filter (docT L F)))) (fun _ x5 _ => fm - (intOf x5).toNat)
  case atStart => exact ⟨0, 0, 0, none, rfl, rfl, by omega, GotS.nil w1⟩
  case round =>
    obtain ⟨i, dm, dc, da, rfl, rfl, hin, HS⟩ := hrel
    by_cases hlt : i < fm
    · have hlt2 : (i : Int) < (fm : Int) := by omega
      obtain ⟨a, ha⟩ : ∃ d, F[i]? = some d := ⟨F[i]'(by rw [HNF.out]; exact hlt), List.getElem?_eq_getElem _⟩
      obtain ⟨r, rfl, hr, x, hx, -⟩ := fit_row HF.out ha
      rw [HL.out] at hr
      have hr2 : (r : Int) < (n : Int) := by omega
      obtain ⟨gf, of, rfl, hgf, f0⟩ := H1.out.own.ints i (r : Int) ha
      obtain ⟨gq, oq, rfl, hgq, -, -, d2, -, -⟩ := HB.out.cells r x hx
      have D2 : Hid (gq < w.heap.size ∧ w.cell? ⟨gq, oq + r * 3 + 2, none⟩ = some (.int .i64 x.2.2)) := ⟨hgq, d2⟩
      have F0 : Hid (gf < w1.heap.size ∧ w1.cell? ⟨gf, of + i, none⟩ = some (.int .i64 (r : Int))) := ⟨hgf, f0⟩
      have HA : Hid (F[i]? = some (r : Int) ∧ loadAt L (r : Int) = x.2.2) := ⟨ha, load_at hx⟩
      obtain ⟨y, hy⟩ : ∃ y, x.2.2 = y := ⟨_, rfl⟩
      rw [hy] at D2 HA
      clear ha hx hgq d2 hgf f0 hy
      obtain ⟨wo, hwo⟩ : ∃ wo, wo = wr := ⟨_, rfl⟩
      subst hwo
      go_wp2_with (fail)
      go_loopw [6, 7] (fun x6 x7 wq => ∃ k : Nat, x6 = .bool (docK L F (r : Int) k) ∧ x7 = .int .i64 (k : Int) ∧ k ≤ fm ∧ Hid (Fr (fun _ => False) wo wq)) (fun _ x7 _ => fm - (intOf x7).toNat)
      case atStart => exact ⟨0, rfl, rfl, by omega, Fr.refl _ _⟩
      case round =>
        obtain ⟨k, rfl, rfl, hkn, HQ⟩ := hrel
        by_cases hkl : k < fm
        · have hkl2 : (k : Int) < (fm : Int) := by omega
          obtain ⟨b, hb⟩ : ∃ d, F[k]? = some d := ⟨F[k]'(by rw [HNF.out]; exact hkl), List.getElem?_eq_getElem _⟩
          obtain ⟨s, rfl, hs, z, hz, -⟩ := fit_row HF.out hb
          rw [HL.out] at hs
          have hs2 : (s : Int) < (n : Int) := by omega
          have FQ : Hid (Fr (fun _ => False) w1 wr) := HS.out.fr.trans HQ.out
          obtain ⟨gf', of', e1, -, f1⟩ := H1.out.own.ints k (s : Int) hb
          cases e1
          obtain ⟨gq', oq', e2, -, -, -, d3, -, -⟩ := HB.out.cells s z hz
          cases e2
          have c0 : wr.cell? ⟨gf, of + i, none⟩ = some (.int .i64 (r : Int)) := (FQ.out.cell (p := ⟨gf, of + i, none⟩) F0.out.1 id).trans F0.out.2
          have c1 : wr.cell? ⟨gf, of + k, none⟩ = some (.int .i64 (s : Int)) := (FQ.out.cell (p := ⟨gf, of + k, none⟩) F0.out.1 id).trans f1
          have c2 : wr.cell? ⟨gq, oq + r * 3 + 2, none⟩ = some (.int .i64 y) := ((H1.out.fr.trans FQ.out).cell (p := ⟨gq, oq + r * 3 + 2, none⟩) D2.out.1 id).trans D2.out.2
          have c3 : wr.cell? ⟨gq, oq + s * 3 + 2, none⟩ = some (.int .i64 z.2.2) := ((H1.out.fr.trans FQ.out).cell (p := ⟨gq, oq + s * 3 + 2, none⟩) D2.out.1 id).trans d3
          have HN : Hid (docK L F (r : Int) (k + 1) = (docK L F (r : Int) k && decide (y ≤ z.2.2))) := by
            show _ = _
            rw [docK_next hb, HA.out.2, load_at hz]
          obtain ⟨t, ht⟩ : ∃ t, z.2.2 = t := ⟨_, rfl⟩
          rw [ht] at HN c3
          obtain ⟨V, hV⟩ : ∃ V, docK L F (r : Int) k = V := ⟨_, rfl⟩
          rw [hV] at HN ⊢
          clear hb hz f1 d3 ht hV
          cases V
          · go_wp2_with (fail)
            go_quiet (fail)
            go_wp2_with (fail)
            go_roundw
            case rel => exact ⟨k + 1, by rw [HN.out]; rfl, by go_num, by omega, HQ.out.drewN _⟩
            case measure => simp [intOf]; omega
          · obtain ⟨U, hU⟩ : ∃ U, decide (y ≤ t) = U := ⟨_, rfl⟩
            rw [hU] at HN
            cases U
            · go_wp2_with (fail)
              go_quiet (fail)
              go_wp2_with (fail)
              go_roundw
              case rel => exact ⟨k + 1, by rw [HN.out]; rfl, by go_num, by omega, HQ.out.drewN _⟩
              case measure => simp [intOf]; omega
            · go_wp2_with (fail)
              go_quiet (fail)
              go_wp2_with (fail)
              go_roundw
              case rel => exact ⟨k + 1, by rw [HN.out]; rfl, by go_num, by omega, HQ.out.drewN _⟩
              case measure => simp [intOf]; omega
        · have hkl2 : ¬ (k : Int) < (fm : Int) := by omega
          have HE : Hid (docK L F (r : Int) k = docT L F (r : Int)) := docK_all (by rw [HNF.out]; omega)
          rw [HE.out]
          have HSq : Hid (GotS w1 wr da dm dc ((F.take i).filter (docT L F))) := HS.out.later HQ.out
          have c0 : wr.cell? ⟨gf, of + i, none⟩ = some (.int .i64 (r : Int)) := (HSq.out.fr.cell (p := ⟨gf, of + i, none⟩) F0.out.1 id).trans F0.out.2
          obtain ⟨V, hV⟩ : ∃ V, docT L F (r : Int) = V := ⟨_, rfl⟩
          have HV : Hid (docT L F (r : Int) = V) := hV
          rw [hV]
          clear hV HE HS
          cases V
          · have HN : Hid ((F.take (i + 1)).filter (docT L F) = (F.take i).filter (docT L F)) := take_filter_no HA.out.1 HV.out
            go_wp2_with (fail)
            go_roundw
            case rel => exact ⟨i + 1, dm, dc, da, rfl, by go_num, by omega, by rw [HN.out]; exact HSq.out⟩
            case measure => simp [intOf]; omega
          · have HN : Hid ((F.take (i + 1)).filter (docT L F) = (F.take i).filter (docT L F) ++ [(r : Int)]) := take_filter_yes HA.out.1 HV.out
            obtain ⟨a', n', c', w3, hrun, hn3, ho3, hf3, hk3⟩ := run_addW (r : Int) HSq.out.own (by have := take_filter_len F (docT L F) i; rw [HNF.out] at this; omega)
            have HS3 : Hid (GotS w1 w3 a' n' c' ((F.take (i + 1)).filter (docT L F))) := by rw [HN.out]; exact HSq.out.next ho3 hf3 hk3
            clear hn3 ho3 hf3 hk3
            go_wp2_with (refine wpList_append_run9 rfl (.tmp 43) (.tmp 48) 24 rfl (.slice da dm dc) (.slice (some ⟨wr.heap.size, 0, none⟩) 1 1) (.slice a' n' c') rfl rfl hrun ?_)
            go_roundw
            case rel => exact ⟨i + 1, n', c', a', rfl, by go_num, by omega, HS3.out⟩
            case measure => simp [intOf]; omega
    · have hlt2 : ¬ (i : Int) < (fm : Int) := by omega
      have HE : Hid (GotS w1 wr da dm dc (F.filter (docT L F))) := by
        have h1 := HS.out
        rw [List.take_of_length_le (by rw [HNF.out]; omega)] at h1
        exact h1
      clear HS
      go_wp2_with (fail)
      go_ret
      exact ⟨da, dm, dc, rfl, HE.out.own, fun k hk => Nat.le_trans H1.out.fr.size (HE.out.new k hk), H1.out.fr.trans HE.out.fr⟩
end Go.Proofs.Ytedkjlhhgalcfaa
