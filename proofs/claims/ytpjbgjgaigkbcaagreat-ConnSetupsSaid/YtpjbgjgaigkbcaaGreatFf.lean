/- Contract of what writes settings. -/
import Derived.Test.YtpjbgjgaigkbcaaGreatFd
import Derived.Deep.LoopGhost
namespace Go.Proofs.YtpjbgjgaigkbcaaGreat
open Go.RowKit
set_option linter.unusedVariables false
set_option maxRecDepth 100000
set_option maxHeartbeats 4000000

theorem setB_len (s : Int × Nat) : (setB s).length = 6 := by simp [setB, be_length]
theorem setsB_len (Y : List (Int × Nat)) : (setsB Y).length = Y.length * 6 := by
  induction Y with
  | nil => rfl
  | cons s Y ih => simp only [setsB, List.map_cons, List.flatten_cons, List.length_append, setB_len, List.length_cons] at *; omega
theorem setsB_next {Y : List (Int × Nat)} {i : Nat} {s : Int × Nat} (h : Y[i]? = some s) : setsB (Y.take (i + 1)) = setsB (Y.take i) ++ setB s := by
  rw [List.take_add_one, h]
  simp [setsB]
theorem putOut16 {s : Int × Nat} (h : setOk s = true) : putOut 2 65536 s.1 = (0, be 2 s.1.toNat) := by
  simp [setOk] at h
  exact if_neg (by omega)
theorem putOut16' {s : Int × Nat} (h : setOk s = false) : putOut 2 65536 s.1 = (1, []) := by
  simp [setOk] at h
  exact if_pos (by omega)

/-- Whether settings can't be written beside the flags. -/
theorem writeSettings_in (f : Fra) (p q : Option Addr) (cp cq g : Nat) (w : World) (h : FAt w g f p cp q cq) (hs : SetsAt w q cq f.Y) (h0 : 0 ≤ f.fl) (h1 : f.fl ≤ 255) :
    Calls Tryz.prog 75 #[.pointer (some ⟨g, 0, none⟩)] w fun e w' => PieceAs w p f.X (pieceO 4 f) e w' ∧ Fr (fun _ => False) w w' := by
  have c1 : w.cell? ⟨g, 1, none⟩ = some (.int .i64 f.fl) := cell_of_heap h rfl
  have c11 : w.cell? ⟨g, 11, none⟩ = some (.slice q f.Y.length cq) := cell_of_heap h rfl
  have hb := and1 h0 h1
  have hfew := hs.few
  clear h
  cases hbad : (decide (0 < f.Y.length) && has f.fl 1)
  case true =>
    have hd : pieceO 4 f = (1, []) := by simp only [pieceO, hbad]; rfl
    rw [hd]
    simp at hbad
    rw [hbad.2] at hb
    have hb : bits .and .i64 f.fl 1 = 1 := hb
    have hlen : (0 : Int) < (f.Y.length : Int) := by have := hbad.1; omega
    clear hbad
    go_enter Tryz.func75, Tryz.ntmps75
    go_wp2
    go_ret2
    exact ⟨⟨_, _, _, rfl, rfl, SrcAt.nil _ _, .inr (fun _ h => by cases h)⟩, Fr.refl _ _⟩
  case false =>
    have hd : pieceO 4 f = if f.Y.all setOk then (0, setsB f.Y) else (1, []) := by simp only [pieceO, hbad]; rfl
    rw [hd]
    have hno : (decide ((0 : Int) < (f.Y.length : Int)) && decide (bits .and .i64 f.fl 1 ≠ 0)) = false := by
      rw [hb]
      cases hh : has f.fl 1
      · simp
      · rw [hh] at hbad
        simp at hbad
        simp [hbad]
    have HA : Hid (∀ i s, f.Y[i]? = some s → (∀ k, k < i → ∀ s, f.Y[k]? = some s → setOk s = true) → setOk s = false → f.Y.all setOk = false) := fun i s hi _ hk => by
      rw [List.all_eq_false]
      exact ⟨s, List.mem_of_getElem? hi, by simp [hk]⟩
    have HB : Hid ((∀ k, k < f.Y.length → ∀ s, f.Y[k]? = some s → setOk s = true) → f.Y.all setOk = true) := fun hk => by
      rw [List.all_eq_true]
      intro s hs
      obtain ⟨i, hi⟩ := List.mem_iff_getElem?.1 hs
      exact hk i (List.getElem?_eq_some_iff.1 hi).1 s hi
    have HS : Hid (SetsAt w q cq f.Y) := hs
    obtain ⟨Y, hY⟩ : ∃ Y, f.Y = Y := ⟨_, rfl⟩
    rw [hY] at HA HB HS c11 hfew hno ⊢
    obtain ⟨n, hn⟩ : ∃ n, Y.length = n := ⟨_, rfl⟩
    rw [hn] at HB c11 hfew hno
    have HN : Hid (Y.length = n) := hn
    clear hs hd hbad hY hn hb h0 h1
    obtain ⟨j, J1, J2, J3, J4⟩ := info5
    have J1 : Hid _ := J1
    have J2 : Hid _ := J2
    have J3 : Hid _ := J3
    have J4 : Hid _ := J4
    obtain ⟨out, hout⟩ : ∃ out, (if Y.all setOk then ((0 : Int), setsB Y) else (1, [])) = out := ⟨_, rfl⟩
    rw [hout]
    have HO : Hid ((if Y.all setOk then ((0 : Int), setsB Y) else (1, [])) = out) := hout
    clear hout
    by_cases hz : 0 < n
    case neg =>
      obtain rfl : n = 0 := by omega
      have h0 : Y = [] := List.eq_nil_of_length_eq_zero HN.out
      subst h0
      obtain rfl : (0, []) = out := HO.out
      clear hno
      go_enter Tryz.func75, Tryz.ntmps75
      go_wp2_with (fail)
      refine wp_loop_rounds 1 ?_
      rw [rounds_succ]
      go_wp2
      go_ret2
      exact ⟨⟨_, _, _, rfl, rfl, SrcAt.nil _ _, .inr (fun _ h => by cases h)⟩, Fr.refl _ _⟩
    case pos =>
      have hz' : (0 : Int) < (n : Int) := by omega
      have hno' : bits .and .i64 f.fl 1 = 0 := by simp [hz] at hno; exact hno
      clear hno
      go_enter Tryz.func75, Tryz.ntmps75
      go_wp2_with (fail)
      go_loopw [4, 28] (fun x4 x28 wr => ∃ (i na ca : Nat) (a : Option Addr), x4 = .slice a na ca ∧ x28 = .int .i64 (i : Int) ∧ i ≤ n ∧ Hid (Gath w wr (.slice a na ca) (setsB (Y.take i))) ∧ Hid (∀ k, k < i → ∀ s, Y[k]? = some s → setOk s = true)) (fun _ x28 _ => n - (intOf x28).toNat)
      case atStart => exact ⟨0, 0, 0, none, rfl, rfl, by omega, Gath.ofNil (Fr.refl _ _), fun k hk => by omega⟩
      case round =>
        obtain ⟨i, na, ca, a, rfl, rfl, hi, HG, HK⟩ := hrel
        by_cases hin : i < n
        · obtain ⟨s, hsi⟩ : ∃ s, Y[i]? = some s := ⟨Y[i]'(by rw [HN.out]; exact hin), List.getElem?_eq_getElem _⟩
          obtain ⟨bb, o, rfl, hbb, d0, d1, wf0, wf1⟩ := (HS.out.later HG.out.2.2).cells i s hsi
          have HX : Hid (Y[i]? = some s) := hsi
          have hin2 : (i : Int) < (n : Int) := by omega
          have HW : Hid ((Lit.int .i64 s.1).wf = true) := wf0
          have HW1 : Hid (s.2 < 4294967296) := wf1
          clear hsi hbb wf0 wf1
          have K1 := Put16 s.1 (wr.alloc (.cells #[.int .i64 s.1, .int .u32 (s.2 : Nat)] 114)) HW.out
          have HC : Hid (∀ w', Fr (fun _ => False) (wr.alloc (.cells #[.int .i64 s.1, .int .u32 (s.2 : Nat)] 114)) w' → w'.cell? ⟨wr.heap.size, 1, none⟩ = some (.int .u32 (s.2 : Nat))) := fun w' hf => by
            have hb := heap_alloc_new wr (.cells #[.int .i64 s.1, .int .u32 (s.2 : Nat)] 114)
            have h2 := (hf.block wr.heap.size (by simp) id).trans hb
            exact cell_of_heap h2 rfl
          cases hok : setOk s
          · rw [putOut16' hok] at K1
            have HR : Hid (Y.all setOk = false) := HA.out i s HX.out HK.out hok
            clear hok
            go_wp2_with (go_at_call 96; refine K1.mono ?_; rintro e w' ⟨⟨sp, l, rfl, hl, hs⟩, hf⟩)
            go_ret2
            have hO := HO.out
            rw [HR.out] at hO
            obtain rfl : (1, []) = out := hO
            exact ⟨⟨_, _, _, rfl, rfl, SrcAt.nil _ _, .inr (fun _ h => by cases h)⟩, HG.out.2.2.trans (((Fr.refl _ _).alloc _).trans hf)⟩
          · rw [putOut16 hok] at K1
            have HOK : Hid (setOk s = true) := hok
            clear hok
            have K2 : Hid (∀ w, Calls Tryz.prog 93 #[.int .u32 (s.2 : Nat)] w fun e w' => (∃ sp, e = .returned (.slice sp 4 4) ∧ New w w' sp (be 4 s.2)) ∧ Fr (fun _ => False) w w') := fun w => Put32 s.2 w HW1.out
            have HSZ : Hid ((setsB (Y.take i)).length = i * 6) := by
              show _ = _
              rw [setsB_len, List.length_take, HN.out, Nat.min_eq_left (by omega)]
            go_wp2_with first
              | (go_at_call 96; refine K1.mono ?_; clear K1; rintro e w1 ⟨⟨sp, l, rfl, hl, hs⟩, hf⟩; have H1 : Hid (l = 2 ∧ SrcAt w1 sp (be 2 s.1.toNat) ∧ Fr (fun _ => False) (wr.alloc (.cells #[.int .i64 s.1, .int .u32 (s.2 : Nat)] 114)) w1) := ⟨by rw [← hl]; exact be_length _ _, hs.1, hf⟩; clear hl hs hf; have G1 : Hid (Gath w w1 (.slice a na ca) (setsB (Y.take i))) := HG.out.fr (((Fr.refl _ _).alloc _).trans H1.out.2.2))
              | (refine wpList_gather (w0 := w) rfl (.tmp 41) (.tmp 42) 43 43 rfl j Tryz.underlying43 Tryz.underlying43 J1.out J2.out J3.out J4.out (.slice a na ca) (setsB (Y.take i)) (by go_simp) G1.out sp l l (by go_simp) (be 2 s.1.toNat) H1.out.2.1 (by rw [be_length]; exact H1.out.1.symm) (by have := HSZ.out; have := H1.out.1; omega) ?_; intro a2 n2 c2 w2 Hn2 G2 F2; have d2 : w2.cell? ⟨wr.heap.size, 1, none⟩ = some (.int .u32 (s.2 : Nat)) := (F2.out.cell (p := ⟨wr.heap.size, 1, none⟩) (World.block_lt_of_cell? _ _ (HC.out w1 H1.out.2.2)) (fun e => Nat.lt_irrefl _ (HG.out.1.lt _ e))).trans (HC.out w1 H1.out.2.2))
              | (go_at_call 93; refine (K2.out _).mono ?_; rintro e w3 ⟨⟨sp3, rfl, hs3⟩, hf3⟩; have H3 : Hid (SrcAt w3 sp3 (be 4 s.2) ∧ Fr (fun _ => False) w2 w3) := ⟨hs3.1, hf3⟩; clear hs3 hf3)
              | (refine wpList_gather (w0 := w) rfl (.tmp 44) (.tmp 47) 43 43 rfl j Tryz.underlying43 Tryz.underlying43 J1.out J2.out J3.out J4.out (.slice a2 n2 c2) (setsB (Y.take i) ++ be 2 s.1.toNat) (by go_simp) (G2.fr H3.out.2) sp3 4 4 (by go_simp) (be 4 s.2) H3.out.1 (be_length _ _) (by have := HSZ.out; simp only [List.length_append, be_length]; omega) ?_; intro a4 n4 c4 w4 Hn4 G4 F4)
            go_roundw
            case rel =>
              refine ⟨i + 1, n4, c4, a4, rfl, by go_num, by omega, ?_, fun k hk t ht => ?_⟩
              · show Gath w w4 (.slice a4 n4 c4) (setsB (Y.take (i + 1)))
                rw [setsB_next HX.out, setB, ← List.append_assoc]
                exact G4
              · by_cases hki : k = i
                · subst hki
                  rw [HX.out] at ht
                  cases ht
                  exact HOK.out
                · exact HK.out k (by omega) t ht
            case measure => simp [intOf]; omega
        · obtain rfl : i = n := by omega
          go_wp2_with (fail)
          go_ret2
          have hall := HB.out HK.out
          have hO := HO.out
          rw [hall] at hO
          obtain rfl : (0, setsB Y) = out := hO
          have hG := HG.out
          rw [List.take_of_length_le (Nat.le_of_eq HN.out)] at hG
          refine ⟨⟨a, na, ca, rfl, ?_, own_src hG.1, .inr hG.new⟩, hG.2.2⟩
          exact (own_len hG.1).1.symm
end Go.Proofs.YtpjbgjgaigkbcaaGreat
