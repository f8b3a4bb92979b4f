/- The iterator of the headers that are no pseudo headers, as rules leave them. -/
import Derived.Test.YtplggcfoadjffaaGreatDoorXh
namespace Go.Proofs.YtplggcfoadjffaaGreatDoor
open Go.RowKit
set_option linter.unusedVariables false
set_option maxRecDepth 100000
set_option maxHeartbeats 4000000

/-- What apply answers of the header number i. -/
def AppAs (step : List Hd → Hd → List Hd) (l : List Hd) (i : Nat) (h : Hd) (w : World) (e : Ending) (w' : World) : Prop := ∃ (x : Hd) (b : Bool), e = .returned (.tuple #[.agg #[.string x.1, .string x.2.1, .bool x.2.2], .bool b]) ∧ step (l.take i) h = (if b = true then [x] else []) ∧ Fr (fun _ => False) w w'
/-- Rules that can be applied, wherever R holds. -/
def RulesOk (step : List Hd → Hd → List Hd) (l : List Hd) (rb rn : Nat) (R : World → Prop) : Prop :=
  (∀ W W', R W → Fr (fun _ => False) W W' → R W') ∧ (∀ W (i : Nat) (h : Hd), R W → l[i]? = some h → pseudoB (tx h.1) = false → Calls Tryz.prog 73 #[.slice (some ⟨rb, 0, none⟩) rn rn, .int .i64 (i : Int), .agg #[.string h.1, .string h.2.1, .bool h.2.2]] W fun e w' => AppAs step l i h W e w') ∧ (∀ d h, pseudoB (tx h.1) = true → step d h = [])
def othZ (hb xb rb rn : Nat) (q : Option Addr) (c : Nat) (l : List Hd) (R : World → Prop) (W : World) : Prop :=
  (∃ t, W.heap[hb]? = some (.cells #[.slice q l.length c] t (0, 0))) ∧ (∃ t, W.heap[xb]? = some (.cells #[.slice (some ⟨rb, 0, none⟩) rn rn] t (0, 0))) ∧ HL W q c l ∧ R W
theorem othZ.later {hb xb rb rn : Nat} {q : Option Addr} {c : Nat} {l : List Hd} {R : World → Prop} {W W' : World} (h : othZ hb xb rb rn q c l R W) (hR : ∀ W W', R W → Fr (fun _ => False) W W' → R W') (hf : Fr (fun _ => False) W W') : othZ hb xb rb rn q c l R W' :=
  ⟨fr_box h.1 hf id, fr_box h.2.1 hf id, h.2.2.1.fr hf, hR _ _ h.2.2.2 hf⟩
theorem oth_tells (hb xb rb rn : Nat) (q : Option Addr) (c : Nat) (l : List Hd) (step : List Hd → Hd → List Hd) (R : World → Prop) (hR : RulesOk step l rb rn R) :
    Tells3 Tryz.prog 72 #[] #[.pointer (some ⟨hb, 0, none⟩), .pointer (some ⟨xb, 0, none⟩)] (gathO step [] l).length (tellE (gathO step [] l)) (othZ hb xb rb rn q c l R) := by
  intro ll J W hJ hZ hY h0
  show CallsIn Fence.wide 0 Tryz.prog 72 #[.func (.yield ll) #[] #[], .pointer (some ⟨hb, 0, none⟩), .pointer (some ⟨xb, 0, none⟩)] W _
  have HJ : Hid (∀ k W1 W2, J k W1 → Fr (fun _ => False) W1 W2 → J k W2) := fun k W1 W2 h f => OwnFrom.later3 (B := W.heap.size) (J := J) hJ h f
  have HZ : Hid (∀ k W1, J k W1 → othZ hb xb rb rn q c l R W1) := hZ
  have HY : Hid (∀ k W1 (h : Hd), J k W1 → (gathO step [] l)[k]? = some h → YieldAt Fence.wide 0 Tryz.prog ll #[.agg #[.string h.1, .string h.2.1, .bool h.2.2]] W1 fun e W' => e = .returned (.bool true) ∧ J (k + 1) W') := fun k W1 h hj hh => hY k W1 _ hj (List.getElem?_eq_some_iff.1 hh).1 ⟨h, hh, rfl⟩
  have HR : Hid (RulesOk step l rb rn R) := hR
  obtain ⟨n, hlen⟩ : ∃ n, l.length = n := ⟨_, rfl⟩
  have HN : Hid (l.length = n) := hlen
  have Z0 := hZ 0 W h0
  obtain ⟨⟨t1, z1⟩, -, zl, -⟩ := Z0
  have hfew := zl.few
  rw [hlen] at z1 hfew
  have q1 : W.cell? ⟨hb, 0, none⟩ = some (.slice q n c) := cell_of_heap z1 rfl
  clear hJ hZ hY hlen z1 zl hR
  refine callsIn_of_wp Tryz.func72 rfl trivial ?_ rfl
  simp only [Tryz.ntmps72, List.size_toArray, List.length_cons, List.length_nil, Nat.reduceAdd, Nat.reduceSub, Array.replicate_succ, Array.replicate_zero, List.push_toArray, List.append_toArray, List.nil_append, List.cons_append]
  gi_wp2
  gi_loopw [10] (fun x10 wr => ∃ i : Nat, x10 = .int .i64 (i : Int) ∧ i ≤ n ∧ Hid (J (gathO step [] (l.take i)).length wr)) (fun x10 _ => n - (intOf x10).toNat)
  case atStart => exact ⟨0, rfl, by omega, h0⟩
  case round =>
    obtain ⟨i, rfl, hi, Hj⟩ := hrel
    clear q1
    by_cases hlt : i < n
    · have hlt2 : (i : Int) < (n : Int) := by omega
      obtain ⟨x, hx⟩ : ∃ x, l[i]? = some x := ⟨_, List.getElem?_eq_getElem (by rw [HN.out]; exact hlt)⟩
      obtain ⟨-, -, zl, -⟩ := HZ.out _ wr Hj.out
      obtain ⟨b, o, rfl, hb', c0, c1, c2, -⟩ := zl.cells i x hx
      have HX : Hid (l[i]? = some x) := hx
      obtain ⟨xn, xv, xs⟩ := x
      dsimp only at c0 c1 c2
      have HF1 : Hid (Fr (fun _ => False) wr (wr.alloc (.cells #[.string xn, .string xv, .bool xs] 35))) := (Fr.refl _ _).alloc _
      have HZ1 : Hid (othZ hb xb rb rn (some ⟨b, o, none⟩) c l R (wr.alloc (.cells #[.string xn, .string xv, .bool xs] 35))) := (HZ.out _ wr Hj.out).later HR.out.1 HF1.out
      have KP := HasPrefix_in xn (wr.alloc (.cells #[.string xn, .string xv, .bool xs] 35))
      obtain ⟨pb, hpb⟩ : ∃ pb, pseudoB (tx xn) = pb := ⟨_, rfl⟩
      rw [hpb] at KP
      have HPB : Hid (pseudoB (tx xn) = pb) := hpb
      clear hpb hx zl
      cases pb with
      | true =>
        have HE : Hid (J (gathO step [] (l.take (i + 1))).length (wr.alloc (.cells #[.string xn, .string xv, .bool xs] 35))) := by
          show J _ _
          rw [gathO_step HX.out, HR.out.2.2 _ _ HPB.out, List.append_nil]
          exact HJ.out _ _ _ Hj.out HF1.out
        gi_wp2
        refine ⟨trivial, rfl, (callsIn_wide.2 KP).mono ?_⟩
        clear KP
        rintro e w2 ⟨rfl, rfl⟩
        gi_wp2
        go_roundw
        case rel => exact ⟨i + 1, by go_num, by omega, HE.out⟩
        case measure => simp [intOf]; omega
      | false =>
        obtain ⟨-, ⟨t2, z2⟩, -, zr⟩ := HZ1.out
        have q2 : (wr.alloc (.cells #[.string xn, .string xv, .bool xs] 35)).cell? ⟨xb, 0, none⟩ = some (.slice (some ⟨rb, 0, none⟩) rn rn) := cell_of_heap z2 rfl
        have KA := HR.out.2.1 _ i (xn, xv, xs) zr HX.out HPB.out
        have HKA : Hid (Calls Tryz.prog 73 #[.slice (some ⟨rb, 0, none⟩) rn rn, .int .i64 (i : Int), .agg #[.string xn, .string xv, .bool xs]] (wr.alloc (.cells #[.string xn, .string xv, .bool xs] 35)) fun e w' => AppAs step l i (xn, xv, xs) (wr.alloc (.cells #[.string xn, .string xv, .bool xs] 35)) e w') := KA
        clear z2 zr KA
        gi_wp2
        refine ⟨trivial, rfl, (callsIn_wide.2 KP).mono ?_⟩
        clear KP
        rintro e w2 ⟨rfl, rfl⟩
        gi_wp2
        refine ⟨trivial, rfl, (callsIn_wide.2 HKA.out).mono ?_⟩
        rintro e w2 ⟨⟨yn, yv, ys⟩, sb, rfl, hst, f2⟩
        have HF3 : Hid (Fr (fun _ => False) wr (w2.alloc (.cells #[.string yn, .string yv, .bool ys] 35))) := (HF1.out.trans f2).alloc _
        clear q2 f2 HKA
        cases sb with
        | false =>
          have HE : Hid (J (gathO step [] (l.take (i + 1))).length (w2.alloc (.cells #[.string yn, .string yv, .bool ys] 35))) := by
            show J _ _
            rw [gathO_step HX.out, hst]
            simp only [Bool.false_eq_true, if_false, List.append_nil]
            exact HJ.out _ _ _ Hj.out HF3.out
          clear hst
          gi_wp2
          refine ⟨(fun f h => nomatch h), ?_⟩
          gi_wp2
          go_roundw
          case rel => exact ⟨i + 1, by go_num, by omega, HE.out⟩
          case measure => simp [intOf]; omega
        | true =>
          have hst2 : step (l.take i) (xn, xv, xs) = [(yn, yv, ys)] := by rw [hst]; simp
          have HJ2 : Hid (J (gathO step [] (l.take i)).length (w2.alloc (.cells #[.string yn, .string yv, .bool ys] 35))) := HJ.out _ _ _ Hj.out HF3.out
          have HYK := HY.out _ _ (yn, yv, ys) HJ2.out (gath_at HX.out hst2)
          have HEN : Hid (∀ W3, J ((gathO step [] (l.take i)).length + 1) W3 → J (gathO step [] (l.take (i + 1))).length W3) := fun W3 h3 => by
            rw [gathO_step HX.out, hst2]
            simpa using h3
          dsimp only at HYK
          obtain ⟨fn, tmps, assign, body, hy, hRd⟩ := HYK
          have HRD : Hid _ := hRd
          clear hRd hst hst2
          gi_wp2
          refine ⟨rfl, RoundIn.mono HRD.out ?_⟩
          rintro e3 W3 ⟨rfl, hJ3⟩
          have HJ4 : Hid (J (gathO step [] (l.take (i + 1))).length W3) := HEN.out W3 hJ3
          clear hJ3 hy HRD
          gi_wp2
          go_roundw
          case rel => exact ⟨i + 1, by go_num, by omega, HJ4.out⟩
          case measure => simp [intOf]; omega
    · have hlt2 : ¬ (i : Int) < (n : Int) := by omega
      gi_wp2
      refine bodyPost_end (results_none rfl _ _ _) rfl ?_
      have := Hj.out
      rw [List.take_of_length_le (by rw [HN.out]; omega)] at this
      exact ⟨⟨_, rfl⟩, this⟩
end Go.Proofs.YtplggcfoadjffaaGreatDoor
