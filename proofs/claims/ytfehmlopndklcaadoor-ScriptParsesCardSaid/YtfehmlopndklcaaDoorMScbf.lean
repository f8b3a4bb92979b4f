/- The program's Parse. -/
import Derived.Test.YtfehmlopndklcaaDoorScbe
import Derived.Test.YtfehmlopndklcaaDoorScx
namespace Go.Proofs.YtfehmlopndklcaaDoor
open Go.RowKit
set_option maxRecDepth 100000
set_option maxHeartbeats 4000000
set_option linter.unusedVariables false

/-- What a script is, and what is answered. -/
def PAs (s : ByteArray) (w : World) (e : Ending) (w' : World) : Prop := Fr (fun _ => False) w w' ∧
  ((65536 < s.size ∧ e = .returned (.tuple #[.slice none 0 0, .int .i64 0, .int .i64 2])) ∨ (s.size ≤ 65536 ∧
    ((∃ (k : Nat) (n : Int), scriptO (tx s) = .inr (k, n) ∧ e = .returned (.tuple #[.slice none 0 0, .int .i64 (k : Int), .int .i64 n])) ∨
      ∃ (E : List (Dr × Value)) (q : Option Addr) (c : Nat), scriptO (tx s) = .inl (E.map (·.1)) ∧ e = .returned (.tuple #[.slice q E.length c, .int .i64 0, .int .i64 0]) ∧ EvAt w' (.slice q E.length c) E)))
theorem Parse_in (s : ByteArray) (w : World) (hE : EtAt w) : Calls Tryd.prog 10 #[.string s] w (PAs s w) := by
  have KR := readScript_in s w
  have HE : Hid (EtAt w) := hE
  clear hE
  go_enter Tryd.func10, Tryd.ntmps10
  go_wp2_with (fail)
  refine KR.mono ?_
  clear KR
  rintro e w1 ⟨hf1, ⟨hs, v, hv, rfl⟩ | ⟨hs, ⟨k, n, v, hx, hv, rfl⟩ | ⟨E, q, c, hx, rfl, hev⟩⟩⟩
  · have KA := ask_err hv w1 (HE.out.fr hf1)
    have HF : Hid (Fr (fun _ => False) w w1 ∧ 65536 < s.size) := ⟨hf1, hs⟩
    clear hf1 hs hv
    go_wp2_with (fail)
    refine KA.mono ?_
    clear KA
    rintro e w2 ⟨rfl, hf2⟩
    have HF2 : Hid (Fr (fun _ => False) w w2) := HF.out.1.trans hf2
    clear hf2
    go_wp2_with (fail)
    refine bodyPost_ret (v := .tuple #[.slice none 0 0, .int .i64 ((0 : Nat) : Int), .int .i64 2]) (by simp [results, Tryd.results10, go_sem]) rfl ?_
    exact ⟨HF2.out, .inl ⟨HF.out.2, rfl⟩⟩
  · have KA := ask_err hv w1 (HE.out.fr hf1)
    have HF : Hid (Fr (fun _ => False) w w1 ∧ s.size ≤ 65536 ∧ scriptO (tx s) = .inr (k, n)) := ⟨hf1, hs, hx⟩
    clear hf1 hs hv hx
    go_wp2_with (fail)
    refine KA.mono ?_
    clear KA
    rintro e w2 ⟨rfl, hf2⟩
    have HF2 : Hid (Fr (fun _ => False) w w2) := HF.out.1.trans hf2
    clear hf2
    go_wp2_with (fail)
    refine bodyPost_ret (v := .tuple #[.slice none 0 0, .int .i64 (k : Int), .int .i64 n]) (by simp [results, Tryd.results10, go_sem]) rfl ?_
    exact ⟨HF2.out, .inr ⟨HF.out.2.1, .inl ⟨k, n, HF.out.2.2, rfl⟩⟩⟩
  · have KA := ask_nil w1
    have HF : Hid (Fr (fun _ => False) w w1 ∧ s.size ≤ 65536 ∧ scriptO (tx s) = .inl (E.map (·.1)) ∧ EvAt w1 (.slice q E.length c) E) := ⟨hf1, hs, hx, hev⟩
    clear hf1 hs hev hx
    go_wp2_with (fail)
    refine KA.mono ?_
    clear KA
    rintro e w2 ⟨rfl, hf2⟩
    have HF2 : Hid (Fr (fun _ => False) w w2 ∧ EvAt w2 (.slice q E.length c) E) := ⟨HF.out.1.trans hf2, HF.out.2.2.2.old hf2⟩
    clear hf2
    go_wp2_with (fail)
    refine bodyPost_ret (v := .tuple #[.slice q E.length c, .int .i64 0, .int .i64 0]) (by simp [results, Tryd.results10, go_sem]) rfl ?_
    exact ⟨HF2.out.1, .inr ⟨HF.out.2.1, .inr ⟨E, q, c, HF.out.2.2.1, rfl, HF2.out.2⟩⟩⟩
end Go.Proofs.YtfehmlopndklcaaDoor
/- The document's Parse. -/
namespace Go.Proofs.YtfehmlopndklcaaDoor
open Go.RowKit
set_option maxRecDepth 100000
set_option maxHeartbeats 8000000
set_option linter.unusedVariables false

/-- Where the document's walk over a script stands: k lines over, the next one begins at b, p is looked at. -/
def PosP (s : ByteArray) (k b p : Nat) : Prop := (p ≤ s.size ∧ b ≤ p ∧ CutSt 10 (tx s) k b ∧ ∀ j, b ≤ j → j < p → (tx s)[j]? ≠ some 10) ∨ (p = s.size + 1 ∧ b = p ∧ (cuts 10 (tx s)).length = k)
theorem PosP.cut {s : ByteArray} {k b p : Nat} (h : PosP s k b p) (hp : p ≤ s.size) (he : p < s.size → (tx s)[p]? = some 10) : b ≤ p ∧ (cuts 10 (tx s))[k]? = some (((tx s).drop b).take (p - b)) ∧ PosP s (k + 1) (p + 1) (p + 1) := by
  rcases h with ⟨-, hb, hc, hn⟩ | ⟨h1, -⟩
  · refine ⟨hb, ?_⟩
    by_cases hlt : p < s.size
    · have h1 := hc.next hb (he hlt) hn
      exact ⟨h1.1, .inl ⟨by omega, Nat.le_refl _, h1.2, fun j h1 h2 => by omega⟩⟩
    · have hps : p = s.size := by omega
      have h1 := hc.last (fun j h2 h3 => hn j h2 (by rw [tx_len] at h3; omega))
      refine ⟨?_, .inr ⟨by omega, rfl, h1.2⟩⟩
      rw [h1.1, List.take_of_length_le (by rw [List.length_drop, tx_len]; omega)]
  · omega
theorem PosP.step {s : ByteArray} {k b p : Nat} {c : UInt8} (h : PosP s k b p) (hp : p < s.size) (hc : (tx s)[p]? = some c) (h10 : ¬ c = 10) : PosP s k b (p + 1) := by
  rcases h with ⟨-, hb, hs, hn⟩ | ⟨h1, -⟩
  · exact .inl ⟨by omega, by omega, hs, not_step hn hc h10⟩
  · omega
structure PI (s : ByteArray) (w wr : World) (k b p : Nat) (v : Value) (E : List (Dr × Value)) : Prop where
  evs : EvAt wr v E
  own : ∀ j, v.ownBlock = some j → w.heap.size ≤ j
  line : scriptO (tx s) = scGo ((cuts 10 (tx s)).drop k) k (E.map (·.1))
  few : E.length ≤ 4096
  pos : PosP s k b p
  fr : Fr (fun _ => False) w wr
theorem PI.keep {s : ByteArray} {w wr W : World} {k b p : Nat} {v : Value} {E : List (Dr × Value)} (h : PI s w wr k b p v E) (hf : Fr (fun _ => False) wr W) : PI s w W k b p v E :=
  ⟨h.evs.old hf, h.own, h.line, h.few, h.pos, h.fr.trans hf⟩
theorem PI.step {s : ByteArray} {w wr : World} {k b p : Nat} {v : Value} {E : List (Dr × Value)} {c : UInt8} (h : PI s w wr k b p v E) (hp : p < s.size) (hc : (tx s)[p]? = some c) (h10 : ¬ c = 10) : PI s w wr k b (p + 1) v E :=
  { h with pos := h.pos.step hp hc h10 }
theorem PI.skip {s : ByteArray} {w wr : World} {k b p : Nat} {v : Value} {E : List (Dr × Value)} {t : List UInt8} (h : PI s w wr k b p v E) (ht : (cuts 10 (tx s))[k]? = some t) (hp : PosP s (k + 1) (p + 1) (p + 1)) (hs : isSkip t = true) : PI s w wr (k + 1) (p + 1) (p + 1) v E :=
  { h with pos := hp, line := by rw [h.line, scGo_step ht, if_pos hs] }
theorem PI.bad {s : ByteArray} {w wr : World} {k b p q : Nat} {v : Value} {E : List (Dr × Value)} {t : List UInt8} (h : PI s w wr k b p v E) (ht : (cuts 10 (tx s))[k]? = some t) (hs : ¬ isSkip t = true) (hl : lineO t = .inr q) : scriptO (tx s) = .inr (k + 1, 4) := by
  rw [h.line, scGo_step ht, if_neg hs, hl]
theorem PI.full {s : ByteArray} {w wr : World} {k b p : Nat} {v : Value} {E : List (Dr × Value)} {t : List UInt8} {x : Dr} (h : PI s w wr k b p v E) (ht : (cuts 10 (tx s))[k]? = some t) (hs : ¬ isSkip t = true) (hl : lineO t = .inl x) (he : E.length = 4096) : scriptO (tx s) = .inr (k + 1, 2) := by
  rw [h.line, scGo_step ht, if_neg hs, hl]
  simp [he]
theorem PI.add {s : ByteArray} {w wr W : World} {k b p : Nat} {v v' : Value} {E : List (Dr × Value)} {t : List UInt8} {x : Dr × Value} (h : PI s w wr k b p v E) (ht : (cuts 10 (tx s))[k]? = some t) (hp : PosP s (k + 1) (p + 1) (p + 1)) (hs : ¬ isSkip t = true) (hl : lineO t = .inl x.1) (he : ¬ E.length = 4096) (hx : BAt wr x.2 x.1.dat)
    (hr : W.ownsRow 0 24 5 v' (E ++ [x]).length (evC (E ++ [x]))) (hf : Fr (fun k => v.ownBlock = some k) wr W) (ho : v'.ownBlock = v.ownBlock ∨ ∃ k, v'.ownBlock = some k ∧ wr.heap.size ≤ k) : PI s w W (k + 1) (p + 1) (p + 1) v' (E ++ [x]) := by
  have dat1 : ∀ q : Dr × Value, BAt wr q.2 q.1.dat → BAt W q.2 q.1.dat := fun q hq => by
    refine hq.fr hf (fun j cs fr hj e => ?_)
    obtain ⟨-, cur, hc⟩ := rowE_lt h.evs.row j e
    rw [hj] at hc
    cases hc
  refine ⟨⟨hr, fun q hq => ?_⟩, fun j hj => ?_, ?_, ?_, hp, fr_new h.fr hf (fun j hj e => by have := h.own j e; omega)⟩
  · rcases List.mem_append.1 hq with hq | hq
    · exact dat1 q (h.evs.dat q hq)
    · rw [List.mem_singleton.1 hq]
      exact dat1 x hx
  · rcases ho with e | ⟨i, e, e2⟩
    · exact h.own j (by rw [← e]; exact hj)
    · rw [e] at hj
      cases hj
      have := h.fr.size
      omega
  · rw [h.line, scGo_step ht, if_neg hs, hl]
    simp [he]
  · have := h.few
    rw [List.length_append]
    simp
    omega
theorem rParse_in (s : ByteArray) (w : World) : Calls Tryd.prog 11 #[.string s] w (PAs s w) := by
  by_cases hs : 65536 < s.size
  · have hsi : (65536 : Int) < (s.size : Int) := by omega
    have HS : Hid (65536 < s.size) := hs
    clear hs
    go_enter Tryd.func11, Tryd.ntmps11
    go_wp2_with (fail)
    refine bodyPost_ret (v := .tuple #[.slice none 0 0, .int .i64 0, .int .i64 2]) (by simp [results, Tryd.results11, go_sem]) rfl ?_
    exact ⟨Fr.refl _ _, .inl ⟨HS.out, rfl⟩⟩
  · have hsi : ¬ (65536 : Int) < (s.size : Int) := by omega
    have HS : Hid (s.size ≤ 65536) := by show _ ≤ _; omega
    clear hs
    go_enter Tryd.func11, Tryd.ntmps11
    go_wp2_with (fail)
    go_loopw [5, 6, 7, 8] (fun x5 x6 x7 x8 wr => ∃ (k b p : Nat) (q : Option Addr) (c el : Nat) (E : List (Dr × Value)), x5 = .slice q el c ∧ x6 = .int .i64 ((k + 1 : Nat) : Int) ∧ x7 = .int .i64 (b : Int) ∧ x8 = .int .i64 (p : Int) ∧ Hid (PI s w wr k b p (.slice q el c) E) ∧ Hid (E.length = el)) (fun _ _ _ x8 _ => s.size + 1 - (intOf x8).toNat)
    case atStart => exact ⟨0, 0, 0, none, 0, 0, [], rfl, rfl, rfl, rfl, ⟨.nil _, fun j hj => by simp [Value.ownBlock] at hj, rfl, by simp, .inl ⟨by omega, by omega, CutSt.zero 10 (tx s), fun j h1 h2 => by omega⟩, Fr.refl _ _⟩, rfl⟩
    case round =>
      obtain ⟨k, b, p, q, c, el, E, rfl, rfl, rfl, rfl, HI, HEL⟩ := hrel
      have hel : el ≤ 4096 := by rw [← HEL.out]; exact HI.out.few
      have hkb : k ≤ 65537 ∧ b ≤ 65537 ∧ p ≤ 65537 := by
        have h1 := cuts_count 10 (tx s)
        rw [tx_len] at h1
        have h2 := HS.out
        rcases HI.out.pos with ⟨h3, h4, h5, -⟩ | ⟨h3, h4, h5⟩
        · have h6 := cuts_pos 10 ((tx s).drop b)
          rw [← h5.rest, List.length_drop] at h6
          omega
        · omega
      obtain ⟨hk1, hb1, hp1⟩ := hkb
      have hk0 : (0 : Int) ≤ (k : Int) := by omega
      have hb0 : (0 : Int) ≤ (b : Int) := by omega
      have hp0 : (0 : Int) ≤ (p : Int) := by omega
      by_cases hle : p ≤ s.size
      · have hlei : (p : Int) ≤ (s.size : Int) := by omega
        by_cases hlt : p < s.size
        · have hlt2 : (p : Int) < (s.size : Int) := by omega
          have HT : Hid ((tx s)[p]? = some (s[p]'hlt)) := tx_at s p hlt
          have hix := index_tx4 s p hlt
          generalize (s[p]'hlt) = ch at HT hix
          obtain ⟨cn, hcn⟩ : ∃ cn : Nat, ch.toNat = cn := ⟨_, rfl⟩
          have HCN : Hid (ch.toNat = cn) := hcn
          rw [hcn] at hix
          clear hcn
          by_cases h10 : cn = 10
          · subst h10
            have HE : Hid ((tx s)[p]? = some 10) := by
              show _ = _
              rw [HT.out]
              congr 1
              exact UInt8.toNat_inj.1 HCN.out
            have hPO := HI.out.pos.cut hle (fun _ => HE.out)
            have hbp := hPO.1
            obtain ⟨t, ht⟩ : ∃ t, ((tx s).drop b).take (p - b) = t := ⟨_, rfl⟩
            rw [ht] at hPO
            have HPK : Hid ((cuts 10 (tx s))[k]? = some t) := hPO.2.1
            have HPN : Hid (PosP s (k + 1) (p + 1) (p + 1)) := hPO.2.2
            have hsl : ∀ W : World, (Instr.slice 9 (.string s) (some (.int .i64 (b : Int))) (some (.int .i64 (p : Int))) none).run Tryd.prog W = .ok (.string ⟨t.toArray⟩) W := fun W => by
              rw [run_slice_string W 9 s .i64 .i64 (b : Int) (p : Int) Tryd.underlying9 (by omega) (by omega) (by omega)]
              rw [Int.toNat_natCast, Int.toNat_natCast, extract_mk s b p hle hbp, ht]
            obtain ⟨u, hu⟩ : ∃ u : ByteArray, (⟨t.toArray⟩ : ByteArray) = u := ⟨_, rfl⟩
            have HU : Hid (tx u = t) := by show _ = _; rw [← hu]; exact tx_mk t
            rw [hu] at hsl
            have hus : u.size ≤ 65536 := by
              have h1 := cuts_len 10 (tx s) t (List.mem_of_getElem? HPK.out)
              rw [← HU.out, tx_len, tx_len] at h1
              have := HS.out
              omega
            have HUS : Hid (u.size ≤ 65536) := hus
            clear hPO ht hu hus
            cases htc : t with
            | nil =>
              have he1 : (u.toList == []) = true := by rw [tx_toList, HU.out, htc]; rfl
              have he2 : u.toList.isEmpty = true := by rw [tx_toList, HU.out, htc]; rfl
              have he3 : u.toList = [] := by rw [tx_toList, HU.out, htc]
              have HNX : Hid (PI s w wr (k + 1) (p + 1) (p + 1) (.slice q el c) E) := HI.out.skip HPK.out HPN.out (skip_of htc)
              clear htc
              go_wp2_with (fail)
              go_roundw
              case rel => exact ⟨k + 1, p + 1, p + 1, q, c, el, E, rfl, by go_num, by go_num, by go_num, HNX.out, HEL.out⟩
              case measure => simp [intOf]; omega
            | cons cc r =>
              have he1 : (u.toList == []) = false := by rw [tx_toList, HU.out, htc]; rfl
              have he2 : u.toList.isEmpty = false := by rw [tx_toList, HU.out, htc]; rfl
              have he3 : ¬ u.toList = [] := by rw [tx_toList, HU.out, htc]; simp
              have hu0 : 0 < u.size := by have := tx_len u; rw [HU.out, htc] at this; simp at this; omega
              have hix2 : ∀ W : World, (Instr.index 9 (.string u) (.int .i64 0)).run Tryd.prog W = .ok (.int .u8 ((cc.toNat : Nat) : Int)) W := fun W => by
                have h1 := index_tx4 u 0 hu0 W
                have h2 := tx_at u 0 hu0
                rw [HU.out, htc] at h2
                simp at h2
                rw [← h2] at h1
                exact h1
              obtain ⟨dn, hdn⟩ : ∃ dn : Nat, cc.toNat = dn := ⟨_, rfl⟩
              have HDN : Hid (cc.toNat = dn) := hdn
              rw [hdn] at hix2
              clear hdn hu0
              by_cases h35 : cc = 35
              · have HNX : Hid (PI s w wr (k + 1) (p + 1) (p + 1) (.slice q el c) E) := HI.out.skip HPK.out HPN.out (skip_hash (by rw [htc, h35]; rfl))
                have hd35 : dn = 35 := by rw [← HDN.out, h35]; rfl
                subst hd35
                clear htc h35
                go_wp2_with (fail)
                go_roundw
                case rel => exact ⟨k + 1, p + 1, p + 1, q, c, el, E, rfl, by go_num, by go_num, by go_num, HNX.out, HEL.out⟩
                case measure => simp [intOf]; omega
              · have HSK : Hid (¬ isSkip t = true) := skip_not (by rw [htc]; simp) (by rw [htc]; simpa using h35)
                have KL : Hid (∀ W, Calls Tryd.prog 7 #[.string u] W (LineAs u W)) := fun W => rLine_in u W
                have hdi : ¬ (dn : Int) = 35 := fun e => h35 (by have e2 : dn = 35 := by omega
                                                                 exact UInt8.toNat_inj.1 (HDN.out.trans e2))
                have hdb : ((dn : Int) != 35) = true := bne_iff_ne.2 hdi
                clear htc h35
                go_wp2_with (fail)
                refine (KL.out _).mono ?_
                rintro e w2 ⟨hf2, ⟨hbad, -⟩ | ⟨-, ⟨pp, hq, rfl⟩ | ⟨x, vv, hq, rfl, hb⟩⟩⟩
                · exact absurd hbad (by have := HUS.out; omega)
                · have HX2 : Hid (scriptO (tx s) = .inr (k + 1, 4)) := HI.out.bad HPK.out HSK.out (by rw [← HU.out]; exact hq)
                  have HF2 : Hid (Fr (fun _ => False) w w2) := HI.out.fr.trans hf2
                  clear hf2 hq
                  unfold zeroIn
                  go_wp2_with (fail)
                  refine bodyPost_ret (v := .tuple #[.slice none 0 0, .int .i64 ((k + 1 : Nat) : Int), .int .i64 4]) (by simp [results, Tryd.results11, go_sem]) rfl ?_
                  exact ⟨HF2.out.alloc _, .inr ⟨HS.out, .inl ⟨k + 1, 4, HX2.out, rfl⟩⟩⟩
                · have HI2 : Hid (PI s w w2 k b p (.slice q el c) E) := HI.out.keep hf2
                  have HQ : Hid (lineO t = .inl x) := by show _ = _; rw [← HU.out]; exact hq
                  obtain ⟨qb, cb, rfl, -⟩ := id hb
                  have HB : Hid (BAt w2 (.slice qb x.dat.length cb) x.dat) := hb
                  clear hf2 hq hb
                  unfold inV
                  by_cases hE : el = 4096
                  · have HX2 : Hid (scriptO (tx s) = .inr (k + 1, 2)) := HI2.out.full HPK.out HSK.out HQ.out (by rw [HEL.out]; exact hE)
                    have hEb : ((el : Int) == 4096) = true := by rw [hE]; rfl
                    have hEi : (el : Int) = 4096 := by omega
                    clear hE
                    go_wp2_with (fail)
                    refine bodyPost_ret (v := .tuple #[.slice none 0 0, .int .i64 ((k + 1 : Nat) : Int), .int .i64 2]) (by simp [results, Tryd.results11, go_sem]) rfl ?_
                    exact ⟨HI2.out.fr.alloc _, .inr ⟨HS.out, .inl ⟨k + 1, 2, HX2.out, rfl⟩⟩⟩
                  · have hEb : ((el : Int) == 4096) = false := beq_false_of_ne (fun e => hE (by omega))
                    have HEE : Hid (¬ E.length = 4096) := by show ¬ _; rw [HEL.out]; exact hE
                    obtain ⟨W3, hW3⟩ : ∃ W3, w2.alloc (.cells #[.int .i64 x.what, .int .i64 x.a, .int .i64 x.b, .int .i64 x.d, .slice qb x.dat.length cb] 24) = W3 := ⟨_, rfl⟩
                    have hf3 : Fr (fun _ => False) w2 W3 := by rw [← hW3]; exact (Fr.refl _ _).alloc _
                    have HI3 : Hid (PI s w W3 k b p (.slice q el c) E) := HI2.out.keep hf3
                    have HB3 : Hid (BAt W3 (.slice qb x.dat.length cb) x.dat) := HB.out.old hf3
                    have g0 : W3.heap[w2.heap.size]? = some (.cells #[.int .i64 x.what, .int .i64 x.a, .int .i64 x.b, .int .i64 x.d, .slice qb x.dat.length cb] 24 (0, 0)) := by rw [← hW3]; exact heap_last _ _ rfl
                    have e0 : W3.cell? ⟨w2.heap.size, 0, none⟩ = some (.int .i64 x.what) := cell_of_heap g0 rfl
                    have e1 : W3.cell? ⟨w2.heap.size, 1, none⟩ = some (.int .i64 x.a) := cell_of_heap g0 rfl
                    have e2 : W3.cell? ⟨w2.heap.size, 2, none⟩ = some (.int .i64 x.b) := cell_of_heap g0 rfl
                    have e3 : W3.cell? ⟨w2.heap.size, 3, none⟩ = some (.int .i64 x.d) := cell_of_heap g0 rfl
                    have e4 : W3.cell? ⟨w2.heap.size, 4, none⟩ = some (.slice qb x.dat.length cb) := cell_of_heap g0 rfl
                    have HRW : Hid (W3.ownsRow 0 24 5 (.slice q el c) E.length (evC E)) := HI3.out.evs.row
                    clear g0 hf3
                    subst hW3
                    clear hE
                    go_wp2_with (refine wpList_addE rfl (.tmp 57) (.tmp 59) rfl (.slice q el c) E (x, .slice qb x.dat.length cb) (by go_simp) rfl HRW.out (by go_simp) (by have := HI2.out.few; omega) ?_; intro a6 n6 c6 w6 N6 O6 F6 K6)
                    have HN6 : Hid (PI s w w6 (k + 1) (p + 1) (p + 1) (.slice a6 n6 c6) (E ++ [(x, .slice qb x.dat.length cb)])) := HI3.out.add HPK.out HPN.out HSK.out HQ.out HEE.out HB3.out O6.out F6.out K6.out
                    have HL6 : Hid ((E ++ [((x, .slice qb x.dat.length cb) : Dr × Value)]).length = n6) := by show _ = _; rw [N6.out]; simp
                    clear F6 O6 K6 N6 e0 e1 e2 e3 e4
                    go_wp2_with (fail)
                    go_roundw
                    case rel => exact ⟨k + 1, p + 1, p + 1, a6, c6, n6, _, rfl, by go_num, by go_num, by go_num, HN6.out, HL6.out⟩
                    case measure => simp [intOf]; omega
          · have h10i : ¬ (cn : Int) = 10 := by omega
            have h10b : ((cn : Int) != 10) = true := bne_iff_ne.2 h10i
            have HNX : Hid (PI s w wr k b (p + 1) (.slice q el c) E) := HI.out.step hlt HT.out (fun e => by subst e; exact h10 HCN.out.symm)
            clear h10
            go_wp2_with (fail)
            go_roundw
            case rel => exact ⟨k, b, p + 1, q, c, el, E, rfl, rfl, rfl, by go_num, HNX.out, HEL.out⟩
            case measure => simp [intOf]; omega
        · have hlt2 : ¬ (p : Int) < (s.size : Int) := by omega
          have hPO := HI.out.pos.cut hle (fun h => absurd h hlt)
          have hbp := hPO.1
          obtain ⟨t, ht⟩ : ∃ t, ((tx s).drop b).take (p - b) = t := ⟨_, rfl⟩
          rw [ht] at hPO
          have HPK : Hid ((cuts 10 (tx s))[k]? = some t) := hPO.2.1
          have HPN : Hid (PosP s (k + 1) (p + 1) (p + 1)) := hPO.2.2
          have hsl : ∀ W : World, (Instr.slice 9 (.string s) (some (.int .i64 (b : Int))) (some (.int .i64 (p : Int))) none).run Tryd.prog W = .ok (.string ⟨t.toArray⟩) W := fun W => by
            rw [run_slice_string W 9 s .i64 .i64 (b : Int) (p : Int) Tryd.underlying9 (by omega) (by omega) (by omega)]
            rw [Int.toNat_natCast, Int.toNat_natCast, extract_mk s b p hle hbp, ht]
          obtain ⟨u, hu⟩ : ∃ u : ByteArray, (⟨t.toArray⟩ : ByteArray) = u := ⟨_, rfl⟩
          have HU : Hid (tx u = t) := by show _ = _; rw [← hu]; exact tx_mk t
          rw [hu] at hsl
          have hus : u.size ≤ 65536 := by
            have h1 := cuts_len 10 (tx s) t (List.mem_of_getElem? HPK.out)
            rw [← HU.out, tx_len, tx_len] at h1
            have := HS.out
            omega
          have HUS : Hid (u.size ≤ 65536) := hus
          clear hPO ht hu hus
          cases htc : t with
          | nil =>
            have he1 : (u.toList == []) = true := by rw [tx_toList, HU.out, htc]; rfl
            have he2 : u.toList.isEmpty = true := by rw [tx_toList, HU.out, htc]; rfl
            have he3 : u.toList = [] := by rw [tx_toList, HU.out, htc]
            have HNX : Hid (PI s w wr (k + 1) (p + 1) (p + 1) (.slice q el c) E) := HI.out.skip HPK.out HPN.out (skip_of htc)
            clear htc
            go_wp2_with (fail)
            go_roundw
            case rel => exact ⟨k + 1, p + 1, p + 1, q, c, el, E, rfl, by go_num, by go_num, by go_num, HNX.out, HEL.out⟩
            case measure => simp [intOf]; omega
          | cons cc r =>
            have he1 : (u.toList == []) = false := by rw [tx_toList, HU.out, htc]; rfl
            have he2 : u.toList.isEmpty = false := by rw [tx_toList, HU.out, htc]; rfl
            have he3 : ¬ u.toList = [] := by rw [tx_toList, HU.out, htc]; simp
            have hu0 : 0 < u.size := by have := tx_len u; rw [HU.out, htc] at this; simp at this; omega
            have hix2 : ∀ W : World, (Instr.index 9 (.string u) (.int .i64 0)).run Tryd.prog W = .ok (.int .u8 ((cc.toNat : Nat) : Int)) W := fun W => by
              have h1 := index_tx4 u 0 hu0 W
              have h2 := tx_at u 0 hu0
              rw [HU.out, htc] at h2
              simp at h2
              rw [← h2] at h1
              exact h1
            obtain ⟨dn, hdn⟩ : ∃ dn : Nat, cc.toNat = dn := ⟨_, rfl⟩
            have HDN : Hid (cc.toNat = dn) := hdn
            rw [hdn] at hix2
            clear hdn hu0
            by_cases h35 : cc = 35
            · have HNX : Hid (PI s w wr (k + 1) (p + 1) (p + 1) (.slice q el c) E) := HI.out.skip HPK.out HPN.out (skip_hash (by rw [htc, h35]; rfl))
              have hd35 : dn = 35 := by rw [← HDN.out, h35]; rfl
              subst hd35
              clear htc h35
              go_wp2_with (fail)
              go_roundw
              case rel => exact ⟨k + 1, p + 1, p + 1, q, c, el, E, rfl, by go_num, by go_num, by go_num, HNX.out, HEL.out⟩
              case measure => simp [intOf]; omega
            · have HSK : Hid (¬ isSkip t = true) := skip_not (by rw [htc]; simp) (by rw [htc]; simpa using h35)
              have KL : Hid (∀ W, Calls Tryd.prog 7 #[.string u] W (LineAs u W)) := fun W => rLine_in u W
              have hdi : ¬ (dn : Int) = 35 := fun e => h35 (by have e2 : dn = 35 := by omega
                                                               exact UInt8.toNat_inj.1 (HDN.out.trans e2))
              have hdb : ((dn : Int) != 35) = true := bne_iff_ne.2 hdi
              clear htc h35
              go_wp2_with (fail)
              refine (KL.out _).mono ?_
              rintro e w2 ⟨hf2, ⟨hbad, -⟩ | ⟨-, ⟨pp, hq, rfl⟩ | ⟨x, vv, hq, rfl, hb⟩⟩⟩
              · exact absurd hbad (by have := HUS.out; omega)
              · have HX2 : Hid (scriptO (tx s) = .inr (k + 1, 4)) := HI.out.bad HPK.out HSK.out (by rw [← HU.out]; exact hq)
                have HF2 : Hid (Fr (fun _ => False) w w2) := HI.out.fr.trans hf2
                clear hf2 hq
                unfold zeroIn
                go_wp2_with (fail)
                refine bodyPost_ret (v := .tuple #[.slice none 0 0, .int .i64 ((k + 1 : Nat) : Int), .int .i64 4]) (by simp [results, Tryd.results11, go_sem]) rfl ?_
                exact ⟨HF2.out.alloc _, .inr ⟨HS.out, .inl ⟨k + 1, 4, HX2.out, rfl⟩⟩⟩
              · have HI2 : Hid (PI s w w2 k b p (.slice q el c) E) := HI.out.keep hf2
                have HQ : Hid (lineO t = .inl x) := by show _ = _; rw [← HU.out]; exact hq
                obtain ⟨qb, cb, rfl, -⟩ := id hb
                have HB : Hid (BAt w2 (.slice qb x.dat.length cb) x.dat) := hb
                clear hf2 hq hb
                unfold inV
                by_cases hE : el = 4096
                · have HX2 : Hid (scriptO (tx s) = .inr (k + 1, 2)) := HI2.out.full HPK.out HSK.out HQ.out (by rw [HEL.out]; exact hE)
                  have hEb : ((el : Int) == 4096) = true := by rw [hE]; rfl
                  have hEi : (el : Int) = 4096 := by omega
                  clear hE
                  go_wp2_with (fail)
                  refine bodyPost_ret (v := .tuple #[.slice none 0 0, .int .i64 ((k + 1 : Nat) : Int), .int .i64 2]) (by simp [results, Tryd.results11, go_sem]) rfl ?_
                  exact ⟨HI2.out.fr.alloc _, .inr ⟨HS.out, .inl ⟨k + 1, 2, HX2.out, rfl⟩⟩⟩
                · have hEb : ((el : Int) == 4096) = false := beq_false_of_ne (fun e => hE (by omega))
                  have HEE : Hid (¬ E.length = 4096) := by show ¬ _; rw [HEL.out]; exact hE
                  obtain ⟨W3, hW3⟩ : ∃ W3, w2.alloc (.cells #[.int .i64 x.what, .int .i64 x.a, .int .i64 x.b, .int .i64 x.d, .slice qb x.dat.length cb] 24) = W3 := ⟨_, rfl⟩
                  have hf3 : Fr (fun _ => False) w2 W3 := by rw [← hW3]; exact (Fr.refl _ _).alloc _
                  have HI3 : Hid (PI s w W3 k b p (.slice q el c) E) := HI2.out.keep hf3
                  have HB3 : Hid (BAt W3 (.slice qb x.dat.length cb) x.dat) := HB.out.old hf3
                  have g0 : W3.heap[w2.heap.size]? = some (.cells #[.int .i64 x.what, .int .i64 x.a, .int .i64 x.b, .int .i64 x.d, .slice qb x.dat.length cb] 24 (0, 0)) := by rw [← hW3]; exact heap_last _ _ rfl
                  have e0 : W3.cell? ⟨w2.heap.size, 0, none⟩ = some (.int .i64 x.what) := cell_of_heap g0 rfl
                  have e1 : W3.cell? ⟨w2.heap.size, 1, none⟩ = some (.int .i64 x.a) := cell_of_heap g0 rfl
                  have e2 : W3.cell? ⟨w2.heap.size, 2, none⟩ = some (.int .i64 x.b) := cell_of_heap g0 rfl
                  have e3 : W3.cell? ⟨w2.heap.size, 3, none⟩ = some (.int .i64 x.d) := cell_of_heap g0 rfl
                  have e4 : W3.cell? ⟨w2.heap.size, 4, none⟩ = some (.slice qb x.dat.length cb) := cell_of_heap g0 rfl
                  have HRW : Hid (W3.ownsRow 0 24 5 (.slice q el c) E.length (evC E)) := HI3.out.evs.row
                  clear g0 hf3
                  subst hW3
                  clear hE
                  go_wp2_with (refine wpList_addE rfl (.tmp 57) (.tmp 59) rfl (.slice q el c) E (x, .slice qb x.dat.length cb) (by go_simp) rfl HRW.out (by go_simp) (by have := HI2.out.few; omega) ?_; intro a6 n6 c6 w6 N6 O6 F6 K6)
                  have HN6 : Hid (PI s w w6 (k + 1) (p + 1) (p + 1) (.slice a6 n6 c6) (E ++ [(x, .slice qb x.dat.length cb)])) := HI3.out.add HPK.out HPN.out HSK.out HQ.out HEE.out HB3.out O6.out F6.out K6.out
                  have HL6 : Hid ((E ++ [((x, .slice qb x.dat.length cb) : Dr × Value)]).length = n6) := by show _ = _; rw [N6.out]; simp
                  clear F6 O6 K6 N6 e0 e1 e2 e3 e4
                  go_wp2_with (fail)
                  go_roundw
                  case rel => exact ⟨k + 1, p + 1, p + 1, a6, c6, n6, _, rfl, by go_num, by go_num, by go_num, HN6.out, HL6.out⟩
                  case measure => simp [intOf]; omega
      · have hlei : ¬ (p : Int) ≤ (s.size : Int) := by omega
        have HX2 : Hid (scriptO (tx s) = .inl (E.map (·.1))) := by
          show _ = _
          rcases HI.out.pos with ⟨h3, -⟩ | ⟨h3, h4, h5⟩
          · exact absurd h3 hle
          · rw [HI.out.line, ← h5, List.drop_length]
            rfl
        have HEV : Hid (EvAt wr (.slice q el c) E) := HI.out.evs
        clear hle
        go_wp2_with (fail)
        refine bodyPost_ret (v := .tuple #[.slice q el c, .int .i64 0, .int .i64 0]) (by simp [results, Tryd.results11, go_sem]) rfl ?_
        refine ⟨HI.out.fr, .inr ⟨HS.out, .inr ⟨E, q, c, HX2.out, by rw [HEL.out], by rw [HEL.out]; exact HEV.out⟩⟩⟩
end Go.Proofs.YtfehmlopndklcaaDoor
