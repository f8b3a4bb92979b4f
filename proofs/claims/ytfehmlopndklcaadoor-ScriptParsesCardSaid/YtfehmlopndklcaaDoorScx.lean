/- The document's Line. -/
import Derived.Test.YtfehmlopndklcaaDoorScz
import Derived.BigQuiet
namespace Go.Proofs.YtfehmlopndklcaaDoor
open Go.RowKit
set_option maxRecDepth 100000
set_option maxHeartbeats 8000000
set_option linter.unusedVariables false

/-- The kind found among the first i names. -/
def whI (p : List UInt8) (i : Nat) : Int := if kindI p < (i : Int) then kindI p else -1
theorem whI_hit {p : List UInt8} {i : Nat} (h : kindI p = (i : Int)) : whI p (i + 1) = (i : Int) := by unfold whI; rw [if_pos (by omega)]; exact h
theorem whI_miss {p : List UInt8} {i : Nat} (h : ¬ kindI p = (i : Int)) : whI p (i + 1) = whI p i := by
  unfold whI
  by_cases h1 : kindI p < (i : Int)
  · rw [if_pos h1, if_pos (by omega)]
  · rw [if_neg h1, if_neg (by omega)]
theorem whI_zero (p : List UInt8) : whI p 0 = -1 := by
  unfold whI
  split
  · have := (kind_lt (p := p)).2; omega
  · rfl
theorem whI_all (p : List UInt8) : whI p 8 = kindI p := by
  unfold whI
  have := (kind_lt (p := p)).1
  rw [if_pos (by omega)]
/-- The first loop: which name it is. -/
structure NL (w wr : World) (nb : Nat) (p : List UInt8) (i : Nat) : Prop where
  r : wr.heap[w.heap.size]? = some (.cells #[.int .i64 0, .int .i64 0, .int .i64 0, .int .i64 0, .slice none 0 0] 24 (0, 0))
  e : wr.heap[w.heap.size + 1]? = some (.cells #[.int .i64 (whI p i), .int .i64 0, .int .i64 0, .int .i64 0, .slice none 0 0] 24 (0, 0))
  n : wr.heap[nb]? = some (.cells (namesS.map Value.string).toArray 9 (0, 0))
  fr : Fr (fun _ => False) w wr
  le : i ≤ 8
theorem name_at {i : Nat} (hi : i < 8) : ∃ z, namesS[i]? = some z ∧ namesL[i]? = some (tx z) := by
  refine ⟨namesS[i]'hi, List.getElem?_eq_getElem hi, ?_⟩
  rw [← names_tx, List.getElem?_map, List.getElem?_eq_getElem (by exact hi)]
  rfl
theorem rLine_in (s : ByteArray) (w : World) : Calls Tryd.prog 7 #[.string s] w (LineAs s w) := by
  by_cases hs : 65536 < s.size
  · have hsi : (65536 : Int) < (s.size : Int) := by omega
    have HS : Hid (65536 < s.size) := hs
    clear hs
    go_enter Tryd.func7, Tryd.ntmps7
    go_wp2
    refine bodyPost_ret (v := .tuple #[zeroIn, .int .i64 0, .int .i64 2]) (by simp [zeroIn, results, Tryd.results7, go_sem]) rfl ?_
    exact ⟨(Fr.refl _ _).alloc _, .inl ⟨HS.out, rfl⟩⟩
  · have hsi : ¬ (65536 : Int) < (s.size : Int) := by omega
    have HS : Hid (s.size ≤ 65536) := by show _ ≤ _; omega
    have KW := rword_in s 0
    have KW0 : Hid (∀ W, Calls Tryd.prog 15 #[.string s, .int .i64 0] W fun e w' => (∃ n : Nat, e = .returned (.int .i64 (n : Int)) ∧ WE (tx s) 0 n) ∧ W = w') := fun W => KW W (by omega) (by omega)
    clear hs KW
    go_enter Tryd.func7, Tryd.ntmps7
    go_wp2_with (fail)
    refine (KW0.out _).mono ?_
    rintro e w' ⟨⟨a, rfl, hWE⟩, rfl⟩
    have HWE : Hid (WE (tx s) 0 a) := hWE
    clear hWE KW0
    go_wp2_with (fail)
    refine (rnames_in _).mono ?_
    rintro e W1 ⟨rfl, hW1⟩
    obtain ⟨p, hp⟩ : ∃ p, (tx s).take a = p := ⟨_, rfl⟩
    have hal : a ≤ s.size := by have := HWE.out.le; rwa [tx_len] at this
    obtain ⟨nb, hnb⟩ : ∃ nb, nb = w.heap.size + 2 := ⟨_, rfl⟩
    have H0 : Hid (NL w W1 nb p 0) := by
      subst hW1 hnb
      refine ⟨heap_past _ _ (heap_past _ _ (heap_last _ _ rfl)), ?_, heap_last _ _ (by simp), (((Fr.refl _ _).alloc _).alloc _).alloc _, by omega⟩
      rw [whI_zero]
      exact heap_past _ _ (heap_last _ _ (by simp))
    have HSL : Hid (∀ W : World, (Instr.slice 9 (.string s) none (some (.int .i64 (a : Int))) none).run Tryd.prog W = .ok (.string ⟨p.toArray⟩) W) := fun W => by
      rw [run_slice_string_to_if W 9 s .i64 (a : Int) Tryd.underlying9, if_pos (by omega)]
      simp only [Int.toNat_natCast]
      rw [extract_mk s 0 a hal (by omega), List.drop_zero, Nat.sub_zero, hp]
    have HP : Hid ((tx s).take a = p ∧ a ≤ s.size) := ⟨hp, hal⟩
    have hnbx : (((w.alloc (.cells #[.int .i64 0, .int .i64 0, .int .i64 0, .int .i64 0, .slice none 0 0] 24)).alloc (.cells #[.int .i64 (-1), .int .i64 0, .int .i64 0, .int .i64 0, .slice none 0 0] 24))).heap.size = nb := by rw [hnb]; simp
    have HNB : Hid (nb = w.heap.size + 2) := hnb
    rw [hnbx]
    clear hp hal hW1 hnb hnbx
    go_wp2_with (fail)
    go_loopw [8] (fun x8 wr => ∃ i : Nat, x8 = .int .i64 (i : Int) ∧ Hid (NL w wr nb p i)) (fun x8 _ => 8 - (intOf x8).toNat)
    case atStart => exact ⟨0, rfl, H0.out⟩
    case round =>
      obtain ⟨i, rfl, HN⟩ := hrel
      by_cases hlt : i < 8
      · have hlt2 : (i : Int) < 8 := by omega
        obtain ⟨z, hz, hzl⟩ := name_at hlt
        have cn : wr.cell? ⟨nb, i, none⟩ = some (.string z) := by
          refine cell_of_heap HN.out.n ?_
          simp only [List.getElem?_toArray, List.getElem?_map, hz]
          rfl
        have sl := HSL.out
        have hi0 : (0 : Int) ≤ (i : Int) := by omega
        obtain ⟨u, hu⟩ : ∃ u : ByteArray, (⟨p.toArray⟩ : ByteArray) = u := ⟨_, rfl⟩
        have HU : Hid (tx u = p) := by show _ = _; rw [← hu]; exact tx_mk p
        rw [hu] at sl
        have HZL : Hid (namesL[i]? = some (tx z)) := hzl
        clear hz hzl hu
        by_cases hzu : z = u
        · subst hzu
          have hk : kindI p = (i : Int) := kind_hit (by rw [HZL.out, HU.out])
          have HK : Hid (kindI p = (i : Int)) := hk
          have e1 := HN.out.e
          have c0 : wr.cell? ⟨w.heap.size + 1, 0, none⟩ = some (.int .i64 (whI p i)) := cell_of_heap e1 rfl
          have z0 : wr.frozen? ⟨w.heap.size + 1, 0, none⟩ = false := frozen_of_heap e1
          clear e1 hk
          go_wp2_with (fail)
          go_quiet (fail)
          have c1 : (wr.drewN nq).cell? ⟨w.heap.size + 1, 0, none⟩ = some (.int .i64 (whI p i)) := c0
          have z1 : (wr.drewN nq).frozen? ⟨w.heap.size + 1, 0, none⟩ = false := z0
          go_wp2_with (fail)
          go_roundw
          case rel =>
            have hf : Fr (fun k => k = w.heap.size + 1) (wr.drewN nq) ((wr.drewN nq).setCell ⟨w.heap.size + 1, 0, none⟩ (.int .i64 (i : Int))) := Fr.setB (Fr.refl _ _) 0 _
            have e1 : (wr.drewN nq).heap[w.heap.size + 1]? = _ := HN.out.e
            have r1 : (wr.drewN nq).heap[w.heap.size]? = _ := HN.out.r
            have n1 : (wr.drewN nq).heap[nb]? = _ := HN.out.n
            refine ⟨i + 1, by go_num, (hf.block _ (lt_of_heap r1) (fun e => by have e' : w.heap.size = w.heap.size + 1 := e; omega)).trans r1, ?_, (hf.block _ (lt_of_heap n1) (fun e => by have e' : nb = w.heap.size + 1 := e; have := HNB.out; omega)).trans n1, fr_new (HN.out.fr.drewN nq) hf (fun j hj e => by have e' : j = w.heap.size + 1 := e; omega), by omega⟩
            rw [whI_hit HK.out]
            exact set_at _ e1
          case measure => simp [intOf]; omega
        · have hk : ¬ kindI p = (i : Int) := fun e => hzu (tx_ext (by have := kind_of e; rw [HZL.out] at this; injection this with this; rw [this, HU.out]))
          have HK : Hid (¬ kindI p = (i : Int)) := hk
          have hz2 : (z.toList == u.toList) = false := by rw [beq_eq_false_iff_ne]; intro e; exact hzu ((Lib.bytes_beq_iff z u).1 (beq_iff_eq.2 e))
          have hz3 : ¬ z.toList = u.toList := fun e => hzu ((Lib.bytes_beq_iff z u).1 (beq_iff_eq.2 e))
          clear hk hzu
          go_wp2_with (fail)
          go_quiet (fail)
          go_wp2_with (fail)
          go_roundw
          case rel => exact ⟨i + 1, by go_num, HN.out.r, by show _ = _; rw [whI_miss HK.out]; exact HN.out.e, HN.out.n, HN.out.fr.drewN nq, by omega⟩
          case measure => simp [intOf]; omega
      · have hlt2 : ¬ (i : Int) < 8 := by omega
        obtain rfl : i = 8 := by have := HN.out.le; omega
        have e1 := HN.out.e
        rw [whI_all] at e1
        have HE1 : Hid (wr.heap[w.heap.size + 1]? = some (.cells #[.int .i64 (kindI p), .int .i64 0, .int .i64 0, .int .i64 0, .slice none 0 0] 24 (0, 0))) := e1
        have ce : wr.cell? ⟨w.heap.size + 1, 0, none⟩ = some (.int .i64 (kindI p)) := cell_of_heap e1 rfl
        have HLN : Hid (lineO (tx s) = match stepW Dr0 p with | some y => lineGo ((cuts 32 (tx s)).drop 1) (cutAt (cuts 32 (tx s)) 1) y | none => .inr 0) := by
          have h1 := (piece_of (CutSt.zero 32 (tx s)) HWE.out).1
          rw [List.drop_zero, Nat.sub_zero, HP.out.1] at h1
          have h2 := lineGo_step (x := Dr0) h1
          show _ = _
          unfold lineO
          rw [List.drop_zero] at h2
          have h0 : cutAt (cuts 32 (tx s)) 0 = 0 := rfl
          rw [h0] at h2
          exact h2
        have HFS := first_step p
        obtain ⟨kd, hkd⟩ : ∃ kd, kindI p = kd := ⟨_, rfl⟩
        rw [hkd] at ce HE1 HFS
        clear e1 hlt hkd
        by_cases hk0 : kd < 0
        · have HBAD : Hid (lineO (tx s) = .inr 0) := by
            show _ = _
            rw [HLN.out, HFS, if_neg (by omega)]
          clear HFS
          have c0 : wr.cell? ⟨w.heap.size, 0, none⟩ = some (.int .i64 0) := cell_of_heap HN.out.r rfl
          have z0 : wr.frozen? ⟨w.heap.size, 0, none⟩ = false := frozen_of_heap HN.out.r
          have c1 : wr.cell? ⟨w.heap.size, 1, none⟩ = some (.int .i64 0) := cell_of_heap HN.out.r rfl
          have z1 : wr.frozen? ⟨w.heap.size, 1, none⟩ = false := frozen_of_heap HN.out.r
          have c2 : wr.cell? ⟨w.heap.size, 2, none⟩ = some (.int .i64 0) := cell_of_heap HN.out.r rfl
          have z2 : wr.frozen? ⟨w.heap.size, 2, none⟩ = false := frozen_of_heap HN.out.r
          have c3 : wr.cell? ⟨w.heap.size, 3, none⟩ = some (.int .i64 0) := cell_of_heap HN.out.r rfl
          have z3 : wr.frozen? ⟨w.heap.size, 3, none⟩ = false := frozen_of_heap HN.out.r
          have c4 : wr.cell? ⟨w.heap.size, 4, none⟩ = some (.slice none 0 0) := cell_of_heap HN.out.r rfl
          have z4 : wr.frozen? ⟨w.heap.size, 4, none⟩ = false := frozen_of_heap HN.out.r
          obtain ⟨W5, hW5⟩ : ∃ W5, put5 wr w.heap.size (.int .i64 0) (.int .i64 0) (.int .i64 0) (.int .i64 0) (.slice none 0 0) = W5 := ⟨_, rfl⟩
          have q0 := put5_at (.int .i64 0) (.int .i64 0) (.int .i64 0) (.int .i64 0) (.slice none 0 0) HN.out.r
          have qf := put5_fr wr w.heap.size (.int .i64 0) (.int .i64 0) (.int .i64 0) (.int .i64 0) (.slice none 0 0)
          rw [hW5] at q0 qf
          have r0 : W5.cell? ⟨w.heap.size, 0, none⟩ = some (.int .i64 0) := cell_of_heap q0 rfl
          have r1 : W5.cell? ⟨w.heap.size, 1, none⟩ = some (.int .i64 0) := cell_of_heap q0 rfl
          have r2 : W5.cell? ⟨w.heap.size, 2, none⟩ = some (.int .i64 0) := cell_of_heap q0 rfl
          have r3 : W5.cell? ⟨w.heap.size, 3, none⟩ = some (.int .i64 0) := cell_of_heap q0 rfl
          have r4 : W5.cell? ⟨w.heap.size, 4, none⟩ = some (.slice none 0 0) := cell_of_heap q0 rfl
          have HQF : Hid (Fr (fun _ => False) w W5) := fr_new HN.out.fr qf (fun j hj e => by have e' : j = w.heap.size := e; omega)
          unfold put5 at hW5
          clear q0 qf
          go_wp2_with (fail)
          refine bodyPost_ret (v := .tuple #[zeroIn, .int .i64 0, .int .i64 4]) (by simp [zeroIn, results, Tryd.results7, go_sem, r0, r1, r2, r3, r4]) rfl ?_
          exact ⟨HQF.out, .inr ⟨HS.out, .inl ⟨0, HBAD.out, rfl⟩⟩⟩
        · have hk1 : ¬ kd < 0 := hk0
          have HST : Hid (lineO (tx s) = lineGo ((cuts 32 (tx s)).drop 1) (cutAt (cuts 32 (tx s)) 1) { Dr0 with what := kd, nx := 1 }) := by
            show _ = _
            rw [HLN.out, HFS, if_pos (by omega)]
          clear HFS hk0
          go_wp2_with (fail)
          have M0 : Hid (ML s w wr 1 a { Dr0 with what := kd, nx := 1 } [] false (.slice none 0 0) (.slice none 0 0)) := by
            refine ⟨HN.out.r, HE1.out, .nil _, OwnAt.nil _ _, by simp [Value.ownBlock], DS.first kd, HST.out, ?_, HN.out.fr⟩
            have h1 := (piece_of (CutSt.zero 32 (tx s)) HWE.out).2
            rw [tx_len] at h1
            exact h1
          clear HLN HWE HP HSL HST HE1 H0 HN ce
          go_loopw [6, 9, 10] (fun x6 x9 x10 wr => ∃ (k a : Nat) (x : Dr) (ns : List Int) (dn : Bool) (v : Value) (nq : Option Addr) (nc : Nat), x6 = .int .i64 (a : Int) ∧ x9 = .slice nq ns.length nc ∧ x10 = .bool dn ∧ Hid (ML s w wr k a x ns dn v (.slice nq ns.length nc))) (fun x6 _ _ _ => s.size - (intOf x6).toNat)
          case atStart => exact ⟨1, a, _, [], false, _, none, 0, rfl, rfl, rfl, M0.out⟩
          case round =>
            obtain ⟨k, a2, x, ns, dn, v, nq, nc, rfl, rfl, rfl, HM⟩ := hrel
            clear M0
            by_cases hlt : a2 < s.size
            · have hlt2 : (a2 : Int) < (s.size : Int) := by omega
              have HC : Hid (CutSt 32 (tx s) k (a2 + 1)) := by
                rcases HM.out.pos with h | h
                · exact h.2
                · omega
              have hab : a2 < 100000 := by have := HS.out; omega
              have KW : Hid (∀ W, Calls Tryd.prog 15 #[.string s, .int .i64 ((a2 : Int) + 1)] W fun e w' => (∃ n : Nat, e = .returned (.int .i64 (n : Int)) ∧ WE (tx s) (a2 + 1) n) ∧ W = w') := fun W => rword_in s (a2 + 1) W (by omega) (by have := HS.out; omega)
              have HLT : Hid (a2 < s.size) := hlt
              clear hlt
              go_wp2_with (fail)
              refine (KW.out _).mono ?_
              rintro e w' ⟨⟨b, rfl, hWE⟩, rfl⟩
              have HPO := piece_of HC.out hWE
              have hble : b ≤ s.size := by have := hWE.le; rwa [tx_len] at this
              obtain ⟨p, hp⟩ : ∃ p, ((tx s).drop (a2 + 1)).take (b - (a2 + 1)) = p := ⟨_, rfl⟩
              have hsl : ∀ W : World, (Instr.slice 9 (.string s) (some (.int .i64 ((a2 : Int) + 1))) (some (.int .i64 (b : Int))) none).run Tryd.prog W = .ok (.string ⟨p.toArray⟩) W := fun W => by
                have h1 := hWE.ge
                rw [run_slice_string W 9 s .i64 .i64 ((a2 : Int) + 1) (b : Int) Tryd.underlying9 (by omega) (by omega) (by omega)]
                rw [show ((a2 : Int) + 1).toNat = a2 + 1 by omega, Int.toNat_natCast, extract_mk s (a2 + 1) b hble h1, hp]
              rw [hp] at HPO
              have HPK : Hid ((cuts 32 (tx s))[k]? = some p) := HPO.1
              have HPP : Hid ((b < s.size ∧ CutSt 32 (tx s) (k + 1) (b + 1)) ∨ (b = s.size ∧ (cuts 32 (tx s)).length = k + 1)) := by have := HPO.2; rwa [tx_len] at this
              have HGE : Hid (a2 + 1 ≤ b ∧ b ≤ s.size) := ⟨hWE.ge, hble⟩
              obtain ⟨u, hu⟩ : ∃ u : ByteArray, (⟨p.toArray⟩ : ByteArray) = u := ⟨_, rfl⟩
              have HU : Hid (tx u = p) := by show _ = _; rw [← hu]; exact tx_mk p
              rw [hu] at hsl
              have hus : u.size ≤ 100000 := by
                have h1 := cuts_len 32 (tx s) p (List.mem_of_getElem? HPO.1)
                rw [← HU.out, tx_len, tx_len] at h1
                have := HS.out
                omega
              have KN : Hid (∀ W, Calls Tryd.prog 18 #[.string u] W fun e w' => e = .returned (rnumA (numO p)) ∧ W = w') := fun W => by
                have := rnumber_in u W
                rwa [HU.out] at this
              have HUS : Hid (u.size ≤ 100000) := hus
              clear hWE HPO hble hp hus KW hu
              cases hpc : p with
              | nil =>
                have he1 : (u.toList == []) = true := by rw [tx_toList, HU.out, hpc]; rfl
                have he2 : u.toList.isEmpty = true := by rw [tx_toList, HU.out, hpc]; rfl
                have he3 : u.toList = [] := by rw [tx_toList, HU.out, hpc]
                have hno : numO p = none := by rw [hpc]; rfl
                have HBAD : Hid (lineO (tx s) = .inr (a2 + 1)) := HM.out.bad HPK.out (by rw [step_num (by rw [hpc]; simp) HM.out.ds.pos, hno]; rfl) HC.out
                rw [hno] at KN
                clear hpc hno
                go_wp2_with (fail)
                refine (KN.out _).mono ?_
                rintro e w' ⟨rfl, rfl⟩
                unfold rnumA
                have c0 : wr.cell? ⟨w.heap.size, 0, none⟩ = some (.int .i64 0) := cell_of_heap HM.out.r rfl
                have z0 : wr.frozen? ⟨w.heap.size, 0, none⟩ = false := frozen_of_heap HM.out.r
                have c1 : wr.cell? ⟨w.heap.size, 1, none⟩ = some (.int .i64 0) := cell_of_heap HM.out.r rfl
                have z1 : wr.frozen? ⟨w.heap.size, 1, none⟩ = false := frozen_of_heap HM.out.r
                have c2 : wr.cell? ⟨w.heap.size, 2, none⟩ = some (.int .i64 0) := cell_of_heap HM.out.r rfl
                have z2 : wr.frozen? ⟨w.heap.size, 2, none⟩ = false := frozen_of_heap HM.out.r
                have c3 : wr.cell? ⟨w.heap.size, 3, none⟩ = some (.int .i64 0) := cell_of_heap HM.out.r rfl
                have z3 : wr.frozen? ⟨w.heap.size, 3, none⟩ = false := frozen_of_heap HM.out.r
                have c4 : wr.cell? ⟨w.heap.size, 4, none⟩ = some (.slice none 0 0) := cell_of_heap HM.out.r rfl
                have z4 : wr.frozen? ⟨w.heap.size, 4, none⟩ = false := frozen_of_heap HM.out.r
                obtain ⟨W5, hW5⟩ : ∃ W5, put5 wr w.heap.size (.int .i64 0) (.int .i64 0) (.int .i64 0) (.int .i64 0) (.slice none 0 0) = W5 := ⟨_, rfl⟩
                have q0 := put5_at (.int .i64 0) (.int .i64 0) (.int .i64 0) (.int .i64 0) (.slice none 0 0) HM.out.r
                have qf := put5_fr wr w.heap.size (.int .i64 0) (.int .i64 0) (.int .i64 0) (.int .i64 0) (.slice none 0 0)
                rw [hW5] at q0 qf
                have r0 : W5.cell? ⟨w.heap.size, 0, none⟩ = some (.int .i64 0) := cell_of_heap q0 rfl
                have r1 : W5.cell? ⟨w.heap.size, 1, none⟩ = some (.int .i64 0) := cell_of_heap q0 rfl
                have r2 : W5.cell? ⟨w.heap.size, 2, none⟩ = some (.int .i64 0) := cell_of_heap q0 rfl
                have r3 : W5.cell? ⟨w.heap.size, 3, none⟩ = some (.int .i64 0) := cell_of_heap q0 rfl
                have r4 : W5.cell? ⟨w.heap.size, 4, none⟩ = some (.slice none 0 0) := cell_of_heap q0 rfl
                have HQF : Hid (Fr (fun _ => False) w W5) := fr_new HM.out.fr qf (fun j hj e => by have e' : j = w.heap.size := e; omega)
                unfold put5 at hW5
                clear q0 qf
                go_wp2_with (fail)
                refine bodyPost_ret (v := .tuple #[zeroIn, .int .i64 ((a2 + 1 : Nat) : Int), .int .i64 4]) (by simp [zeroIn, results, Tryd.results7, go_sem, r0, r1, r2, r3, r4]) rfl ?_
                exact ⟨HQF.out, .inr ⟨HS.out, .inl ⟨a2 + 1, HBAD.out, rfl⟩⟩⟩
              | cons c r =>
                have he1 : (u.toList == []) = false := by rw [tx_toList, HU.out, hpc]; rfl
                have he2 : u.toList.isEmpty = false := by rw [tx_toList, HU.out, hpc]; rfl
                have he3 : ¬ u.toList = [] := by rw [tx_toList, HU.out, hpc]; simp
                have hu0 : 0 < u.size := by have := tx_len u; rw [HU.out, hpc] at this; simp at this; omega
                have hix : ∀ W : World, (Instr.index 9 (.string u) (.int .i64 0)).run Tryd.prog W = .ok (.int .u8 ((c.toNat : Nat) : Int)) W := fun W => by
                  have h1 := index_tx4 u 0 hu0 W
                  have h2 := tx_at u 0 hu0
                  rw [HU.out, hpc] at h2
                  simp at h2
                  rw [← h2] at h1
                  exact h1
                by_cases h61 : c = 61
                · have h61i : ((c.toNat : Nat) : Int) = 61 := by rw [h61]; rfl
                  have HH : Hid (p.head? = some 61) := by show _ = _; rw [hpc, h61]; rfl
                  rw [h61i] at hix
                  clear h61i
                  cases dn with
                  | false =>
                    have hsl2 : ∀ W : World, (Instr.slice 9 (.string u) (some (.int .i64 1)) none none).run Tryd.prog W = .ok (.string ⟨p.tail.toArray⟩) W := fun W => by
                      rw [run_slice_string_from_if W 9 u .i64 1 Tryd.underlying9, if_pos (by omega)]
                      rw [show (1 : Int).toNat = 1 from rfl, extract_mk u 1 u.size (Nat.le_refl _) (by omega), List.take_of_length_le (by rw [List.length_drop, tx_len]; omega), HU.out, List.drop_one]
                    obtain ⟨t, ht⟩ : ∃ t : ByteArray, (⟨p.tail.toArray⟩ : ByteArray) = t := ⟨_, rfl⟩
                    have HTT : Hid (tx t = p.tail) := by show _ = _; rw [← ht]; exact tx_mk _
                    rw [ht] at hsl2
                    have hts : t.size ≤ 100000 := by have h1 := tx_len t; rw [HTT.out, List.length_tail, ← HU.out, tx_len] at h1; have := HUS.out; omega
                    have KH : Hid (∀ W, Calls Tryd.prog 17 #[.string t] W (RHexAs t W)) := fun W => rhex_in t W hts
                    clear hpc h61 ht hts hu0 KN
                    go_wp2_with (fail)
                    refine (KH.out _).mono ?_
                    rintro e w2 (⟨hno, rfl, hf⟩ | ⟨out, hv, hyes, rfl, hg⟩)
                    · have HM2 : Hid (ML s w w2 k a2 x ns false v (.slice nq ns.length nc)) := HM.out.keep hf
                      have HBAD : Hid (lineO (tx s) = .inr (a2 + 1)) := HM.out.bad HPK.out (by rw [step_hex HH.out HM.out.ds.pos, ← HTT.out, hno]; rfl) HC.out
                      clear hno hf
                      have c0 : w2.cell? ⟨w.heap.size, 0, none⟩ = some (.int .i64 0) := cell_of_heap HM2.out.r rfl
                      have z0 : w2.frozen? ⟨w.heap.size, 0, none⟩ = false := frozen_of_heap HM2.out.r
                      have c1 : w2.cell? ⟨w.heap.size, 1, none⟩ = some (.int .i64 0) := cell_of_heap HM2.out.r rfl
                      have z1 : w2.frozen? ⟨w.heap.size, 1, none⟩ = false := frozen_of_heap HM2.out.r
                      have c2 : w2.cell? ⟨w.heap.size, 2, none⟩ = some (.int .i64 0) := cell_of_heap HM2.out.r rfl
                      have z2 : w2.frozen? ⟨w.heap.size, 2, none⟩ = false := frozen_of_heap HM2.out.r
                      have c3 : w2.cell? ⟨w.heap.size, 3, none⟩ = some (.int .i64 0) := cell_of_heap HM2.out.r rfl
                      have z3 : w2.frozen? ⟨w.heap.size, 3, none⟩ = false := frozen_of_heap HM2.out.r
                      have c4 : w2.cell? ⟨w.heap.size, 4, none⟩ = some (.slice none 0 0) := cell_of_heap HM2.out.r rfl
                      have z4 : w2.frozen? ⟨w.heap.size, 4, none⟩ = false := frozen_of_heap HM2.out.r
                      obtain ⟨W5, hW5⟩ : ∃ W5, put5 w2 w.heap.size (.int .i64 0) (.int .i64 0) (.int .i64 0) (.int .i64 0) (.slice none 0 0) = W5 := ⟨_, rfl⟩
                      have q0 := put5_at (.int .i64 0) (.int .i64 0) (.int .i64 0) (.int .i64 0) (.slice none 0 0) HM2.out.r
                      have qf := put5_fr w2 w.heap.size (.int .i64 0) (.int .i64 0) (.int .i64 0) (.int .i64 0) (.slice none 0 0)
                      rw [hW5] at q0 qf
                      have r0 : W5.cell? ⟨w.heap.size, 0, none⟩ = some (.int .i64 0) := cell_of_heap q0 rfl
                      have r1 : W5.cell? ⟨w.heap.size, 1, none⟩ = some (.int .i64 0) := cell_of_heap q0 rfl
                      have r2 : W5.cell? ⟨w.heap.size, 2, none⟩ = some (.int .i64 0) := cell_of_heap q0 rfl
                      have r3 : W5.cell? ⟨w.heap.size, 3, none⟩ = some (.int .i64 0) := cell_of_heap q0 rfl
                      have r4 : W5.cell? ⟨w.heap.size, 4, none⟩ = some (.slice none 0 0) := cell_of_heap q0 rfl
                      have HQF : Hid (Fr (fun _ => False) w W5) := fr_new HM2.out.fr qf (fun j hj e => by have e' : j = w.heap.size := e; omega)
                      unfold put5 at hW5
                      clear q0 qf
                      go_wp2_with (fail)
                      refine bodyPost_ret (v := .tuple #[zeroIn, .int .i64 ((a2 + 1 : Nat) : Int), .int .i64 4]) (by simp [zeroIn, results, Tryd.results7, go_sem, r0, r1, r2, r3, r4]) rfl ?_
                      exact ⟨HQF.out, .inr ⟨HS.out, .inl ⟨a2 + 1, HBAD.out, rfl⟩⟩⟩
                    · have HM2 : Hid (ML s w w2 k a2 x ns false v (.slice nq ns.length nc)) := HM.out.keep hg.2.2
                      have hBA := BAt.of_own hg.1
                      obtain ⟨q5, c5, rfl, -⟩ := id hBA
                      have c4 : w2.cell? ⟨w.heap.size + 1, 4, none⟩ = some v := cell_of_heap HM2.out.e rfl
                      have z4 : w2.frozen? ⟨w.heap.size + 1, 4, none⟩ = false := frozen_of_heap HM2.out.e
                      have hfb : Fr (fun j => j = w.heap.size + 1) w2 (w2.setCell ⟨w.heap.size + 1, 4, none⟩ (.slice q5 out.length c5)) := Fr.setB (Fr.refl _ _) 4 _
                      have HM3 : Hid (ML s w (w2.setCell ⟨w.heap.size + 1, 4, none⟩ (.slice q5 out.length c5)) (k + 1) b { x with dat := out, nx := 5 } ns true (.slice q5 out.length c5) (.slice nq ns.length nc)) := by
                        refine HM2.out.hex HPK.out HH.out (by rw [← HTT.out]; exact hyes) hfb (hBA.fr hfb (fun j cs fr hj e => ?_)) (set_at (j := 4) _ HM2.out.e) HPP.out
                        have e' : j = w.heap.size + 1 := e
                        rw [e', HM2.out.e] at hj
                        cases hj
                      clear hyes hg hBA hfb
                      go_wp2_with (fail)
                      go_roundw
                      case rel => exact ⟨k + 1, b, _, ns, true, _, nq, nc, rfl, rfl, rfl, HM3.out⟩
                      case measure =>
                        have h1 := HGE.out
                        have h2 := HLT.out
                        simp [intOf]; omega
                  | true =>
                    have hno : numO p = none := num_eq HH.out
                    have HBAD : Hid (lineO (tx s) = .inr (a2 + 1)) := HM.out.bad HPK.out (by
                      rw [step_hex HH.out HM.out.ds.pos]
                      have h4 := HM.out.ds.nx
                      simp at h4
                      cases hexO p.tail with
                      | none => rfl
                      | some bb => simp [h4]) HC.out
                    rw [hno] at KN
                    clear hpc hno h61 hu0
                    go_wp2_with (fail)
                    refine (KN.out _).mono ?_
                    rintro e w' ⟨rfl, rfl⟩
                    unfold rnumA
                    have c0 : wr.cell? ⟨w.heap.size, 0, none⟩ = some (.int .i64 0) := cell_of_heap HM.out.r rfl
                    have z0 : wr.frozen? ⟨w.heap.size, 0, none⟩ = false := frozen_of_heap HM.out.r
                    have c1 : wr.cell? ⟨w.heap.size, 1, none⟩ = some (.int .i64 0) := cell_of_heap HM.out.r rfl
                    have z1 : wr.frozen? ⟨w.heap.size, 1, none⟩ = false := frozen_of_heap HM.out.r
                    have c2 : wr.cell? ⟨w.heap.size, 2, none⟩ = some (.int .i64 0) := cell_of_heap HM.out.r rfl
                    have z2 : wr.frozen? ⟨w.heap.size, 2, none⟩ = false := frozen_of_heap HM.out.r
                    have c3 : wr.cell? ⟨w.heap.size, 3, none⟩ = some (.int .i64 0) := cell_of_heap HM.out.r rfl
                    have z3 : wr.frozen? ⟨w.heap.size, 3, none⟩ = false := frozen_of_heap HM.out.r
                    have c4 : wr.cell? ⟨w.heap.size, 4, none⟩ = some (.slice none 0 0) := cell_of_heap HM.out.r rfl
                    have z4 : wr.frozen? ⟨w.heap.size, 4, none⟩ = false := frozen_of_heap HM.out.r
                    obtain ⟨W5, hW5⟩ : ∃ W5, put5 wr w.heap.size (.int .i64 0) (.int .i64 0) (.int .i64 0) (.int .i64 0) (.slice none 0 0) = W5 := ⟨_, rfl⟩
                    have q0 := put5_at (.int .i64 0) (.int .i64 0) (.int .i64 0) (.int .i64 0) (.slice none 0 0) HM.out.r
                    have qf := put5_fr wr w.heap.size (.int .i64 0) (.int .i64 0) (.int .i64 0) (.int .i64 0) (.slice none 0 0)
                    rw [hW5] at q0 qf
                    have r0 : W5.cell? ⟨w.heap.size, 0, none⟩ = some (.int .i64 0) := cell_of_heap q0 rfl
                    have r1 : W5.cell? ⟨w.heap.size, 1, none⟩ = some (.int .i64 0) := cell_of_heap q0 rfl
                    have r2 : W5.cell? ⟨w.heap.size, 2, none⟩ = some (.int .i64 0) := cell_of_heap q0 rfl
                    have r3 : W5.cell? ⟨w.heap.size, 3, none⟩ = some (.int .i64 0) := cell_of_heap q0 rfl
                    have r4 : W5.cell? ⟨w.heap.size, 4, none⟩ = some (.slice none 0 0) := cell_of_heap q0 rfl
                    have HQF : Hid (Fr (fun _ => False) w W5) := fr_new HM.out.fr qf (fun j hj e => by have e' : j = w.heap.size := e; omega)
                    unfold put5 at hW5
                    clear q0 qf
                    go_wp2_with (fail)
                    refine bodyPost_ret (v := .tuple #[zeroIn, .int .i64 ((a2 + 1 : Nat) : Int), .int .i64 4]) (by simp [zeroIn, results, Tryd.results7, go_sem, r0, r1, r2, r3, r4]) rfl ?_
                    exact ⟨HQF.out, .inr ⟨HS.out, .inl ⟨a2 + 1, HBAD.out, rfl⟩⟩⟩
                · have h61i : ¬ ((c.toNat : Nat) : Int) = 61 := fun e => h61 (UInt8.toNat_inj.1 (by show c.toNat = 61; omega))
                  have HH : Hid (¬ p.head? = some 61) := by show ¬ _; rw [hpc]; simpa using h61
                  obtain ⟨cn, hcn⟩ : ∃ cn : Nat, c.toNat = cn := ⟨_, rfl⟩
                  rw [hcn] at hix h61i
                  clear hpc h61 hu0 hcn
                  cases hnn : numO p with
                  | none =>
                    have HBAD : Hid (lineO (tx s) = .inr (a2 + 1)) := HM.out.bad HPK.out (by rw [step_num HH.out HM.out.ds.pos, hnn]; rfl) HC.out
                    rw [hnn] at KN
                    clear hnn
                    go_wp2_with (fail)
                    refine (KN.out _).mono ?_
                    rintro e w' ⟨rfl, rfl⟩
                    unfold rnumA
                    have c0 : wr.cell? ⟨w.heap.size, 0, none⟩ = some (.int .i64 0) := cell_of_heap HM.out.r rfl
                    have z0 : wr.frozen? ⟨w.heap.size, 0, none⟩ = false := frozen_of_heap HM.out.r
                    have c1 : wr.cell? ⟨w.heap.size, 1, none⟩ = some (.int .i64 0) := cell_of_heap HM.out.r rfl
                    have z1 : wr.frozen? ⟨w.heap.size, 1, none⟩ = false := frozen_of_heap HM.out.r
                    have c2 : wr.cell? ⟨w.heap.size, 2, none⟩ = some (.int .i64 0) := cell_of_heap HM.out.r rfl
                    have z2 : wr.frozen? ⟨w.heap.size, 2, none⟩ = false := frozen_of_heap HM.out.r
                    have c3 : wr.cell? ⟨w.heap.size, 3, none⟩ = some (.int .i64 0) := cell_of_heap HM.out.r rfl
                    have z3 : wr.frozen? ⟨w.heap.size, 3, none⟩ = false := frozen_of_heap HM.out.r
                    have c4 : wr.cell? ⟨w.heap.size, 4, none⟩ = some (.slice none 0 0) := cell_of_heap HM.out.r rfl
                    have z4 : wr.frozen? ⟨w.heap.size, 4, none⟩ = false := frozen_of_heap HM.out.r
                    obtain ⟨W5, hW5⟩ : ∃ W5, put5 wr w.heap.size (.int .i64 0) (.int .i64 0) (.int .i64 0) (.int .i64 0) (.slice none 0 0) = W5 := ⟨_, rfl⟩
                    have q0 := put5_at (.int .i64 0) (.int .i64 0) (.int .i64 0) (.int .i64 0) (.slice none 0 0) HM.out.r
                    have qf := put5_fr wr w.heap.size (.int .i64 0) (.int .i64 0) (.int .i64 0) (.int .i64 0) (.slice none 0 0)
                    rw [hW5] at q0 qf
                    have r0 : W5.cell? ⟨w.heap.size, 0, none⟩ = some (.int .i64 0) := cell_of_heap q0 rfl
                    have r1 : W5.cell? ⟨w.heap.size, 1, none⟩ = some (.int .i64 0) := cell_of_heap q0 rfl
                    have r2 : W5.cell? ⟨w.heap.size, 2, none⟩ = some (.int .i64 0) := cell_of_heap q0 rfl
                    have r3 : W5.cell? ⟨w.heap.size, 3, none⟩ = some (.int .i64 0) := cell_of_heap q0 rfl
                    have r4 : W5.cell? ⟨w.heap.size, 4, none⟩ = some (.slice none 0 0) := cell_of_heap q0 rfl
                    have HQF : Hid (Fr (fun _ => False) w W5) := fr_new HM.out.fr qf (fun j hj e => by have e' : j = w.heap.size := e; omega)
                    unfold put5 at hW5
                    clear q0 qf
                    go_wp2_with (fail)
                    refine bodyPost_ret (v := .tuple #[zeroIn, .int .i64 ((a2 + 1 : Nat) : Int), .int .i64 4]) (by simp [zeroIn, results, Tryd.results7, go_sem, r0, r1, r2, r3, r4]) rfl ?_
                    exact ⟨HQF.out, .inr ⟨HS.out, .inl ⟨a2 + 1, HBAD.out, rfl⟩⟩⟩
                  | some n =>
                    have HNN : Hid (numO p = some n) := hnn
                    rw [hnn] at KN
                    clear hnn
                    cases dn with
                    | true =>
                      have HBAD : Hid (lineO (tx s) = .inr (a2 + 1)) := HM.out.bad HPK.out (by rw [step_num HH.out HM.out.ds.pos, HNN.out]; simp [HM.out.ds.full (.inl rfl)]) HC.out
                      go_wp2_with (fail)
                      refine (KN.out _).mono ?_
                      rintro e w' ⟨rfl, rfl⟩
                      unfold rnumA
                      have c0 : wr.cell? ⟨w.heap.size, 0, none⟩ = some (.int .i64 0) := cell_of_heap HM.out.r rfl
                      have z0 : wr.frozen? ⟨w.heap.size, 0, none⟩ = false := frozen_of_heap HM.out.r
                      have c1 : wr.cell? ⟨w.heap.size, 1, none⟩ = some (.int .i64 0) := cell_of_heap HM.out.r rfl
                      have z1 : wr.frozen? ⟨w.heap.size, 1, none⟩ = false := frozen_of_heap HM.out.r
                      have c2 : wr.cell? ⟨w.heap.size, 2, none⟩ = some (.int .i64 0) := cell_of_heap HM.out.r rfl
                      have z2 : wr.frozen? ⟨w.heap.size, 2, none⟩ = false := frozen_of_heap HM.out.r
                      have c3 : wr.cell? ⟨w.heap.size, 3, none⟩ = some (.int .i64 0) := cell_of_heap HM.out.r rfl
                      have z3 : wr.frozen? ⟨w.heap.size, 3, none⟩ = false := frozen_of_heap HM.out.r
                      have c4 : wr.cell? ⟨w.heap.size, 4, none⟩ = some (.slice none 0 0) := cell_of_heap HM.out.r rfl
                      have z4 : wr.frozen? ⟨w.heap.size, 4, none⟩ = false := frozen_of_heap HM.out.r
                      obtain ⟨W5, hW5⟩ : ∃ W5, put5 wr w.heap.size (.int .i64 0) (.int .i64 0) (.int .i64 0) (.int .i64 0) (.slice none 0 0) = W5 := ⟨_, rfl⟩
                      have q0 := put5_at (.int .i64 0) (.int .i64 0) (.int .i64 0) (.int .i64 0) (.slice none 0 0) HM.out.r
                      have qf := put5_fr wr w.heap.size (.int .i64 0) (.int .i64 0) (.int .i64 0) (.int .i64 0) (.slice none 0 0)
                      rw [hW5] at q0 qf
                      have r0 : W5.cell? ⟨w.heap.size, 0, none⟩ = some (.int .i64 0) := cell_of_heap q0 rfl
                      have r1 : W5.cell? ⟨w.heap.size, 1, none⟩ = some (.int .i64 0) := cell_of_heap q0 rfl
                      have r2 : W5.cell? ⟨w.heap.size, 2, none⟩ = some (.int .i64 0) := cell_of_heap q0 rfl
                      have r3 : W5.cell? ⟨w.heap.size, 3, none⟩ = some (.int .i64 0) := cell_of_heap q0 rfl
                      have r4 : W5.cell? ⟨w.heap.size, 4, none⟩ = some (.slice none 0 0) := cell_of_heap q0 rfl
                      have HQF : Hid (Fr (fun _ => False) w W5) := fr_new HM.out.fr qf (fun j hj e => by have e' : j = w.heap.size := e; omega)
                      unfold put5 at hW5
                      clear q0 qf
                      go_wp2_with (fail)
                      refine bodyPost_ret (v := .tuple #[zeroIn, .int .i64 ((a2 + 1 : Nat) : Int), .int .i64 4]) (by simp [zeroIn, results, Tryd.results7, go_sem, r0, r1, r2, r3, r4]) rfl ?_
                      exact ⟨HQF.out, .inr ⟨HS.out, .inl ⟨a2 + 1, HBAD.out, rfl⟩⟩⟩
                    | false =>
                      by_cases h3 : ns.length = 3
                      · have HBAD : Hid (lineO (tx s) = .inr (a2 + 1)) := HM.out.bad HPK.out (by rw [step_num HH.out HM.out.ds.pos, HNN.out]; simp [HM.out.ds.full (.inr h3)]) HC.out
                        have h3i : ((ns.length : Nat) : Int) = 3 := by omega
                        clear h3
                        go_wp2_with (fail)
                        refine (KN.out _).mono ?_
                        rintro e w' ⟨rfl, rfl⟩
                        unfold rnumA
                        have c0 : wr.cell? ⟨w.heap.size, 0, none⟩ = some (.int .i64 0) := cell_of_heap HM.out.r rfl
                        have z0 : wr.frozen? ⟨w.heap.size, 0, none⟩ = false := frozen_of_heap HM.out.r
                        have c1 : wr.cell? ⟨w.heap.size, 1, none⟩ = some (.int .i64 0) := cell_of_heap HM.out.r rfl
                        have z1 : wr.frozen? ⟨w.heap.size, 1, none⟩ = false := frozen_of_heap HM.out.r
                        have c2 : wr.cell? ⟨w.heap.size, 2, none⟩ = some (.int .i64 0) := cell_of_heap HM.out.r rfl
                        have z2 : wr.frozen? ⟨w.heap.size, 2, none⟩ = false := frozen_of_heap HM.out.r
                        have c3 : wr.cell? ⟨w.heap.size, 3, none⟩ = some (.int .i64 0) := cell_of_heap HM.out.r rfl
                        have z3 : wr.frozen? ⟨w.heap.size, 3, none⟩ = false := frozen_of_heap HM.out.r
                        have c4 : wr.cell? ⟨w.heap.size, 4, none⟩ = some (.slice none 0 0) := cell_of_heap HM.out.r rfl
                        have z4 : wr.frozen? ⟨w.heap.size, 4, none⟩ = false := frozen_of_heap HM.out.r
                        obtain ⟨W5, hW5⟩ : ∃ W5, put5 wr w.heap.size (.int .i64 0) (.int .i64 0) (.int .i64 0) (.int .i64 0) (.slice none 0 0) = W5 := ⟨_, rfl⟩
                        have q0 := put5_at (.int .i64 0) (.int .i64 0) (.int .i64 0) (.int .i64 0) (.slice none 0 0) HM.out.r
                        have qf := put5_fr wr w.heap.size (.int .i64 0) (.int .i64 0) (.int .i64 0) (.int .i64 0) (.slice none 0 0)
                        rw [hW5] at q0 qf
                        have r0 : W5.cell? ⟨w.heap.size, 0, none⟩ = some (.int .i64 0) := cell_of_heap q0 rfl
                        have r1 : W5.cell? ⟨w.heap.size, 1, none⟩ = some (.int .i64 0) := cell_of_heap q0 rfl
                        have r2 : W5.cell? ⟨w.heap.size, 2, none⟩ = some (.int .i64 0) := cell_of_heap q0 rfl
                        have r3 : W5.cell? ⟨w.heap.size, 3, none⟩ = some (.int .i64 0) := cell_of_heap q0 rfl
                        have r4 : W5.cell? ⟨w.heap.size, 4, none⟩ = some (.slice none 0 0) := cell_of_heap q0 rfl
                        have HQF : Hid (Fr (fun _ => False) w W5) := fr_new HM.out.fr qf (fun j hj e => by have e' : j = w.heap.size := e; omega)
                        unfold put5 at hW5
                        clear q0 qf
                        go_wp2_with (fail)
                        refine bodyPost_ret (v := .tuple #[zeroIn, .int .i64 ((a2 + 1 : Nat) : Int), .int .i64 4]) (by simp [zeroIn, results, Tryd.results7, go_sem, r0, r1, r2, r3, r4]) rfl ?_
                        exact ⟨HQF.out, .inr ⟨HS.out, .inl ⟨a2 + 1, HBAD.out, rfl⟩⟩⟩
                      · have h3i : ¬ ((ns.length : Nat) : Int) = 3 := by omega
                        have HL3 : Hid (ns.length < 3) := by have := HM.out.ds.few; show _ < _; omega
                        clear h3
                        go_wp2_with (fail)
                        refine (KN.out _).mono ?_
                        rintro e w' ⟨rfl, rfl⟩
                        unfold rnumA
                        go_wp2_with (refine wpList_addI4 rfl (.tmp 98) (.tmp 100) rfl (.slice nq ns.length nc) ns (n : Int) (by go_simp) HM.out.own (by go_simp) (by have := HL3.out; omega) ?_; intro a6 n6 c6 w6 N6 O6 F6 K6)
                        have HM6 : Hid (ML s w w6 (k + 1) b (putN x (n : Int)) (ns ++ [(n : Int)]) false v (.slice a6 n6 c6)) := HM.out.num HPK.out HH.out HNN.out HL3.out F6.out O6.out K6.out HPP.out
                        have HN6 : Hid (n6 = (ns ++ [(n : Int)]).length) := by show _ = _; rw [N6.out]; simp
                        clear F6 O6 K6 N6
                        go_wp2_with (fail)
                        go_roundw
                        case rel =>
                          have e6 := HN6.out
                          subst e6
                          exact ⟨k + 1, b, _, _, false, _, a6, c6, rfl, rfl, rfl, HM6.out⟩
                        case measure =>
                          have h1 := HGE.out
                          have h2 := HLT.out
                          simp [intOf]; omega
            · have hlt2 : ¬ (a2 : Int) < (s.size : Int) := by omega
              have HLX : Hid (lineO (tx s) = .inl x) := by
                show _ = _
                rcases HM.out.pos with h | h
                · omega
                · rw [HM.out.line, ← h.2, List.drop_length]
                  rfl
              clear hlt
              go_wp2_with (fail)
              go_loopw [9] (fun x9 wr2 => ∃ (ms : List Int) (mq : Option Addr) (mc : Nat), x9 = .slice mq ms.length mc ∧ Hid (PD w wr2 x ns ms v (.slice mq ms.length mc))) (fun x9 _ => 3 - sl4 x9)
              case atStart => exact ⟨ns, nq, nc, rfl, HM.out.r, HM.out.e, HM.out.dat, HM.out.own, HM.out.new, HM.out.ds.few, fun i => rfl, HM.out.fr⟩
              case round =>
                rename_i wr0
                obtain ⟨ms, mq, mc, rfl, HD⟩ := hrel
                by_cases h3 : ms.length < 3
                · have h3i : ((ms.length : Nat) : Int) < 3 := by omega
                  go_wp2_with (refine wpList_addI4 rfl (.tmp 105) (.tmp 106) rfl (.slice mq ms.length mc) ms 0 (by go_simp) HD.out.own (by go_simp) (by omega) ?_; intro a6 n6 c6 w6 N6 O6 F6 K6)
                  have HD6 : Hid (PD w w6 x ns (ms ++ [0]) v (.slice a6 n6 c6)) := HD.out.more h3 F6.out O6.out K6.out
                  have HN6 : Hid (n6 = (ms ++ [(0 : Int)]).length) := by show _ = _; rw [N6.out]; simp
                  have HN7 : Hid (n6 = ms.length + 1) := N6.out
                  clear F6 O6 K6 N6
                  go_roundw
                  case rel =>
                    have e6 := HN6.out
                    subst e6
                    exact ⟨_, a6, c6, rfl, HD6.out⟩
                  case measure =>
                    have e6 := HN7.out
                    simp [sl4]
                    omega
                · have h3i : ¬ ((ms.length : Nat) : Int) < 3 := by omega
                  have hm3 : ms.length = 3 := by have := HD.out.few; omega
                  have HDS : Hid (x.a = ms.getD 0 0 ∧ x.b = ms.getD 1 0 ∧ x.d = ms.getD 2 0) := ⟨by rw [HM.out.ds.a, HD.out.same], by rw [HM.out.ds.b, HD.out.same], by rw [HM.out.ds.d, HD.out.same]⟩
                  obtain ⟨g, off, he, b0, b1, b2, hgn⟩ := HD.out.three hm3
                  subst he
                  rw [← HDS.out.1] at b0
                  rw [← HDS.out.2.1] at b1
                  rw [← HDS.out.2.2] at b2
                  obtain ⟨vq, vc, hve, -⟩ := id HD.out.dat
                  subst hve
                  have E0 := HD.out.e
                  obtain ⟨W1, hW1⟩ : ∃ W1, wr.setCell ⟨w.heap.size + 1, 1, none⟩ (.int .i64 x.a) = W1 := ⟨_, rfl⟩
                  obtain ⟨W2, hW2⟩ : ∃ W2, W1.setCell ⟨w.heap.size + 1, 2, none⟩ (.int .i64 x.b) = W2 := ⟨_, rfl⟩
                  obtain ⟨W3, hW3⟩ : ∃ W3, W2.setCell ⟨w.heap.size + 1, 3, none⟩ (.int .i64 x.d) = W3 := ⟨_, rfl⟩
                  have E1 := set_at (j := 1) (.int .i64 x.a) E0
                  rw [hW1] at E1
                  have E2 := set_at (j := 2) (.int .i64 x.b) E1
                  rw [hW2] at E2
                  have E3 := set_at (j := 3) (.int .i64 x.d) E2
                  rw [hW3] at E3
                  have f1 : Fr (fun j => j = w.heap.size + 1) wr W1 := by rw [← hW1]; exact Fr.setB (Fr.refl _ _) 1 _
                  have f2 : Fr (fun j => j = w.heap.size + 1) wr W2 := f1.trans (by rw [← hW2]; exact Fr.setB (Fr.refl _ _) 2 _)
                  have f3 : Fr (fun j => j = w.heap.size + 1) wr W3 := f2.trans (by rw [← hW3]; exact Fr.setB (Fr.refl _ _) 3 _)
                  have hgl : g < wr.heap.size := cell_lt b0
                  have hgne : ¬ g = w.heap.size + 1 := by omega
                  have k1 : W1.cell? ⟨g, off + 1, none⟩ = some (.int .i64 x.b) := (f1.cell (p := ⟨g, off + 1, none⟩) hgl hgne).trans b1
                  have k2 : W2.cell? ⟨g, off + 2, none⟩ = some (.int .i64 x.d) := (f2.cell (p := ⟨g, off + 2, none⟩) hgl hgne).trans b2
                  have o1 : wr.cell? ⟨w.heap.size + 1, 1, none⟩ = some (.int .i64 0) := cell_of_heap E0 rfl
                  have o2 : W1.cell? ⟨w.heap.size + 1, 2, none⟩ = some (.int .i64 0) := cell_of_heap E1 rfl
                  have o3 : W2.cell? ⟨w.heap.size + 1, 3, none⟩ = some (.int .i64 0) := cell_of_heap E2 rfl
                  have y1 : wr.frozen? ⟨w.heap.size + 1, 1, none⟩ = false := frozen_of_heap E0
                  have y2 : W1.frozen? ⟨w.heap.size + 1, 2, none⟩ = false := frozen_of_heap E1
                  have y3 : W2.frozen? ⟨w.heap.size + 1, 3, none⟩ = false := frozen_of_heap E2
                  have d0 : W3.cell? ⟨w.heap.size + 1, 0, none⟩ = some (.int .i64 x.what) := cell_of_heap E3 rfl
                  have d1 : W3.cell? ⟨w.heap.size + 1, 1, none⟩ = some (.int .i64 x.a) := cell_of_heap E3 rfl
                  have d2 : W3.cell? ⟨w.heap.size + 1, 2, none⟩ = some (.int .i64 x.b) := cell_of_heap E3 rfl
                  have d3 : W3.cell? ⟨w.heap.size + 1, 3, none⟩ = some (.int .i64 x.d) := cell_of_heap E3 rfl
                  have d4 : W3.cell? ⟨w.heap.size + 1, 4, none⟩ = some (.slice vq x.dat.length vc) := cell_of_heap E3 rfl
                  have R3 := (f3.block _ (lt_of_heap HD.out.r) (fun e => by have e' : w.heap.size = w.heap.size + 1 := e; omega)).trans HD.out.r
                  have c0 : W3.cell? ⟨w.heap.size, 0, none⟩ = some (.int .i64 0) := cell_of_heap R3 rfl
                  have c1 : W3.cell? ⟨w.heap.size, 1, none⟩ = some (.int .i64 0) := cell_of_heap R3 rfl
                  have c2 : W3.cell? ⟨w.heap.size, 2, none⟩ = some (.int .i64 0) := cell_of_heap R3 rfl
                  have c3 : W3.cell? ⟨w.heap.size, 3, none⟩ = some (.int .i64 0) := cell_of_heap R3 rfl
                  have c4 : W3.cell? ⟨w.heap.size, 4, none⟩ = some (.slice none 0 0) := cell_of_heap R3 rfl
                  have z0 : W3.frozen? ⟨w.heap.size, 0, none⟩ = false := frozen_of_heap R3
                  have z1 : W3.frozen? ⟨w.heap.size, 1, none⟩ = false := frozen_of_heap R3
                  have z2 : W3.frozen? ⟨w.heap.size, 2, none⟩ = false := frozen_of_heap R3
                  have z3 : W3.frozen? ⟨w.heap.size, 3, none⟩ = false := frozen_of_heap R3
                  have z4 : W3.frozen? ⟨w.heap.size, 4, none⟩ = false := frozen_of_heap R3
                  obtain ⟨W5, hW5⟩ : ∃ W5, put5 W3 w.heap.size (.int .i64 x.what) (.int .i64 x.a) (.int .i64 x.b) (.int .i64 x.d) (.slice vq x.dat.length vc) = W5 := ⟨_, rfl⟩
                  have q0 := put5_at (.int .i64 x.what) (.int .i64 x.a) (.int .i64 x.b) (.int .i64 x.d) (.slice vq x.dat.length vc) R3
                  have qf := put5_fr W3 w.heap.size (.int .i64 x.what) (.int .i64 x.a) (.int .i64 x.b) (.int .i64 x.d) (.slice vq x.dat.length vc)
                  rw [hW5] at q0 qf
                  have r0 : W5.cell? ⟨w.heap.size, 0, none⟩ = some (.int .i64 x.what) := cell_of_heap q0 rfl
                  have r1 : W5.cell? ⟨w.heap.size, 1, none⟩ = some (.int .i64 x.a) := cell_of_heap q0 rfl
                  have r2 : W5.cell? ⟨w.heap.size, 2, none⟩ = some (.int .i64 x.b) := cell_of_heap q0 rfl
                  have r3 : W5.cell? ⟨w.heap.size, 3, none⟩ = some (.int .i64 x.d) := cell_of_heap q0 rfl
                  have r4 : W5.cell? ⟨w.heap.size, 4, none⟩ = some (.slice vq x.dat.length vc) := cell_of_heap q0 rfl
                  have HQF : Hid (Fr (fun _ => False) w W5) := fr_new (fr_new HD.out.fr f3 (fun j hj e => by have e' : j = w.heap.size + 1 := e; omega)) qf (fun j hj e => by have e' : j = w.heap.size := e; omega)
                  have HBA : Hid (BAt W5 (.slice vq x.dat.length vc) x.dat) := by
                    refine (HD.out.dat.fr f3 (fun j cs fr hj e => ?_)).fr qf (fun j cs fr hj e => ?_)
                    · have e' : j = w.heap.size + 1 := e
                      rw [e', E0] at hj
                      cases hj
                    · have e' : j = w.heap.size := e
                      rw [e', R3] at hj
                      cases hj
                  have hm3i : ((ms.length : Nat) : Int) = 3 := by omega
                  unfold put5 at hW5
                  clear q0 qf E0 E1 E2 E3 f1 f2 f3 R3 h3 hgn hgl
                  rw [hm3] at h3i ⊢
                  clear hm3 hm3i
                  go_wp2_with (fail)
                  refine bodyPost_ret (v := .tuple #[inV x (.slice vq x.dat.length vc), .int .i64 0, .int .i64 0]) (by simp [inV, results, Tryd.results7, go_sem, r0, r1, r2, r3, r4]) rfl ?_
                  exact ⟨HQF.out, .inr ⟨HS.out, .inr ⟨x, _, HLX.out, rfl, HBA.out⟩⟩⟩
end Go.Proofs.YtfehmlopndklcaaDoor
