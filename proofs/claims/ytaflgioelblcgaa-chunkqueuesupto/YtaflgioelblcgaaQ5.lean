/- Contracts of package chunk's Queue: Take's walk. -/
import Derived.Test.YtaflgioelblcgaaQ4
namespace Go.Proofs.Ytaflgioelblcgaa
open Go.RowKit
set_option linter.unusedVariables false

theorem ownSrc {w0 w : World} {a : Option Addr} {n c : Nat} {xs : List UInt8} (h : Gath w0 w (.slice a n c) xs) : SrcAt w a xs ∧ n = xs.length := ⟨own_src h.1, (own_len h.1).1⟩

theorem ChunkAt.src {w : World} {b : Nat} {own : Option Nat} {u : Value} {c : List UInt8} (h : ChunkAt w b own u c) : ∃ g o, u = .slice (some ⟨g, o, none⟩) c.length c.length ∧ SrcAt w (some ⟨g, o, none⟩) c := by
  obtain ⟨h0, g, o, cur, e1, e2, e3, e4, e5⟩ := h
  refine ⟨g, o, e1, ?_⟩
  have := (SrcAt.row e2 o).take c.length
  rw [e3] at this
  exact this

theorem Cut.drew {w w5 : World} {b : Nat} {v : Value} {L : List (List UInt8)} {m gone : Nat} (h : Cut w w5 b v L m gone) : Cut w w5.drew b v L m gone := by
  obtain ⟨ys, L', h1, h2, h3, h4, h5, h6, h7, h8, h9⟩ := h
  have hf : Fr (fun _ => False) w5 w5.drew := (Fr.refl _ _).drew
  refine ⟨ys, L', h1, h2.fr hf (fun _ _ => id), h3, h4, h5, fun j c hj => ?_, h7, h8, h9.drew⟩
  obtain ⟨u, hu, hc⟩ := h6 j c hj
  exact ⟨u, hu, hc.fr (hf.mono (fun _ _ e => e.elim))⟩

theorem chunk_le (L : List (List UInt8)) (k : Nat) (c : List UInt8) (h : L[k]? = some c) : total (L.take k) + c.length ≤ total L := by
  have h1 := (flat_succ L k c h).2
  have h2 := total_take_le L (k + 1)
  omega

set_option maxRecDepth 100000 in
set_option maxHeartbeats 2000000 in
theorem qtake_any (b : Nat) (v : Value) (L : List (List UInt8)) (n : Int) (m : Nat) (w : World) (hq : QueueIs w b v L) (hm : (m : Int) = max 0 (min n (total L))) (htot : total L ≤ 1073741824) :
    Calls Try.prog 21 #[.pointer (some ⟨b, 0, none⟩), .int .i64 n] w fun e w' => ∃ a' c', e = .returned (.slice a' m c') ∧ SrcAt w' a' (L.flatten.take m) ∧ (∀ k, (Value.slice a' m c').ownBlock = some k → w.heap.size ≤ k) ∧
      ∃ v', QueueIs w' b v' (restL L m) ∧ v'.ownBlock = v.ownBlock ∧ Fr (fun k => k = b ∨ v.ownBlock = some k) w w' := by
  obtain ⟨c0, c1, ⟨a, cap, hv, c2⟩, hL⟩ := hq.cells
  have hmt : m ≤ total L := by omega
  have hmk := make_room m (by omega)
  have hbs : b < w.heap.size := World.block_lt_of_cell? _ _ c0
  have G0 : Gath w (w.alloc (.cells (bv (List.replicate m 0)).toArray 5)) (.slice (some ⟨w.heap.size, 0, none⟩) 0 m) [] := Gath.room m (by omega) (Fr.refl _ _)
  have HG0 : Hid (Gath w (w.alloc (.cells (bv (List.replicate m 0)).toArray 5)) (.slice (some ⟨w.heap.size, 0, none⟩) 0 m) []) := G0
  have HQ : Hid (QueueIs w b v L) := hq
  have HV : Hid (v = .slice a L.length cap) := hv
  have HM : Hid ((m : Int) = max 0 (min n (total L))) := hm
  have hmi : (m : Int) ≤ 1073741824 := by omega
  have hLi : (L.length : Int) ≤ 4096 := by omega
  clear hq hv hm G0
  go_enter Try.func21, Try.ntmps21
  go_wp2_with fail
  refine (atMost_any b n (total L) w c0).mono ?_
  rw [← HM.out]
  rintro e w1 ⟨rfl, rfl⟩
  have c2' : (w1.alloc (.cells (bv (List.replicate m 0)).toArray 5)).cell? ⟨b, 2, none⟩ = some (.slice a L.length cap) := (World.cell?_alloc_lt _ _ _ hbs).trans c2
  go_wp2_with fail
  go_loopw [5, 6, 24] (fun vb vg i wr => ∃ (k : Nat) (ab : Option Addr) (nb cb : Nat), k ≤ L.length ∧ i = .int .i64 k ∧ vg = .int .i64 k ∧ vb = .slice ab nb cb ∧ Gath w1 wr (.slice ab nb cb) (L.take k).flatten ∧ total (L.take k) ≤ m) (fun _ _ i _ => L.length - (intOf i).toNat)
  case atStart => exact ⟨0, _, _, _, Nat.zero_le _, rfl, rfl, rfl, HG0.out, by simp [total]⟩
  case round =>
    obtain ⟨k, ab, nb, cb, hk, rfl, rfl, rfl, hG, hle⟩ := hrel
    have HG : Hid (Gath w1 wr (.slice ab nb cb) (L.take k).flatten) := hG
    have hnb : nb = total (L.take k) := by rw [(ownSrc hG).2, flatten_length]
    have hF := hG.2.2
    clear hG
    by_cases hlt : k < L.length
    · obtain ⟨c, hc⟩ : ∃ c, L[k]? = some c := ⟨L[k], by simp [hlt]⟩
      have HC : Hid (L[k]? = some c) := hc
      obtain ⟨xs, hbk, hown, hvb, hxl, -, hch⟩ := HQ.out.fr hF
      obtain ⟨u, hu, hca⟩ := hch k c hc
      obtain ⟨g', o, rfl, hsrc⟩ := hca.src
      obtain ⟨g, off, cap', hveq, hcell, hfz⟩ := hown.cells k _ hu
      obtain rfl := HV.out
      rw [hxl] at hveq
      cases hveq
      have HX : Hid (∀ w4, Fr (fun _ => False) w1 w4 → w4.cell? ⟨b, 0, none⟩ = some (.int .i64 (total L : Nat)) ∧ w4.cell? ⟨b, 2, none⟩ = some (.slice (some ⟨g, off, none⟩) L.length cap) ∧ w4.frozen? ⟨b, 0, none⟩ = false ∧ w4.cell? ⟨g, off + k, none⟩ = some (.slice (some ⟨g', o, none⟩) c.length c.length) ∧ w4.frozen? ⟨g, off + k, none⟩ = false) := by
        intro w4 hf4
        obtain ⟨xs2, hbk2, hown2, hvb2, hxl2, -, hch2⟩ := HQ.out.fr hf4
        have hown3 : OwnAt w4 31 (.slice (some ⟨g, off, none⟩) L.length cap) xs := by
          obtain ⟨xs1, hbk1, hown1, hvb1, hxl1, -, hch1⟩ := HQ.out
          have hlt1 := hown1.lt g rfl
          rcases hown with ⟨h, _⟩ | ⟨g2, o2, cap2, cur2, h, hgr, q⟩
          · cases h
          · rw [hxl] at h
            cases h
            refine .inr ⟨g, off, cap, cur2, by rw [hxl], ?_, q⟩
            rw [hf4.block g hlt1 id, ← hF.block g hlt1 id]
            exact hgr
        obtain ⟨g3, off3, cap3, hv3, hcell3, hfz3⟩ := hown3.cells k _ hu
        rw [hxl] at hv3
        cases hv3
        exact ⟨(cell3 hbk2).1, (cell3 hbk2).2.2, frozen_of_heap hbk2, hcell3, hfz3⟩
      have hC0 : 0 < c.length := hca.1
      obtain ⟨r, hr⟩ : ∃ r : Nat, r = m - nb := ⟨_, rfl⟩
      have hri : (m : Int) - (nb : Int) = (r : Int) := by omega
      have HR : Hid (r = m - total (L.take k)) := by show _ = _; rw [hr, hnb]
      have HNB : Hid (nb = total (L.take k)) := hnb
      have hlti : (k : Int) < (L.length : Int) := by omega
      have hcl := chunk_le L k c hc
      have hg8 : (c.length : Int) ≤ 1073741824 := by omega
      have HCL : Hid (total (L.take k) + c.length ≤ total L) := hcl
      clear hc hbk hown hvb hxl hch hca hr hnb hF
      obtain ⟨i, hi1, hi2, hi3, hi4⟩ := info5
      have J1 : Hid (Try.prog.info? 5 = some i) := hi1
      have J2 : Hid (i.zero = some (.int .u8 0)) := hi2
      have J3 : Hid (i.size = 1) := hi3
      have J4 : Hid (i.bytes = 1) := hi4
      clear hi1 hi2 hi3 hi4
      by_cases hbr : r < c.length
      · have hcut := cut3_to Try.prog 31 5 Try.underlying31 (by kernel_rfl) (some ⟨g', o, none⟩) c.length c.length r .i64 .i64 (by omega)
        have hcut2 := cut3_from Try.prog 31 5 Try.underlying31 (by kernel_rfl) g' o c.length c.length r c.length .i64 .i64 .i64 (by omega) (by omega)
        have hsr := hsrc.take r
        have HSL : Hid ((c.take r).length = r) := by show _ = _; rw [List.length_take]; omega
        have HBY : Hid ((L.take k).flatten.length + r ≤ 140737488355328) := by show _ ≤ _; rw [flatten_length]; have := HR.out; omega
        have hbri : (r : Int) < (c.length : Int) := by omega
        clear hsrc
        go_wp2_with (at_builtin; refine wpList_gather rfl (.tmp 36) (.tmp 40) 31 31 rfl i Try.underlying31 Try.underlying31 J1.out J2.out J3.out J4.out (.slice ab nb cb) _ (by go_simp) HG.out (some ⟨g', o, none⟩) r r (by go_simp) (c.take r) hsr HSL.out HBY.out ?_; intro a4 n4 c4 w4 Hn4 G4 Hf4; obtain ⟨y0, y2, z0, y3, z3⟩ := HX.out w4 G4.2.2)
        have HN4 : Hid (n4 = m) := by show _ = _; have := Hn4.out; rw [flatten_length] at this; have := HR.out; omega
        have HG4 : Hid (Gath w1 w4 (.slice a4 n4 c4) (L.flatten.take m)) := by
          have e := take_flat L k m c HC.out hle (by have := HR.out; omega)
          show Gath _ _ _ _
          rw [← e, ← HR.out]
          exact G4
        obtain ⟨xs2, hbk2, hown2, hvb2, hxl2, hL2, hch2⟩ := HQ.out.fr G4.2.2
        have hx2 : xs2[k]? = some (.slice (some ⟨g', o, none⟩) c.length c.length) := by
          obtain ⟨u2, hu2, -⟩ := hch2 k c HC.out
          obtain ⟨g3, off3, cap3, hv3, hcell3, -⟩ := hown2.cells k _ hu2
          rw [hxl2] at hv3
          cases hv3
          rw [y3] at hcell3
          cases hcell3
          exact hu2
        have hgb : g ≠ b := fun e => hvb2 (by rw [← e]; rfl)
        have HCUT : Hid (Cut w1 (w4.setCell ⟨g, off + k, none⟩ (.slice (some ⟨g', o + r, none⟩) (c.length - r) (c.length - r))).drew b (.slice (some ⟨g, off, none⟩) L.length cap) L m k) :=
          (Cut.at G4.2.2 hbk2 hown2 hgb hxl2 hL2 hch2 HC.out hx2 HR.out hle hbr).drew
        have HF45 : Hid (Fr (fun k => k = g) w4 (w4.setCell ⟨g, off + k, none⟩ (.slice (some ⟨g', o + r, none⟩) (c.length - r) (c.length - r))).drew) := Fr.drew (Fr.setB (Fr.refl _ _) _ _)
        clear HX hbk2 hown2 hvb2 hxl2 hch2 hx2 G4 Hf4 Hn4
        go_region
        all_goals
          obtain ⟨w5, hw5⟩ : ∃ w5, w5 = (w4.setCell ⟨g, off + k, none⟩ (.slice (some ⟨g', o + r, none⟩) (c.length - r) (c.length - r))).drew := ⟨_, rfl⟩
          rw [← hw5] at HCUT HF45 ⊢
          clear hw5 y0 y2 z0 y3 z3
          have hb5 : w5.heap[b]? = some (.cells #[.int .i64 (total L : Nat), .bool true, .slice (some ⟨g, off, none⟩) L.length cap] 58 (0, 0)) := by
            obtain ⟨ys, L', h1, -⟩ := HCUT.out
            exact h1
          have y0 := (cell3 hb5).1
          have z0 : w5.frozen? ⟨b, 0, none⟩ = false := frozen_of_heap hb5
          have hti : (total L : Int) ≤ 1073741824 := by omega
          have hmi2 : (m : Int) ≤ (total L : Int) := by omega
          clear hb5
          go_wp2_with fail
          refine (HCUT.out.forget hmt).mono ?_
          rintro e w7 ⟨rfl, v', hq', ho', hF7, hF57⟩
          have HQ7 : Hid (QueueIs w7 b v' (restL L m)) := hq'
          have HF7 : Hid (Fr (fun k => k = b ∨ (Value.slice (some ⟨g, off, none⟩) L.length cap).ownBlock = some k) w1 w7) := hF7
          have HF57 : Hid (Fr (fun k => k = b ∨ (Value.slice (some ⟨g, off, none⟩) L.length cap).ownBlock = some k) w5 w7) := hF57
          clear hq' hF7 hF57
          go_wp2
          go_ret
          have hlt1 : g < w1.heap.size := HQ.out.choose_spec.2.1.lt g rfl
          refine ⟨a4, c4, congrArg (fun n => Ending.returned (.slice a4 n c4)) HN4.out, ?_, fun k hk => HG4.out.2.1 k (by rw [HN4.out]; exact hk), v', HQ7.out, ho', HF7.out⟩
          have h47 : Fr (fun k => k = b ∨ k = g) w4 w7 := (HF45.out.mono (fun _ _ e => .inr e)).trans (HF57.out.mono (fun x _ e => e.imp id (fun e => by simpa [Value.ownBlock, eq_comm] using e)))
          refine (ownSrc HG4.out).1.fr h47 (fun ad e h0 => ?_)
          have hk := HG4.out.2.1 ad.block (by subst e; rfl)
          omega
      · have hcut := cut3_to Try.prog 31 5 Try.underlying31 (by kernel_rfl) (some ⟨g', o, none⟩) c.length c.length c.length .i64 .i64 (by omega)
        have HBY : Hid ((L.take k).flatten.length + c.length ≤ 140737488355328) := by show _ ≤ _; rw [flatten_length]; have := HCL.out; omega
        go_wp2_with (at_builtin; refine wpList_gather rfl (.tmp 36) (.tmp 40) 31 31 rfl i Try.underlying31 Try.underlying31 J1.out J2.out J3.out J4.out (.slice ab nb cb) _ (by go_simp) HG.out (some ⟨g', o, none⟩) c.length c.length (by go_simp) c hsrc rfl HBY.out ?_; intro a4 n4 c4 w4 Hn4 G4 Hf4)
        have HG4 : Hid (Gath w1 w4 (.slice a4 n4 c4) ((L.take k).flatten ++ c)) := G4
        clear HX G4 Hf4
        go_roundw
        case rel =>
          have h9 := flat_succ L k c HC.out
          exact ⟨k + 1, a4, n4, c4, by omega, by go_num, by go_num, rfl, by rw [h9.1]; exact HG4.out, by rw [h9.2]; have := HR.out; have := HNB.out; omega⟩
        case measure => simp [intOf]; omega
    · obtain rfl : k = L.length := by omega
      have hlti : ¬ ((L.length : Int) < (L.length : Int)) := by omega
      rw [List.take_length] at hnb hle
      have hmT : total L = m := by omega
      have HCUT : Hid (Cut w1 wr b v L m L.length) := Cut.all HQ.out hF (by omega)
      have HG4 : Hid (Gath w1 wr (.slice ab nb cb) L.flatten) := by have := HG.out; rw [List.take_length] at this; exact this
      have hb5 : wr.heap[b]? = some (.cells #[.int .i64 (total L : Nat), .bool true, v] 58 (0, 0)) := by
        obtain ⟨ys, L', h1, -⟩ := HCUT.out
        exact h1
      have y0 := (cell3 hb5).1
      have z0 : wr.frozen? ⟨b, 0, none⟩ = false := frozen_of_heap hb5
      have hti : (total L : Int) ≤ 1073741824 := by omega
      have hmi2 : (m : Int) ≤ (total L : Int) := by omega
      have HMT : Hid (total L = m) := hmT
      have HNB : Hid (nb = total L) := hnb
      clear hb5 hmT hnb HG hF c0 c1 c2 c2' HG0
      go_wp2_with fail
      refine (HCUT.out.forget hmt).mono ?_
      rintro e w7 ⟨rfl, v', hq', ho', hF7, hF57⟩
      have HQ7 : Hid (QueueIs w7 b v' (restL L m)) := hq'
      have HF7 : Hid (Fr (fun k => k = b ∨ v.ownBlock = some k) w1 w7) := hF7
      have HF57 : Hid (Fr (fun k => k = b ∨ v.ownBlock = some k) wr w7) := hF57
      clear hq' hF7 hF57
      go_wp2
      go_ret
      have hn : nb = m := HNB.out.trans HMT.out
      have hfl : L.flatten.take m = L.flatten := List.take_of_length_le (by rw [flatten_length, HMT.out]; exact Nat.le_refl _)
      refine ⟨ab, cb, congrArg (fun n => Ending.returned (.slice ab n cb)) hn, ?_, fun k hk => HG4.out.2.1 k (by rw [hn]; exact hk), v', HQ7.out, ho', HF7.out⟩
      rw [hfl]
      refine (ownSrc HG4.out).1.fr HF57.out (fun ad e h0 => ?_)
      have hk := HG4.out.2.1 ad.block (by subst e; rfl)
      rintro (e1 | e1)
      · omega
      · have := HQ.out.choose_spec.2.1.lt _ e1
        omega
end Go.Proofs.Ytaflgioelblcgaa
