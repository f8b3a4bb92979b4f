/- Contract of huff.codes: the table of all codes; no old block changes. -/
import Derived.Test.YtkipeifkfgbkeaaMK0
import Derived.Lib.IndexBytes
namespace Go.Proofs.Ytkipeifkfgbkeaa
open Go.RowKit
set_option maxRecDepth 100000
set_option maxHeartbeats 4000000
set_option linter.unusedVariables false

theorem range_of_heap {w : World} {g : Nat} {cs : List Value} {t : TypeId} {fr : Nat × Nat} (h : w.heap[g]? = some (.cells cs.toArray t fr)) : w.rangeAt g 0 cs := fun j v hv => by
  rw [Nat.zero_add]; exact cell_of_heap h (by simpa using hv)
theorem there_of_heap {w : World} {g n : Nat} {cs : Array Value} {t : TypeId} (h : w.heap[g]? = some (.cells cs t (0, 0))) (hn : n ≤ cs.size) : w.there g 0 n := fun j hj => by
  rw [Nat.zero_add]
  exact ⟨by rw [cell_of_heap (v := cs[j]'(by omega)) h (by simp [show j < cs.size by omega])]; rfl, frozen_of_heap h⟩

theorem Fr.setCells {S : Nat → Prop} {a : World} {c : Nat} (hc : S c) (vs : List Value) : ∀ (o : Nat) {b : World}, Fr S a b → Fr S a (b.setCells c o vs) := by
  induction vs with
  | nil => intro o b h; exact h
  | cons v vs ih => intro o b h; exact ih (o + 1) (h.setS hc o v)

theorem codes_any (w : World) : Calls Try.prog 58 #[] w fun e w' => e = .returned (.agg (cellsP fin).toArray) ∧ Fr (fun k => w.heap.size ≤ k) w w' := by
  have hz := zero_codes.1
  go_enter Try.func58, Try.ntmps58
  go_wp2_with (fail)
  refine (rows_any _).mono ?_
  rintro e w' ⟨rfl, rfl⟩
  go_wp2
  go_loopw [8] (fun i wr => ∃ k : Nat, k ≤ 21 ∧ i = .int .i64 k ∧ CS w wr (stAt k).1 (stAt k).2.1 (stAt k).2.2) (fun i _ => 21 - (intOf i).toNat)
  case atStart => exact ⟨0, by omega, rfl, CS.start w⟩
  case round =>
    rename World => wo
    obtain ⟨k, hk, rfl, hc⟩ := hrel
    by_cases hlt : k < 21
    · obtain ⟨⟨b, l⟩, hr, f1, f2, f3, f4, f5, f6, f7⟩ := row_facts k hlt
      have hci : (k : Int) < 21 := by omega
      have hnext := stAt_succ k _ hr
      have hcr := rowCells_get tbl k _ hr
      have c0 : wo.cell? ⟨w.heap.size + 1 + 1 + 1, k * 2, none⟩ = some (.int .i64 (b : Int)) := cell_of_heap hc.rw (by simpa using hcr.1)
      have c1 : wo.cell? ⟨w.heap.size + 1 + 1 + 1, k * 2 + 1, none⟩ = some (str8 l) := cell_of_heap hc.rw (by simpa using hcr.2)
      generalize hL : (stAt k).1 = L at *
      generalize hwd : (stAt k).2.1 = wd at *
      generalize hbt : (stAt k).2.2 = bt at *
      have hst : stAt k = (L, wd, bt) := by rw [← hL, ← hwd, ← hbt]
      have hlen : L.length = 257 := by rw [← hL]; exact stAt_len k
      have d0 : wo.cell? ⟨w.heap.size + 1 + 1, 0, none⟩ = some (.int .u32 (wd : Int)) := cell_of_heap hc.nx rfl
      have d1 : wo.cell? ⟨w.heap.size + 1 + 1, 1, none⟩ = some (.int .i64 (bt : Int)) := cell_of_heap hc.nx rfl
      have e0 : wo.frozen? ⟨w.heap.size + 1 + 1, 0, none⟩ = false := frozen_of_heap hc.nx
      have e1 : wo.frozen? ⟨w.heap.size + 1 + 1, 1, none⟩ = false := frozen_of_heap hc.nx
      have hsz : w.heap.size + 4 ≤ wo.heap.size := hc.sz
      have hb2 : w.heap.size + 1 + 1 < wo.heap.size := by omega
      obtain ⟨S, hS⟩ : ∃ S : ByteArray, S = ⟨(u8s l).toArray⟩ := ⟨_, rfl⟩
      rw [show str8 l = .string S from by rw [hS]; rfl] at c1
      have hSs : S.size = l.length := by rw [hS]; simp [ByteArray.size, u8s]
      have HS : Hid (S = ⟨(u8s l).toArray⟩) := hS
      have HC : Hid (CS w wo L wd bt) := hc
      have HN : Hid (stAt (k + 1) = stepRow (stAt k) (b, l)) := hnext
      have HF7 : Hid (∀ s ∈ l, s < 256) := f7
      have HST : Hid (stAt k = (L, wd, bt)) := hst
      clear hc hS hnext hcr hr hL hwd hbt f7 hz hst
      obtain ⟨wd1, hwd1⟩ : ∃ wd1, wd1 = wd * 2 ^ (b - bt) := ⟨_, rfl⟩
      rw [← hwd1] at f4
      have hsh : (wd : Int) * 2 ^ (b - bt) % 4294967296 = (wd1 : Int) := by
        have h1 : ((wd * 2 ^ (b - bt) : Nat) : Int) = (wd : Int) * 2 ^ (b - bt) := by push_cast; rfl
        rw [← h1, ← hwd1]
        omega
      have HW : Hid (wd1 = wd * 2 ^ (b - bt)) := hwd1
      clear hwd1
      go_wp2
      have hs0 : CS w (((wo.setCell { block := w.heap.size + 1 + 1, off := 0 } (Value.int IntKind.u32 (wd1 : Int))).setCell { block := w.heap.size + 1 + 1, off := 1 } (Value.int IntKind.i64 (b : Int))).alloc
          (Obj.cells #[Value.int IntKind.i64 (b : Int), Value.string S] 108)) L wd1 b := ((HC.out.word wd1).bits b).alloc _
      have hq0 : ((((wo.setCell { block := w.heap.size + 1 + 1, off := 0 } (Value.int IntKind.u32 (wd1 : Int))).setCell { block := w.heap.size + 1 + 1, off := 1 } (Value.int IntKind.i64 (b : Int))).alloc
          (Obj.cells #[Value.int IntKind.i64 (b : Int), Value.string S] 108))).heap[wo.heap.size]? = some (.cells #[Value.int IntKind.i64 (b : Int), Value.string S] 108 (0, 0)) := last_at _ (by simp)
      have HQ : Hid (_ ∧ _) := ⟨hs0, hq0⟩
      clear hs0 hq0
      go_loopw [27] (fun i wr => ∃ j : Nat, j ≤ l.length ∧ i = .int .i64 j ∧ CS w wr (fillRow b (l.take j) (L, wd1)).1 (wd1 + j) b ∧ wr.heap[wo.heap.size]? = some (.cells #[Value.int IntKind.i64 (b : Int), Value.string S] 108 (0, 0))) (fun i _ => l.length - (intOf i).toNat)
      case atStart => exact ⟨0, by omega, rfl, HQ.out.1, HQ.out.2⟩
      case round =>
        obtain ⟨j, hj, rfl, hc, hq⟩ := hrel
        by_cases hjl : j < l.length
        · have hcj : (j : Int) < (l.length : Int) := by omega
          generalize hL2 : (fillRow b (l.take j) (L, wd1)).1 = L2 at *
          have hlen2 : L2.length = 257 := by rw [← hL2, fillRow_len]; exact hlen
          obtain ⟨s, hs⟩ : ∃ s, l[j]? = some s := ⟨_, List.getElem?_eq_getElem hjl⟩
          have hs256 : s < 256 := HF7.out s (List.mem_of_getElem? hs)
          have hjS : j < S.size := by omega
          obtain ⟨x, hx⟩ : ∃ x : UInt8, S[j]'hjS = x := ⟨_, rfl⟩
          have hxs : x.toNat = s := by
            have h1 : S.data.toList[j]? = some x := by rw [← hx]; exact Lib.data_getElem? S j hjS
            rw [HS.out] at h1
            simp [u8s, hs] at h1
            rw [← h1]; simp; omega
          have hx257 : (x.toNat : Int) < 257 := by omega
          have d0 : wr.cell? ⟨w.heap.size + 1 + 1, 0, none⟩ = some (.int .u32 ((wd1 + j : Nat) : Int)) := cell_of_heap hc.nx rfl
          have d1 : wr.cell? ⟨w.heap.size + 1 + 1, 1, none⟩ = some (.int .i64 (b : Int)) := cell_of_heap hc.nx rfl
          have e0 : wr.frozen? ⟨w.heap.size + 1 + 1, 0, none⟩ = false := frozen_of_heap hc.nx
          have c0 : wr.cell? ⟨wo.heap.size, 0, none⟩ = some (.int .i64 (b : Int)) := cell_of_heap hq rfl
          have c1 : wr.cell? ⟨wo.heap.size, 1, none⟩ = some (.string S) := cell_of_heap hq rfl
          obtain ⟨p, hp⟩ : ∃ p, L2[x.toNat]? = some p := ⟨_, List.getElem?_eq_getElem (by omega)⟩
          have hg := cellsP_get L2 x.toNat p hp
          have g0 : (wr.cell? ⟨w.heap.size + 1, x.toNat * 2, none⟩) = some (.int .u32 (p.1 : Int)) := cell_of_heap hc.all (by simpa using hg.1)
          have g1 : (wr.cell? ⟨w.heap.size + 1, x.toNat * 2 + 1, none⟩) = some (.int .i64 (p.2 : Int)) := cell_of_heap hc.all (by simpa using hg.2)
          have e2 : wr.frozen? ⟨w.heap.size + 1, x.toNat * 2, none⟩ = false := frozen_of_heap hc.all
          have e3 : wr.frozen? ⟨w.heap.size + 1, x.toNat * 2 + 1, none⟩ = false := frozen_of_heap hc.all
          have HC2 : Hid (CS w wr L2 (wd1 + j) b) := hc
          have HQ2 : Hid (wr.heap[wo.heap.size]? = some (.cells #[Value.int IntKind.i64 (b : Int), Value.string S] 108 (0, 0))) := hq
          have HX : Hid (x.toNat = s) := hxs
          have HL2 : Hid ((fillRow b (l.take j) (L, wd1)).1 = L2) := hL2
          have HSJ : Hid (l[j]? = some s) := hs
          have hadd : ((wd1 + j : Nat) : Int) + 1 < 4294967296 := by omega
          obtain ⟨wj, hwj⟩ : ∃ wj, wj = wd1 + j := ⟨_, rfl⟩
          rw [← hwj] at hadd d0
          have HWJ : Hid (wj = wd1 + j) := hwj
          clear hc hq hg hxs hL2 hs hlen2 hp hwj
          go_wp2
          go_region
          go_wp2
          go_roundw
          case rel =>
            refine ⟨j + 1, by omega, by go_num, ?_, ?_⟩
            · have h := ((HC2.out.put x.toNat wj b).word (wj + 1)).drew
              have e : (fillRow b (l.take (j + 1)) (L, wd1)).1 = L2.set x.toNat (wj, b) := by
                rw [List.take_add_one, HSJ.out]
                simp only [Option.toList]
                rw [fillRow_snoc, HL2.out, fillRow_two, HX.out, HWJ.out]
                simp [List.length_take, Nat.min_eq_left (Nat.le_of_lt hjl)]
              rw [e, show wd1 + (j + 1) = wj + 1 from by rw [HWJ.out]; omega]
              exact h
            · show ((((wr.setCell _ _).setCell _ _).setCell _ _)).heap[wo.heap.size]? = _
              rw [Below.heap_setCell _ _ _ _ (by simp; omega), Below.heap_setCell _ _ _ _ (by simp; omega), Below.heap_setCell _ _ _ _ (by simp; omega)]
              exact HQ2.out
          case measure => simp [intOf]; omega
        · obtain rfl : j = l.length := by omega
          have hcj : ¬ (l.length : Int) < (l.length : Int) := by omega
          rw [List.take_length] at hc
          have HC3 : Hid (CS w wr (fillRow b l (L, wd1)).1 (wd1 + l.length) b) := hc
          clear hc hq
          go_wp2
          go_roundw
          case rel =>
            refine ⟨k + 1, by omega, by go_num, ?_⟩
            have e : stAt (k + 1) = ((fillRow b l (L, wd1)).1, wd1 + l.length, b) := by
              rw [HN.out, HST.out]
              simp only [stepRow, ← HW.out, fillRow_two]
            rw [e]
            exact HC3.out
          case measure => simp [intOf]; omega
    · obtain rfl : k = 21 := by omega
      have hci : ¬ ((21 : Nat) : Int) < 21 := by omega
      generalize hL : (stAt 21).1 = L at *
      generalize hwd : (stAt 21).2.1 = wd at *
      generalize hbt : (stAt 21).2.2 = bt at *
      have hfin : fin = L.set 256 (wd, bt) := by rw [← hL, ← hwd, ← hbt]; rfl
      have hlen : L.length = 257 := by rw [← hL]; exact stAt_len 21
      clear hL hwd hbt
      have d0 : wo.cell? ⟨w.heap.size + 1 + 1, 0, none⟩ = some (.int .u32 (wd : Int)) := cell_of_heap hc.nx rfl
      have d1 : wo.cell? ⟨w.heap.size + 1 + 1, 1, none⟩ = some (.int .i64 (bt : Int)) := cell_of_heap hc.nx rfl
      obtain ⟨p, hp⟩ : ∃ p, L[256]? = some p := ⟨_, List.getElem?_eq_getElem (by omega)⟩
      have hg := cellsP_get L 256 p hp
      have g0 : (wo.cell? ⟨w.heap.size + 1, 512, none⟩) = some (.int .u32 (p.1 : Int)) := cell_of_heap hc.all (by simpa using hg.1)
      have g1 : (wo.cell? ⟨w.heap.size + 1, 513, none⟩) = some (.int .i64 (p.2 : Int)) := cell_of_heap hc.all (by simpa using hg.2)
      have e2 : wo.frozen? ⟨w.heap.size + 1, 512, none⟩ = false := frozen_of_heap hc.all
      have e3 : wo.frozen? ⟨w.heap.size + 1, 513, none⟩ = false := frozen_of_heap hc.all
      have HC : Hid (CS w wo L wd bt) := hc
      clear hc hg hp hz
      have HC2 : Hid (CS w ((wo.setCell { block := w.heap.size + 1, off := 512 } (Value.int IntKind.u32 (wd : Int))).setCell { block := w.heap.size + 1, off := 513 } (Value.int IntKind.i64 (bt : Int))) fin wd bt) := by
        rw [hfin]; exact HC.out.put 256 wd bt
      have HL : Hid (fin.length = 257) := fin_len
      have hth : Hid (World.there ((wo.setCell { block := w.heap.size + 1, off := 512 } (Value.int IntKind.u32 (wd : Int))).setCell { block := w.heap.size + 1, off := 513 } (Value.int IntKind.i64 (bt : Int))) w.heap.size 0 (cellsP fin).toArray.size) :=
        there_of_heap HC2.out.res (Nat.le_of_eq (by rw [List.size_toArray, List.size_toArray, cellsP_len, cellsP_len, HL.out]; rfl))
      have hi5' : (Try.prog.info? 97).map (·.size) = some (cellsP fin).toArray.size := by rw [zero_codes.2]; simp [cellsP_len, HL.out]
      have hi5 : Hid ((Try.prog.info? 97).map (·.size) = some (cellsP fin).toArray.size) := hi5'
      clear hi5'
      have ho5 : Hid ((cellsP fin).toArray.all (·.oneCell') = true) := all_oneCell_toArray (cellsP_one fin)
      clear hfin
      go_wp2_with (first
        | refine wpList_load_mid rfl 97 (.tmp 1) rfl (w.heap.size + 1) 0 rfl (cellsP fin) _ (range_of_heap HC2.out.all) Try.underlying97 rfl (by rw [zero_codes.2, cellsP_len, HL.out]) ?_
        | refine wpList_store_mid rfl 97 (.tmp 0) (.tmp 44) rfl w.heap.size 0 (cellsP fin).toArray rfl rfl hth.out hi5.out ho5.out ?_)
      have hlast := run_loadVar_mid (P := Try.prog) _ w.heap.size 0 97 (cellsP fin) _ (World.rangeAt_setCells_same _ w.heap.size 0 (cellsP fin) (by simpa using hth.out)) Try.underlying97 rfl (by simpa using hi5.out)
      refine bodyPost_ret (v := .agg (cellsP fin).toArray) ?_ rfl ⟨rfl, Fr.setCells (by simp) _ _ HC2.out.fr⟩
      simp only [results, Try.results58]
      simp [asAddr, hlast]

end Go.Proofs.Ytkipeifkfgbkeaa
