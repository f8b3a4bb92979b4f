/- Texts joined, with one between them. -/
import Derived.Test.YtplggcfoadjffaaGreatDoorXc
import Derived.Test.YtplggcfoadjffaaGreatDoorXs
import Derived.Test.YtplggcfoadjffaaGreatDoorXw
namespace Go.Proofs.YtplggcfoadjffaaGreatDoor
open Go.RowKit
set_option linter.unusedVariables false
set_option maxRecDepth 100000
set_option maxHeartbeats 4000000

/-- A builder that holds a text; nothing below B is its own. -/
def BldAt (w : World) (B b : Nat) (l : List UInt8) : Prop := Lib.IsBuilder 71 5 B b (Lib.byteCells l) w
theorem extraW : Builder.Extra Tryz.prog oWrite_ren := ⟨⟨by kernel_rfl, by kernel_rfl⟩, Tryz.underlying5, Tryz.isAgg5, Tryz.sizeOf5, Tryz.zeroValue5, by kernel_rfl, by kernel_rfl, by kernel_rfl, by decide⟩
theorem extraT : Builder.Extra Tryz.prog oText_ren := ⟨⟨by kernel_rfl, by kernel_rfl⟩, Tryz.underlying5, Tryz.isAgg5, Tryz.sizeOf5, Tryz.zeroValue5, by kernel_rfl, by kernel_rfl, by kernel_rfl, by decide⟩
theorem cells_strs (l : List UInt8) (s : ByteArray) : Lib.byteCells l ++ Lib.strCells s = Lib.byteCells (l ++ tx s) := by
  simp [Lib.byteCells, Lib.strCells, tx]
theorem cells_len (l : List UInt8) : (Lib.byteCells l).length = l.length := by simp [Lib.byteCells]
theorem write_in (B b : Nat) (l : List UInt8) (s : ByteArray) (w : World) (h : BldAt w B b l) (hl : l.length + s.size ≤ 140737488355328) (hB : B ≤ w.heap.size) :
    Calls Tryz.prog 39 #[.pointer (some ⟨b, 0, none⟩), .string s] w fun e w' => e = .returned (.tuple #[.int .i64 s.size, .nilIface]) ∧ BldAt w' B b (l ++ tx s) ∧ Below B w w' := by
  have K := Any.Builder_WriteString oWrite extraW B b (Lib.byteCells l) s w h (by rw [cells_len]; exact hl) hB
  refine Calls.mono K fun e w' ⟨h1, h2, h3⟩ => ⟨h1, .inr ?_, h3⟩
  rw [cells_strs] at h2
  exact h2
theorem blen_in (B b : Nat) (l : List UInt8) (w : World) (h : BldAt w B b l) : Calls Tryz.prog 40 #[.pointer (some ⟨b, 0, none⟩)] w fun e w' => e = .returned (.int .i64 (l.length : Int)) ∧ w = w' := by
  have K := Any.Builder_Len oLen B b (Lib.byteCells l) w h
  rw [cells_len] at K
  exact Calls.mono K fun e w' ⟨h1, h2⟩ => ⟨h1, h2.symm⟩
theorem btext_in (B b : Nat) (l : List UInt8) (w : World) (h : BldAt w B b l) (hB : B ≤ w.heap.size) : Calls Tryz.prog 41 #[.pointer (some ⟨b, 0, none⟩)] w fun e w' => e = .returned (.string (mkS l)) ∧ Below B w w' :=
  Any.Builder_String_any oText extraT B b l w h hB
theorem below_trans3 {B : Nat} {w w1 w2 : World} (h : Below B w w1) (k : Below B w1 w2) : Below B w w2 :=
  ⟨k.os.trans h.os, k.tape.trans h.tape, k.output.trans h.output, Nat.le_trans h.size k.size, fun n hn => (k.block n hn).trans (h.block n hn)⟩

/-- What join answers. -/
def JoinAs (w : World) (t : List UInt8) (e : Ending) (w' : World) : Prop := e = .returned (if t.length ≤ 16384 then .tuple #[.string (mkS t), .bool true] else .tuple #[.string ⟨#[]⟩, .bool false]) ∧ Fr (fun _ => False) w w'
def JSt (w : World) (sep : List UInt8) (zs : List ByteArray) (i : Nat) (wr : World) : Prop := BldAt wr w.heap.size w.heap.size (joinL sep ((zs.take i).map tx)) ∧ (joinL sep ((zs.take i).map tx)).length ≤ 16384 ∧ Below w.heap.size w wr
theorem join_in (sep : ByteArray) (a : Option Addr) (c : Nat) (zs : List ByteArray) (w : World) (h : TxAt w a zs) (hn : zs.length * 16 ≤ 2 ^ 48) (hs : sep.size = 2) :
    Calls Tryz.prog 21 #[.string sep, .slice a zs.length c] w fun e w' => JoinAs w (joinL (tx sep) (zs.map tx)) e w' := by
  have HZ : Hid (TxAt w a zs) := h
  obtain ⟨n, hlen⟩ : ∃ n, zs.length = n := ⟨_, rfl⟩
  have HN : Hid (zs.length = n) := hlen
  have HS : Hid (sep.size = 2) := hs
  rw [hlen] at hn ⊢
  clear h hlen hs
  have H0 : Hid (JSt w (tx sep) zs 0 (w.alloc (.cells #[.pointer none, .slice none 0 0] 71))) := by
    refine ⟨.inl ⟨Nat.le_refl _, .slice none 0 0, heap_alloc_new w _, ⟨rfl, .inl ⟨rfl, rfl⟩⟩, by simp [Value.ownBlock]⟩, by simp [joinL], (Below.refl _ w).alloc (Nat.le_refl _) _⟩
  go_enter Tryz.func21, Tryz.ntmps21
  go_wp2_with (fail)
  go_loopw [11] (fun x11 wr => ∃ i : Nat, x11 = .int .i64 (i : Int) ∧ i ≤ n ∧ Hid (JSt w (tx sep) zs i wr)) (fun x11 _ => n - (intOf x11).toNat)
  case atStart => exact ⟨0, rfl, by omega, H0.out⟩
  case round =>
    obtain ⟨i, rfl, hin, HJ⟩ := hrel
    by_cases hlt : i < n
    · have hlt2 : (i : Int) < (n : Int) := by omega
      obtain ⟨z, hz⟩ : ∃ z, zs[i]? = some z := ⟨_, List.getElem?_eq_getElem (by rw [HN.out]; exact hlt)⟩
      obtain ⟨b, o, hq, hb, c0'⟩ := HZ.out i z hz
      have c0 : wr.cell? ⟨b, o + i, none⟩ = some (.string z) := (HJ.out.2.2.cell (p := ⟨b, o + i, none⟩) hb).trans c0'
      subst hq
      clear c0'
      obtain ⟨t, ht⟩ : ∃ t, joinL (tx sep) ((zs.take i).map tx) = t := ⟨_, rfl⟩
      have HT : Hid (joinL (tx sep) ((zs.take i).map tx) = t) := ht
      have HB1 : Hid (BldAt wr w.heap.size w.heap.size t) := by have := HJ.out.1; rw [ht] at this; exact this
      have HB2 : Hid (t.length ≤ 16384) := by have := HJ.out.2.1; rw [ht] at this; exact this
      have HTK : Hid ((zs.take (i + 1)).map tx = (zs.take i).map tx ++ [tx z]) := by
        show _ = _
        rw [List.take_add_one, hz, List.map_append]
        rfl
      have HLE : Hid ((joinL (tx sep) ((zs.take (i + 1)).map tx)).length ≤ (joinL (tx sep) (zs.map tx)).length) := by
        show _ ≤ _
        have e : zs.map tx = (zs.take (i + 1)).map tx ++ (zs.drop (i + 1)).map tx := by rw [← List.map_append, List.take_append_drop]
        rw [e]
        exact joinL_mono _ _ _
      have HE1 : Hid (w.heap.size ≤ wr.heap.size) := HJ.out.2.2.size
      have HZL : Hid (z.size = (tx z).length) := (tx_len z).symm
      clear hz ht
      by_cases h0 : i = 0
      · subst h0
        rw [Nat.add_zero] at c0
        have hj : Hid (joinL (tx sep) ((zs.take (0 + 1)).map tx) = tx z ∧ t = []) := by
          have h1 := HTK.out
          have h2 := HT.out
          simp only [List.take_zero, List.map_nil, List.nil_append] at h1 h2
          rw [h1, ← h2]
          exact ⟨rfl, rfl⟩
        obtain rfl := hj.out.2
        have K1 := blen_in _ _ _ _ HB1.out
        by_cases hL : z.size ≤ 16384
        · have hL2 : ¬ (16384 : Int) < (z.size : Int) := by omega
          have K2 : Hid (Calls Tryz.prog 39 #[.pointer (some ⟨w.heap.size, 0, none⟩), .string z] wr fun e w' => e = .returned (.tuple #[.int .i64 z.size, .nilIface]) ∧ Hid (JSt w (tx sep) zs (0 + 1) w')) := (write_in _ _ _ z _ HB1.out (by simp; omega) HE1.out).mono fun e w' ⟨e1, e2, e3⟩ => ⟨e1, (by show JSt _ _ _ _ _; unfold JSt; rw [hj.out.1]; exact ⟨e2, by rw [← HZL.out]; exact hL, below_trans3 HJ.out.2.2 e3⟩)⟩
          go_wp2_with (fail)
          refine K1.mono ?_
          rintro e w1 ⟨rfl, rfl⟩
          go_wp2_with (fail)
          refine K2.out.mono ?_
          rintro e w2 ⟨rfl, HJ2⟩
          go_wp2_with (fail)
          go_roundw
          case rel => exact ⟨1, by go_num, by omega, HJ2.out⟩
          case measure => simp [intOf]; omega
        · have hL2 : (16384 : Int) < (z.size : Int) := by omega
          go_wp2_with (fail)
          refine K1.mono ?_
          rintro e w1 ⟨rfl, rfl⟩
          go_wp2_with (fail)
          go_ret2
          refine ⟨?_, Fr.of_below HJ.out.2.2⟩
          have h1 := HLE.out
          rw [hj.out.1, ← HZL.out] at h1
          rw [if_neg (by omega)]
          rfl
      · have hi0 : (0 : Int) < (i : Int) := by omega
        have hj : Hid (joinL (tx sep) ((zs.take (i + 1)).map tx) = t ++ tx sep ++ tx z) := by
          show _ = _
          rw [HTK.out, joinL_snoc, HT.out]
          intro e
          have := congrArg List.length e
          rw [List.length_map, List.length_take, HN.out] at this
          simp at this
          omega
        have hsl : Hid ((tx sep).length = 2) := (tx_len sep).trans HS.out
        have hjl : Hid ((joinL (tx sep) ((zs.take (i + 1)).map tx)).length = t.length + 2 + z.size) := by
          show _ = _
          rw [hj.out, List.length_append, List.length_append, hsl.out, HZL.out]
        have K0 : Hid (Calls Tryz.prog 39 #[.pointer (some ⟨w.heap.size, 0, none⟩), .string sep] wr fun e w' => e = .returned (.tuple #[.int .i64 sep.size, .nilIface]) ∧ Hid (BldAt w' w.heap.size w.heap.size (t ++ tx sep) ∧ Below w.heap.size w w')) := (write_in _ _ _ sep _ HB1.out (by have := HB2.out; have := HS.out; omega) HE1.out).mono fun e w' ⟨e1, e2, e3⟩ => ⟨e1, e2, below_trans3 HJ.out.2.2 e3⟩
        have hlen2 : Hid ((t ++ tx sep).length = t.length + 2) := by show _ = _; rw [List.length_append, hsl.out]
        obtain ⟨tl, htl⟩ : ∃ tl, t.length = tl := ⟨_, rfl⟩
        have hb2 : tl ≤ 16384 := by rw [← htl]; exact HB2.out
        have K1 : Hid (∀ w', BldAt w' w.heap.size w.heap.size (t ++ tx sep) → Calls Tryz.prog 40 #[.pointer (some ⟨w.heap.size, 0, none⟩)] w' fun e w2 => e = .returned (.int .i64 ((tl : Int) + 2)) ∧ w' = w2) := fun w' hb' => (blen_in _ _ _ w' hb').mono fun e w2 ⟨e1, e2⟩ => ⟨by rw [e1, hlen2.out, htl]; rfl, e2⟩
        rw [htl] at hjl
        clear htl
        by_cases hL : tl + 2 + z.size ≤ 16384
        · have hL2 : ¬ 16384 - ((tl : Int) + 2) < (z.size : Int) := by omega
          have hwr : wrap64 (16384 - ((tl : Int) + 2)) = 16384 - ((tl : Int) + 2) := by unfold wrap64; omega
          have K2 : Hid (∀ w', BldAt w' w.heap.size w.heap.size (t ++ tx sep) ∧ Below w.heap.size w w' → Calls Tryz.prog 39 #[.pointer (some ⟨w.heap.size, 0, none⟩), .string z] w' fun e w2 => e = .returned (.tuple #[.int .i64 z.size, .nilIface]) ∧ Hid (JSt w (tx sep) zs (i + 1) w2)) := fun w' ⟨hb', hbl⟩ => (write_in _ _ _ z _ hb' (by rw [hlen2.out]; have := HB2.out; omega) hbl.size).mono fun e w2 ⟨e1, e2, e3⟩ => ⟨e1, ⟨by rw [hj.out]; exact e2, by rw [hjl.out]; exact hL, below_trans3 hbl e3⟩⟩
          go_wp2_with (fail)
          refine K0.out.mono ?_
          rintro e w1 ⟨rfl, HW1⟩
          go_wp2_with (fail)
          refine (K1.out _ HW1.out.1).mono ?_
          rintro e w2 ⟨rfl, rfl⟩
          go_wp2_with (fail)
          refine (K2.out _ HW1.out).mono ?_
          rintro e w2 ⟨rfl, HJ2⟩
          go_wp2_with (fail)
          go_roundw
          case rel => exact ⟨i + 1, by go_num, by omega, HJ2.out⟩
          case measure => simp [intOf]; omega
        · have hL2 : 16384 - ((tl : Int) + 2) < (z.size : Int) := by omega
          have hwr : wrap64 (16384 - ((tl : Int) + 2)) = 16384 - ((tl : Int) + 2) := by unfold wrap64; omega
          go_wp2_with (fail)
          refine K0.out.mono ?_
          rintro e w1 ⟨rfl, HW1⟩
          go_wp2_with (fail)
          refine (K1.out _ HW1.out.1).mono ?_
          rintro e w2 ⟨rfl, rfl⟩
          go_wp2_with (fail)
          go_ret2
          refine ⟨?_, Fr.of_below HW1.out.2⟩
          have h1 := HLE.out
          rw [hjl.out] at h1
          rw [if_neg (by omega)]
          rfl
    · have hlt2 : ¬ (i : Int) < (n : Int) := by omega
      have HE : Hid (BldAt wr w.heap.size w.heap.size (joinL (tx sep) (zs.map tx)) ∧ (joinL (tx sep) (zs.map tx)).length ≤ 16384 ∧ Below w.heap.size w wr) := by
        have := HJ.out
        unfold JSt at this
        rw [List.take_of_length_le (by rw [HN.out]; omega)] at this
        exact this
      have K := btext_in _ _ _ _ HE.out.1 HE.out.2.2.size
      go_wp2_with (fail)
      refine K.mono ?_
      rintro e w2 ⟨rfl, hb2⟩
      go_wp2_with (fail)
      go_ret2
      refine ⟨?_, Fr.of_below (below_trans3 HE.out.2.2 hb2)⟩
      rw [if_pos HE.out.2.1]
      rfl
end Go.Proofs.YtplggcfoadjffaaGreatDoor
