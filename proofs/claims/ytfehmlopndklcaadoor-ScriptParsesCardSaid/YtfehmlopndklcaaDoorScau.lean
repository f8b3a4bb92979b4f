/- The program computes at all: a line of words. -/
import Derived.Test.YtfehmlopndklcaaDoorScav
import Derived.Test.YtfehmlopndklcaaDoorScz
namespace Go.Proofs.YtfehmlopndklcaaDoor
open Go.RowKit
set_option maxRecDepth 100000
set_option maxHeartbeats 4000000
set_option linter.unusedVariables false

def BldAt4 (w : World) (B b : Nat) (l : List UInt8) : Prop := Lib.IsBuilder 80 5 B b (Lib.byteCells l) w
theorem extraW4 : Builder.Extra Tryd.prog oWrite_ren := ⟨⟨by kernel_rfl, by kernel_rfl⟩, Tryd.underlying5, Tryd.isAgg5, Tryd.sizeOf5, Tryd.zeroValue5, by kernel_rfl, by kernel_rfl, by kernel_rfl, by decide⟩
theorem extraB4 : Builder.Extra Tryd.prog oByte_ren := ⟨⟨by kernel_rfl, by kernel_rfl⟩, Tryd.underlying5, Tryd.isAgg5, Tryd.sizeOf5, Tryd.zeroValue5, by kernel_rfl, by kernel_rfl, by kernel_rfl, by decide⟩
theorem extraT4 : Builder.Extra Tryd.prog oText_ren := ⟨⟨by kernel_rfl, by kernel_rfl⟩, Tryd.underlying5, Tryd.isAgg5, Tryd.sizeOf5, Tryd.zeroValue5, by kernel_rfl, by kernel_rfl, by kernel_rfl, by decide⟩
theorem cells_strs4 (l : List UInt8) (s : ByteArray) : Lib.byteCells l ++ Lib.strCells s = Lib.byteCells (l ++ tx s) := by
  simp [Lib.byteCells, Lib.strCells, tx]
theorem cells_byte4 (l : List UInt8) (c : UInt8) : Lib.byteCells l ++ [.int .u8 (c.toNat : Int)] = Lib.byteCells (l ++ [c]) := by
  simp [Lib.byteCells]
theorem cells_len4 (l : List UInt8) : (Lib.byteCells l).length = l.length := by simp [Lib.byteCells]
theorem write_in4 (B b : Nat) (l : List UInt8) (s : ByteArray) (w : World) (h : BldAt4 w B b l) (hl : l.length + s.size ≤ 1000) (hB : B ≤ w.heap.size) :
    Calls Tryd.prog 31 #[.pointer (some ⟨b, 0, none⟩), .string s] w fun e w' => e = .returned (.tuple #[.int .i64 s.size, .nilIface]) ∧ BldAt4 w' B b (l ++ tx s) ∧ Below B w w' := by
  have K := Any.Builder_WriteString oWrite extraW4 B b (Lib.byteCells l) s w h (by rw [cells_len4]; omega) hB
  refine Calls.mono K fun e w' ⟨h1, h2, h3⟩ => ⟨h1, .inr ?_, h3⟩
  rw [cells_strs4] at h2
  exact h2
theorem byte_in4 (B b : Nat) (l : List UInt8) (w : World) (h : BldAt4 w B b l) (hl : l.length ≤ 1000) (hB : B ≤ w.heap.size) :
    Calls Tryd.prog 30 #[.pointer (some ⟨b, 0, none⟩), .int .u8 32] w fun e w' => e = .returned .nilIface ∧ BldAt4 w' B b (l ++ [32]) ∧ Below B w w' := by
  have K := Any.Builder_WriteByte oByte extraB4 B b (Lib.byteCells l) 32 w h (by rw [cells_len4]; omega) hB
  refine Calls.mono K fun e w' ⟨h1, h2, h3⟩ => ⟨h1, .inr ?_, h3⟩
  have e := cells_byte4 l 32
  rw [show (((32 : UInt8).toNat : Nat) : Int) = 32 from rfl] at e
  rw [e] at h2
  exact h2
theorem btext_in4 (B b : Nat) (l : List UInt8) (w : World) (h : BldAt4 w B b l) (hB : B ≤ w.heap.size) : Calls Tryd.prog 32 #[.pointer (some ⟨b, 0, none⟩)] w fun e w' => e = .returned (.string ⟨l.toArray⟩) ∧ Below B w w' :=
  Any.Builder_String_any oText extraT4 B b l w h hB
theorem below_trans4 {B : Nat} {w w1 w2 : World} (h : Below B w w1) (k : Below B w1 w2) : Below B w w2 :=
  ⟨k.os.trans h.os, k.tape.trans h.tape, k.output.trans h.output, Nat.le_trans h.size k.size, fun n hn => (k.block n hn).trans (h.block n hn)⟩
theorem dd1 : Lib.decDigits 1 = [49] := by first | rfl | decide +kernel | (unfold Lib.decDigits; rfl) | simp [Lib.decDigits]
theorem dd50 : Lib.decDigits 50 = [53, 48] := by first | rfl | decide +kernel | (unfold Lib.decDigits; simp; unfold Lib.decDigits; rfl) | simp [Lib.decDigits]
theorem text1_in (w : World) : Calls Tryd.prog 80 #[.int .i64 1] w fun e w' => e = .returned (.string ⟨#[49]⟩) ∧ w = w' := by
  have K : Calls Tryd.prog 81 #[.int .i64 1] w fun e w' => e = .returned (.string ⟨#[49]⟩) ∧ w = w' := (Any.strconv_Itoa_small oItoaS 1 (by decide) w).mono fun e w' h => ⟨by rw [h.1, dd1], h.2.symm⟩
  go_enter Tryd.func80, Tryd.ntmps80
  go_wp2_with (go_at_call 81; refine K.mono ?_; rintro e w' ⟨rfl, rfl⟩)
  go_ret
  exact ⟨rfl, rfl⟩
theorem text50_in (w : World) : Calls Tryd.prog 80 #[.int .i64 50] w fun e w' => e = .returned (.string ⟨#[53, 48]⟩) ∧ w = w' := by
  have K : Calls Tryd.prog 81 #[.int .i64 50] w fun e w' => e = .returned (.string ⟨#[53, 48]⟩) ∧ w = w' := (Any.strconv_Itoa_small oItoaS 50 (by decide) w).mono fun e w' h => ⟨by rw [h.1, dd50], h.2.symm⟩
  go_enter Tryd.func80, Tryd.ntmps80
  go_wp2_with (go_at_call 81; refine K.mono ?_; rintro e w' ⟨rfl, rfl⟩)
  go_ret
  exact ⟨rfl, rfl⟩

theorem meth_name {nm : String} (h : (Tryd.prog.info? 85).map (fun i => (i.methods.toList.map (·.1)).headD "") = some nm) (w : World) : (Go.method 275 85 (.string ⟨#[98, 117, 100, 103, 101, 116]⟩) nm).run Tryd.prog w = .ok (79, .string ⟨#[98, 117, 100, 103, 101, 116]⟩) w := by
  have e : nm = ((Tryd.prog.info? 85).map (fun i => (i.methods.toList.map (·.1)).headD "")).getD "" := by rw [h]; rfl
  rw [e]
  show _ = _
  kernel_rfl
theorem meth_one {nm : String} (h : (Tryd.prog.info? 86).map (fun i => (i.methods.toList.map (·.1)).headD "") = some nm) (w : World) : (Go.method 275 86 (.int .i64 1) nm).run Tryd.prog w = .ok (80, .int .i64 1) w := by
  have e : nm = ((Tryd.prog.info? 86).map (fun i => (i.methods.toList.map (·.1)).headD "")).getD "" := by rw [h]; rfl
  rw [e]
  show _ = _
  kernel_rfl
theorem meth_fifty {nm : String} (h : (Tryd.prog.info? 86).map (fun i => (i.methods.toList.map (·.1)).headD "") = some nm) (w : World) : (Go.method 275 86 (.int .i64 50) nm).run Tryd.prog w = .ok (80, .int .i64 50) w := by
  have e : nm = ((Tryd.prog.info? 86).map (fun i => (i.methods.toList.map (·.1)).headD "")).getD "" := by rw [h]; rfl
  rw [e]
  show _ = _
  kernel_rfl
theorem join_in (a : Option Addr) (c : Nat) (w : World) (h : OwnAt w 68 (.slice a 3 c) [.iface 85 (.string ⟨#[98, 117, 100, 103, 101, 116]⟩), .iface 86 (.int .i64 1), .iface 86 (.int .i64 50)]) :
    Calls Tryd.prog 21 #[.slice a 3 c] w fun e w' => e = .returned (.string ⟨#[98, 117, 100, 103, 101, 116, 32, 49, 32, 53, 48]⟩) ∧ Fr (fun _ => False) w w' := by
  obtain ⟨g, off, cap, e, c0, -⟩ := h.cells 0 _ rfl
  obtain ⟨g1, off1, cap1, e1, c1, -⟩ := h.cells 1 _ rfl
  obtain ⟨g2, off2, cap2, e2, c2, -⟩ := h.cells 2 _ rfl
  injection e with ea eb ec
  injection e1 with ea1 eb1 ec1
  injection e2 with ea2 eb2 ec2
  rw [ea] at ea1 ea2
  cases ea1
  cases ea2
  subst ea
  rw [Nat.add_zero] at c0
  have hgl : g < w.heap.size := cell_lt c0
  have HC : Hid (∀ W, Below w.heap.size w W → W.cell? ⟨g, off, none⟩ = some (.iface 85 (.string ⟨#[98, 117, 100, 103, 101, 116]⟩)) ∧ W.cell? ⟨g, off + 1, none⟩ = some (.iface 86 (.int .i64 1)) ∧ W.cell? ⟨g, off + 2, none⟩ = some (.iface 86 (.int .i64 50))) := fun W hb => ⟨(hb.cell (p := ⟨g, off, none⟩) hgl).trans c0, (hb.cell (p := ⟨g, off + 1, none⟩) hgl).trans c1, (hb.cell (p := ⟨g, off + 2, none⟩) hgl).trans c2⟩
  obtain ⟨W0, hW0⟩ : ∃ W0, w.alloc (.cells #[.pointer none, .slice none 0 0] 80) = W0 := ⟨_, rfl⟩
  have B0 : Hid (Below w.heap.size w W0) := by show Below _ _ _; rw [← hW0]; exact (Below.refl _ w).alloc (Nat.le_refl _) _
  have H0 : Hid (BldAt4 W0 w.heap.size w.heap.size []) := by
    show BldAt4 _ _ _ _
    rw [← hW0]
    exact .inl ⟨Nat.le_refl _, .slice none 0 0, heap_alloc_new w _, ⟨rfl, .inl ⟨rfl, rfl⟩⟩, by simp [Value.ownBlock]⟩
  have k0 := (HC.out W0 B0.out).1
  have kt : Calls Tryd.prog 79 #[.string ⟨#[98, 117, 100, 103, 101, 116]⟩] W0 fun e w' => e = .returned (.string ⟨#[98, 117, 100, 103, 101, 116]⟩) ∧ W0 = w' := by
    go_enter Tryd.func79, Tryd.ntmps79
    go_wp2
    go_ret
    exact ⟨rfl, rfl⟩
  have K1 := write_in4 _ _ _ ⟨#[98, 117, 100, 103, 101, 116]⟩ W0 H0.out (by decide) B0.out.size
  clear h c0 c1 c2 hgl
  go_enter Tryd.func21, Tryd.ntmps21
  go_wp2
  refine wp_loop_rounds 4 ?_
  rw [rounds_succ]
  go_wp2_with (fail)
  rw [meth_name (by kernel_rfl)]
  go_wp2_with (fail)
  refine kt.mono ?_
  rintro e w' ⟨rfl, rfl⟩
  go_wp2_with (fail)
  refine K1.mono ?_
  rintro e W1 ⟨rfl, h1, b1⟩
  have B1 : Hid (Below w.heap.size w W1) := below_trans4 B0.out b1
  have H1 : Hid (BldAt4 W1 w.heap.size w.heap.size [98, 117, 100, 103, 101, 116]) := h1
  have k1 := (HC.out W1 B1.out).2.1
  have K2 := byte_in4 _ _ _ W1 H1.out (by decide) B1.out.size
  clear K1 kt h1 b1 k0 hW0
  go_wp2_with (fail)
  rw [rounds_succ]
  go_wp2_with (fail)
  refine K2.mono ?_
  rintro e W2 ⟨rfl, h2, b2⟩
  have B2 : Hid (Below w.heap.size w W2) := below_trans4 B1.out b2
  have H2 : Hid (BldAt4 W2 w.heap.size w.heap.size [98, 117, 100, 103, 101, 116, 32]) := h2
  have K3 := write_in4 _ _ _ ⟨#[49]⟩ W2 H2.out (by decide) B2.out.size
  clear K2 h2 b2 k1
  go_wp2_with (fail)
  rw [meth_one (by kernel_rfl)]
  go_wp2_with (fail)
  refine (text1_in W2).mono ?_
  rintro e w' ⟨rfl, rfl⟩
  go_wp2_with (fail)
  refine K3.mono ?_
  rintro e W3 ⟨rfl, h3, b3⟩
  have B3 : Hid (Below w.heap.size w W3) := below_trans4 B2.out b3
  have H3 : Hid (BldAt4 W3 w.heap.size w.heap.size [98, 117, 100, 103, 101, 116, 32, 49]) := h3
  have k3 := (HC.out W3 B3.out).2.2
  have K4 := byte_in4 _ _ _ W3 H3.out (by decide) B3.out.size
  clear K3 h3 b3
  go_wp2_with (fail)
  rw [rounds_succ]
  go_wp2_with (fail)
  refine K4.mono ?_
  rintro e W4 ⟨rfl, h4, b4⟩
  have B4 : Hid (Below w.heap.size w W4) := below_trans4 B3.out b4
  have H4 : Hid (BldAt4 W4 w.heap.size w.heap.size [98, 117, 100, 103, 101, 116, 32, 49, 32]) := h4
  have K5 := write_in4 _ _ _ ⟨#[53, 48]⟩ W4 H4.out (by decide) B4.out.size
  clear K4 h4 b4 k3
  go_wp2_with (fail)
  rw [meth_fifty (by kernel_rfl)]
  go_wp2_with (fail)
  refine (text50_in W4).mono ?_
  rintro e w' ⟨rfl, rfl⟩
  go_wp2_with (fail)
  refine K5.mono ?_
  rintro e W5 ⟨rfl, h5, b5⟩
  have B5 : Hid (Below w.heap.size w W5) := below_trans4 B4.out b5
  have H5 : Hid (BldAt4 W5 w.heap.size w.heap.size [98, 117, 100, 103, 101, 116, 32, 49, 32, 53, 48]) := h5
  have K6 := btext_in4 _ _ _ W5 H5.out B5.out.size
  clear K5 h5 b5
  go_wp2_with (fail)
  rw [rounds_succ]
  go_wp2_with (fail)
  refine K6.mono ?_
  rintro e W6 ⟨rfl, b6⟩
  have B6 : Hid (Below w.heap.size w W6) := below_trans4 B5.out b6
  clear K6 b6
  go_wp2_with (fail)
  go_ret
  exact ⟨rfl, Fr.of_below B6.out⟩
theorem Print_in (w : World) : Calls Tryd.prog 12 #[.agg #[.int .i64 3, .int .i64 1, .int .i64 50, .int .i64 0, .slice none 0 0]] w fun e w' => e = .returned (.tuple #[.string ⟨#[98, 117, 100, 103, 101, 116, 32, 49, 32, 53, 48]⟩, .int .i64 0]) ∧ Fr (fun _ => False) w w' := by
  obtain ⟨W0, hW0⟩ : ∃ W0, w.alloc (.cells #[.int .i64 3, .int .i64 1, .int .i64 50, .int .i64 0, .slice none 0 0] 24) = W0 := ⟨_, rfl⟩
  have b0 : W0.heap[w.heap.size]? = some (.cells #[.int .i64 3, .int .i64 1, .int .i64 50, .int .i64 0, .slice none 0 0] 24 (0, 0)) := by rw [← hW0]; exact heap_last _ _ rfl
  have F0 : Hid (Fr (fun _ => False) w W0) := by show Fr _ _ _; rw [← hW0]; exact (Fr.refl _ _).alloc _
  have HB : Hid (∀ W, Fr (fun _ => False) W0 W → ∀ j v, (#[.int .i64 3, .int .i64 1, .int .i64 50, .int .i64 0, .slice none 0 0] : Array Value)[j]? = some v → W.cell? ⟨w.heap.size, j, none⟩ = some v) := fun W hf j v hj => cell_of_heap ((hf.block _ (lt_of_heap b0) id).trans b0) hj
  have c0 := HB.out W0 (Fr.refl _ _) 0 _ rfl
  have c1 := HB.out W0 (Fr.refl _ _) 1 _ rfl
  have c2 := HB.out W0 (Fr.refl _ _) 2 _ rfl
  have c3 := HB.out W0 (Fr.refl _ _) 3 _ rfl
  have c4 := HB.out W0 (Fr.refl _ _) 4 _ rfl
  clear b0
  go_enter Tryd.func12, Tryd.ntmps12
  go_wp2_with (fail)
  refine (canStand_in W0).mono ?_
  rintro e W1 ⟨rfl, hf1⟩
  have F1 : Hid (Fr (fun _ => False) W0 W1) := hf1
  clear c0 c1 c2 c3 c4 hf1 hW0
  have c0 := HB.out W1 F1.out 0 _ rfl
  have c1 := HB.out W1 F1.out 1 _ rfl
  have c2 := HB.out W1 F1.out 2 _ rfl
  have c3 := HB.out W1 F1.out 3 _ rfl
  have c4 := HB.out W1 F1.out 4 _ rfl
  go_wp2_with (fail)
  refine (words_in W1).mono ?_
  rintro e W2 ⟨a, c, rfl, ho, hf2⟩
  have F2 : Hid (Fr (fun _ => False) W0 W2) := F1.out.trans hf2
  have K3 := join_in a c W2 ho
  clear c0 c1 c2 c3 c4 hf2 ho
  go_wp2_with (fail)
  refine K3.mono ?_
  rintro e W3 ⟨rfl, hf3⟩
  have F3 : Hid (Fr (fun _ => False) w W3) := F0.out.trans (F2.out.trans hf3)
  clear K3 hf3
  go_wp2_with (fail)
  go_ret2
  exact ⟨rfl, F3.out⟩
theorem zawake_in (w : World) : Calls Tryd.prog 9 #[] w fun e w' => e = .returned (.bool true) ∧ Fr (fun _ => False) w w' := by
  go_enter Tryd.func9, Tryd.ntmps9
  go_wp2_with (fail)
  refine (Print_in w).mono ?_
  rintro e W1 ⟨rfl, hf1⟩
  have F1 : Hid (Fr (fun _ => False) w W1) := hf1
  clear hf1
  go_wp2_with (fail)
  go_ret
  exact ⟨rfl, F1.out⟩
end Go.Proofs.YtfehmlopndklcaaDoor
