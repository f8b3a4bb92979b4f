/- The list of a status alone; whether two lists are the same; awake. -/
import Derived.Test.YtplggcfoadjffaaGreatDoorXa
import Derived.Test.YtplggcfoadjffaaGreatDoorXt
import Derived.Test.YtplggcfoadjffaaGreatDoorZv
import Derived.Test.YtplggcfoadjffaaGreatDoorOe
import Derived.Laws.StructEq
import Derived.MakeChecks
namespace Go.Proofs.YtplggcfoadjffaaGreatDoor
open Go.RowKit
set_option linter.unusedVariables false
set_option maxRecDepth 100000
set_option maxHeartbeats 4000000

/-- The name of the table of tens. -/
def nmP : String := (Rows.rewriteRequestsRow.laid.tail.tail.headD default).1
def PowAt (w : World) : Prop := Lib.TabIs Tryz.prog w nmP .u64 Lib.pow10Tab
theorem gP : ∃ g, Tryz.prog.globalNamed nmP = some g := ⟨(Tryz.prog.globalNamed nmP).get (by kernel_rfl), by kernel_rfl⟩
theorem PowAt.fr {w w' : World} (h : PowAt w) (f : Fr (fun _ => False) w w') : PowAt w' := by
  obtain ⟨g, hg⟩ := gP
  unfold PowAt Lib.TabIs World.var? at h ⊢
  rw [hg] at h ⊢
  simp only [Option.bind_some] at h ⊢
  have hlt : g < w.heap.size := by
    rcases Nat.lt_or_ge g w.heap.size with h' | h'
    · exact h'
    · rw [Array.getElem?_eq_none h'] at h; cases h
  rw [f.block g hlt id]
  exact h
theorem digits4 (r : Nat) (h : r < 1000) : Lib.itoa (1000 + (r : Int)) = [49, UInt8.ofNat (48 + r / 100), UInt8.ofNat (48 + r / 10 % 10), UInt8.ofNat (48 + r % 10)] := by
  have e : (1000 + (r : Int)) = ((1000 + r : Nat) : Int) := by omega
  rw [e, Lib.itoa_nonneg, Lib.decDigits, dif_neg (by omega), Lib.decDigits, dif_neg (by omega), Lib.decDigits, dif_neg (by omega), Lib.decDigits, dif_pos (by omega)]
  have e1 : 48 + (1000 + r) / 10 / 10 / 10 = 49 := by omega
  have e2 : (1000 + r) / 10 / 10 % 10 = r / 100 := by omega
  have e3 : (1000 + r) / 10 % 10 = r / 10 % 10 := by omega
  have e4 : (1000 + r) % 10 = r % 10 := by omega
  rw [e1, e2, e3, e4]
  rfl
theorem Fr.grown {w : World} (k : Nat) (os : Array Obj) : Fr (fun _ => False) w (Go.Sort.grow (w.drewN k) os) :=
  ⟨rfl, rfl, rfl, by simp [Go.Sort.grow, World.drewN], fun j hj _ => by
    show ((w.drewN k).heap ++ os)[j]? = w.heap[j]?
    rw [Array.getElem?_append_left (by exact hj)]
    rfl⟩
theorem itoa_in (r : Nat) (h : r < 1000) (w : World) (hP : PowAt w) : Calls Tryz.prog 51 #[.int .i64 (1000 + (r : Int))] w fun e w' => e = .returned (.string ⟨#[49, UInt8.ofNat (48 + r / 100), UInt8.ofNat (48 + r / 10 % 10), UInt8.ofNat (48 + r % 10)]⟩) ∧ Fr (fun _ => False) w w' := by
  have K := Any.strconv_Itoa oItoa (1000 + (r : Int)) (by omega) (by omega) w hP
  rw [digits4 r h] at K
  refine Calls.mono K fun e w' ⟨h1, k, os, h2⟩ => ⟨h1, ?_⟩
  rw [h2]
  exact Fr.grown k os
/-- The rest of a number, by a thousand, as the program reckons it. -/
def restN (z : Int) : Nat := (z.emod 1000).toNat
theorem rest_lt (z : Int) : restN z < 1000 := by
  unfold restN
  have h1 : z.emod 1000 < 1000 := Int.emod_lt_of_pos z (by decide)
  have h2 : 0 ≤ z.emod 1000 := Int.emod_nonneg z (by decide)
  omega
theorem statL_rest (z : Int) : statL z = [UInt8.ofNat (48 + restN z / 100), UInt8.ofNat (48 + restN z / 10 % 10), UInt8.ofNat (48 + restN z % 10)] := rfl
theorem tmod_rest (z : Int) : (z.tmod 1000 + 1000).tmod 1000 = (restN z : Int) := by
  unfold restN
  have h1 : ((z.emod 1000).toNat : Int) = z % 1000 := by
    have : (0 : Int) ≤ z % 1000 := Int.emod_nonneg _ (by decide)
    exact Int.toNat_of_nonneg this
  rw [h1]
  rcases Int.le_total 0 z with h | h
  · rw [Int.tmod_eq_emod_of_nonneg h, Int.tmod_eq_emod_of_nonneg (by omega)]
    omega
  · have e : z.tmod 1000 = -((-z) % 1000) := by
      rw [← Int.tmod_eq_emod_of_nonneg (by omega : (0 : Int) ≤ -z), Int.neg_tmod]
      omega
    rw [e, Int.tmod_eq_emod_of_nonneg (by omega)]
    omega
def statusS : ByteArray := ⟨#[58, 115, 116, 97, 116, 117, 115]⟩
def PlainAs (w : World) (L : List Hd) (e : Ending) (w' : World) : Prop := ∃ g, e = .returned (.slice (some ⟨g, 0, none⟩) 1 1) ∧ HL w' (some ⟨g, 0, none⟩) 1 L ∧ Fr (fun _ => False) w w'
theorem hl_one (w : World) (n v : ByteArray) (s : Bool) (hn : n.size < 2 ^ 47) (hv : v.size < 2 ^ 47) : HL (w.alloc (.cells #[.string n, .string v, .bool s] 35)) (some ⟨w.heap.size, 0, none⟩) 1 [(n, v, s)] := by
  have hrow := World.ownsRow_lit (base := 0) (e := 35) (size := 3) w #[.string n, .string v, .bool s] 1 (Nat.zero_le _) (by decide) rfl
  exact hl_row hrow (by simp) (fun y hy => by simp at hy; subst hy; exact ⟨hn, hv⟩)
theorem plain_in (z : Int) (w : World) (hP : PowAt w) (hz0 : -9223372036854775808 ≤ z) (hz1 : z ≤ 9223372036854775807) : Calls Tryz.prog 27 #[.int .i64 z] w fun e w' => PlainAs w [(statusS, mkS (statL z), false)] e w' := by
  have hr := rest_lt z
  have hm := tmod_rest z
  have K := itoa_in (restN z) hr w hP
  rw [statL_rest]
  obtain ⟨r, hR⟩ : ∃ r, restN z = r := ⟨_, rfl⟩
  rw [hR] at hr hm K ⊢
  obtain ⟨d1, h1⟩ : ∃ d, UInt8.ofNat (48 + r / 100) = d := ⟨_, rfl⟩
  obtain ⟨d2, h2⟩ : ∃ d, UInt8.ofNat (48 + r / 10 % 10) = d := ⟨_, rfl⟩
  obtain ⟨d3, h3⟩ : ∃ d, UInt8.ofNat (48 + r % 10) = d := ⟨_, rfl⟩
  rw [h1, h2, h3] at K ⊢
  clear hR h1 h2 h3
  have hb1 : -1000 < z.tmod 1000 := by have := Int.lt_tmod_of_pos z (by decide : (0 : Int) < 1000); omega
  have hb2 : z.tmod 1000 < 1000 := Int.tmod_lt_of_pos z (by decide)
  have hw1 : wrap64 (z.tmod 1000 + 1000) = z.tmod 1000 + 1000 := by unfold wrap64; omega
  have hw2 : wrap64 (1000 + (r : Int)) = 1000 + (r : Int) := by unfold wrap64; omega
  have hcut : ∀ w : World, (Instr.slice 9 (.string ⟨#[49, d1, d2, d3]⟩) (some (.int .i64 1)) none none).run Tryz.prog w = .ok (.string ⟨#[d1, d2, d3]⟩) w := fun w => by
    rw [run_slice_string_from_if w 9 _ .i64 1 Tryz.underlying9, if_pos ⟨by decide, by show (1 : Int) ≤ ((4 : Nat) : Int); decide⟩]
    rfl
  go_enter Tryz.func27, Tryz.ntmps27
  go_wp2_with (fail)
  refine K.mono ?_
  rintro e w1 ⟨rfl, f1⟩
  have HF1 : Hid (Fr (fun _ => False) w w1) := f1
  clear f1 K
  go_wp2_with (fail)
  go_ret
  exact ⟨w1.heap.size, rfl, hl_one w1 statusS (mkS [d1, d2, d3]) false (by decide) (by rw [mkS_size]; simp), HF1.out.alloc _⟩
end Go.Proofs.YtplggcfoadjffaaGreatDoor
