/- The library's contracts that are used, laid at this program: the numbers of its functions and types. -/
import Derived.Shelf.Strconv.Itoa3
import Derived.Test.YtplggcfoadjffaaGreatDoorRows
import Derived.Test.YtplggcfoadjffaaGreatDoorXa
import Derived.Test.YtplggcfoadjffaaGreatDoorZv
import Derived.Test.YtplggcfoadjffaaGreatDoorOe
import Derived.Laws.StructEq
import Derived.MakeChecks
namespace Go.Proofs.YtplggcfoadjffaaGreatDoor
open Go.Shelf
set_option maxRecDepth 100000
def oItoa_ren : Go.Shelf.Ren := ⟨fun | 171 => 51 | 243 => 74 | 246 => 86 | 283 => 97 | 284 => 98 | 285 => 99 | 286 => 100 | 129 => 114 | 317 => 113 | 318 => 115 | 319 => 116 | 320 => 117 | 337 => 124 | 338 => 125 | n => n, fun | 3 => 3 | 9 => 9 | 2 => 2 | 4 => 4 | 171 => 113 | 0 => 0 | 53 => 114 | 37 => 31 | 5 => 5 | 173 => 117 | 212 => 132 | 51 => 133 | 20 => 20 | 213 => 134 | 46 => 121 | 232 => 152 | 233 => 153 | n => n, fun | 17 => 0 | 18 => 6 | 19 => 7 | n => n⟩
theorem oItoa : Go.Proofs.LaysM.n171 Tryz.prog oItoa_ren := {
  mixed := by kernel_rfl
  f129 := Tryz.func114.trans (congrArg some (by kernel_rfl))
  f171 := Tryz.func51.trans (congrArg some (by kernel_rfl))
  f243 := Tryz.func74.trans (congrArg some (by kernel_rfl))
  f246 := Tryz.func86.trans (congrArg some (by kernel_rfl))
  f283 := Tryz.func97.trans (congrArg some (by kernel_rfl))
  f284 := Tryz.func98.trans (congrArg some (by kernel_rfl))
  f285 := Tryz.func99.trans (congrArg some (by kernel_rfl))
  f286 := Tryz.func100.trans (congrArg some (by kernel_rfl))
  f317 := Tryz.func113.trans (congrArg some (by kernel_rfl))
  f318 := Tryz.func115.trans (congrArg some (by kernel_rfl))
  f319 := Tryz.func116.trans (congrArg some (by kernel_rfl))
  f320 := Tryz.func117.trans (congrArg some (by kernel_rfl))
  f337 := Tryz.func124.trans (congrArg some (by kernel_rfl))
  f338 := Tryz.func125.trans (congrArg some (by kernel_rfl))
  t0 := Tryz.underlying0
  a0 := Tryz.isAgg0
  z0 := Tryz.sizeOf0
  v0 := Tryz.zeroValue0
  t2 := Tryz.underlying2
  a2 := Tryz.isAgg2
  z2 := Tryz.sizeOf2
  v2 := Tryz.zeroValue2
  t3 := Tryz.underlying3
  a3 := Tryz.isAgg3
  z3 := Tryz.sizeOf3
  v3 := Tryz.zeroValue3
  t4 := Tryz.underlying4
  a4 := Tryz.isAgg4
  z4 := Tryz.sizeOf4
  v4 := Tryz.zeroValue4
  t5 := Tryz.underlying5
  a5 := Tryz.isAgg5
  z5 := Tryz.sizeOf5
  v5 := Tryz.zeroValue5
  t9 := Tryz.underlying9
  a9 := Tryz.isAgg9
  z9 := Tryz.sizeOf9
  v9 := Tryz.zeroValue9
  t20 := Tryz.underlying20
  a20 := Tryz.isAgg20
  z20 := Tryz.sizeOf20
  v20 := Tryz.zeroValue20
  t37 := Tryz.underlying31
  a37 := Tryz.isAgg31
  z37 := Tryz.sizeOf31
  v37 := Tryz.zeroValue31
  t46 := Tryz.underlying121
  a46 := Tryz.isAgg121
  z46 := Tryz.sizeOf121
  v46 := Tryz.zeroValue121
  t51 := Tryz.underlying133
  a51 := Tryz.isAgg133
  z51 := Tryz.sizeOf133
  v51 := Tryz.zeroValue133
  t53 := Tryz.underlying114
  a53 := Tryz.isAgg114
  z53 := Tryz.sizeOf114
  v53 := Tryz.zeroValue114
  t171 := Tryz.underlying113
  a171 := Tryz.isAgg113
  z171 := Tryz.sizeOf113
  v171 := Tryz.zeroValue113
  t173 := Tryz.underlying117
  a173 := Tryz.isAgg117
  z173 := Tryz.sizeOf117
  v173 := Tryz.zeroValue117
  t212 := Tryz.underlying132
  a212 := Tryz.isAgg132
  z212 := Tryz.sizeOf132
  v212 := Tryz.zeroValue132
  t213 := Tryz.underlying134
  a213 := Tryz.isAgg134
  z213 := Tryz.sizeOf134
  t232 := Tryz.underlying152
  a232 := Tryz.isAgg152
  z232 := Tryz.sizeOf152
  v232 := Tryz.zeroValue152
  t233 := Tryz.underlying153
  a233 := Tryz.isAgg153
  z233 := Tryz.sizeOf153
  v233 := Tryz.zeroValue153
  g17 := by kernel_rfl
  g18 := by kernel_rfl
  g19 := by kernel_rfl
  i0 := by kernel_rfl
  i2 := by kernel_rfl
  i3 := by kernel_rfl
  i4 := by kernel_rfl
  i5 := by kernel_rfl
  i9 := by kernel_rfl
  i20 := by kernel_rfl
  i37 := by kernel_rfl
  i46 := by kernel_rfl
  i51 := by kernel_rfl
  i53 := by kernel_rfl
  i171 := by kernel_rfl
  i173 := by kernel_rfl
  i212 := by kernel_rfl
  i232 := by kernel_rfl
  i233 := by kernel_rfl
  m17 := by kernel_rfl
  m18 := by kernel_rfl
  m19 := by kernel_rfl }
end Go.Proofs.YtplggcfoadjffaaGreatDoor
/- The list of a status alone; whether two lists are the same; awake. -/
namespace Go.Proofs.YtplggcfoadjffaaGreatDoor
open Go.RowKit
set_option linter.unusedVariables false
set_option maxRecDepth 100000
set_option maxHeartbeats 4000000

/-- The name of the table of tens. -/
def nmP : String := (Rows.rewriteRequestsRow.laid.tail.tail.headD default).1
def PowAt (w : World) : Prop := Lib.TabIs Tryz.prog w nmP .u64 Lib.pow10Tab
theorem gP : ∃ g, Tryz.prog.globalNamed nmP = some g := ⟨(Tryz.prog.globalNamed nmP).get (by kernel_rfl), by kernel_rfl⟩
theorem PowAt.fr {w w' : World} (h : PowAt w) (f : Fr (fun _ => False) w w') : PowAt w' := by
  obtain ⟨g, hg⟩ := gP
  unfold PowAt Lib.TabIs World.var? at h ⊢
  rw [hg] at h ⊢
  simp only [Option.bind_some] at h ⊢
  have hlt : g < w.heap.size := by
    rcases Nat.lt_or_ge g w.heap.size with h' | h'
    · exact h'
    · rw [Array.getElem?_eq_none h'] at h; cases h
  rw [f.block g hlt id]
  exact h
theorem digits4 (r : Nat) (h : r < 1000) : Lib.itoa (1000 + (r : Int)) = [49, UInt8.ofNat (48 + r / 100), UInt8.ofNat (48 + r / 10 % 10), UInt8.ofNat (48 + r % 10)] := by
  have e : (1000 + (r : Int)) = ((1000 + r : Nat) : Int) := by omega
  rw [e, Lib.itoa_nonneg, Lib.decDigits, dif_neg (by omega), Lib.decDigits, dif_neg (by omega), Lib.decDigits, dif_neg (by omega), Lib.decDigits, dif_pos (by omega)]
  have e1 : 48 + (1000 + r) / 10 / 10 / 10 = 49 := by omega
  have e2 : (1000 + r) / 10 / 10 % 10 = r / 100 := by omega
  have e3 : (1000 + r) / 10 % 10 = r / 10 % 10 := by omega
  have e4 : (1000 + r) % 10 = r % 10 := by omega
  rw [e1, e2, e3, e4]
  rfl
theorem Fr.grown {w : World} (k : Nat) (os : Array Obj) : Fr (fun _ => False) w (Go.Sort.grow (w.drewN k) os) :=
  ⟨rfl, rfl, rfl, by simp [Go.Sort.grow, World.drewN], fun j hj _ => by
    show ((w.drewN k).heap ++ os)[j]? = w.heap[j]?
    rw [Array.getElem?_append_left (by exact hj)]
    rfl⟩
theorem itoa_in (r : Nat) (h : r < 1000) (w : World) (hP : PowAt w) : Calls Tryz.prog 51 #[.int .i64 (1000 + (r : Int))] w fun e w' => e = .returned (.string ⟨#[49, UInt8.ofNat (48 + r / 100), UInt8.ofNat (48 + r / 10 % 10), UInt8.ofNat (48 + r % 10)]⟩) ∧ Fr (fun _ => False) w w' := by
  have K := Any.strconv_Itoa oItoa (1000 + (r : Int)) (by omega) (by omega) w hP
  rw [digits4 r h] at K
  refine Calls.mono K fun e w' ⟨h1, k, os, h2⟩ => ⟨h1, ?_⟩
  rw [h2]
  exact Fr.grown k os
/-- The rest of a number, by a thousand, as the program reckons it. -/
def restN (z : Int) : Nat := (z.emod 1000).toNat
theorem rest_lt (z : Int) : restN z < 1000 := by
  unfold restN
  have h1 : z.emod 1000 < 1000 := Int.emod_lt_of_pos z (by decide)
  have h2 : 0 ≤ z.emod 1000 := Int.emod_nonneg z (by decide)
  omega
theorem statL_rest (z : Int) : statL z = [UInt8.ofNat (48 + restN z / 100), UInt8.ofNat (48 + restN z / 10 % 10), UInt8.ofNat (48 + restN z % 10)] := rfl
theorem tmod_rest (z : Int) : (z.tmod 1000 + 1000).tmod 1000 = (restN z : Int) := by
  unfold restN
  have h1 : ((z.emod 1000).toNat : Int) = z % 1000 := by
    have : (0 : Int) ≤ z % 1000 := Int.emod_nonneg _ (by decide)
    exact Int.toNat_of_nonneg this
  rw [h1]
  rcases Int.le_total 0 z with h | h
  · rw [Int.tmod_eq_emod_of_nonneg h, Int.tmod_eq_emod_of_nonneg (by omega)]
    omega
  · have e : z.tmod 1000 = -((-z) % 1000) := by
      rw [← Int.tmod_eq_emod_of_nonneg (by omega : (0 : Int) ≤ -z), Int.neg_tmod]
      omega
    rw [e, Int.tmod_eq_emod_of_nonneg (by omega)]
    omega
def statusS : ByteArray := ⟨#[58, 115, 116, 97, 116, 117, 115]⟩
def PlainAs (w : World) (L : List Hd) (e : Ending) (w' : World) : Prop := ∃ g, e = .returned (.slice (some ⟨g, 0, none⟩) 1 1) ∧ HL w' (some ⟨g, 0, none⟩) 1 L ∧ Fr (fun _ => False) w w'
theorem hl_one (w : World) (n v : ByteArray) (s : Bool) (hn : n.size < 2 ^ 47) (hv : v.size < 2 ^ 47) : HL (w.alloc (.cells #[.string n, .string v, .bool s] 35)) (some ⟨w.heap.size, 0, none⟩) 1 [(n, v, s)] := by
  have hrow := World.ownsRow_lit (base := 0) (e := 35) (size := 3) w #[.string n, .string v, .bool s] 1 (Nat.zero_le _) (by decide) rfl
  exact hl_row hrow (by simp) (fun y hy => by simp at hy; subst hy; exact ⟨hn, hv⟩)
theorem plain_in (z : Int) (w : World) (hP : PowAt w) (hz0 : -9223372036854775808 ≤ z) (hz1 : z ≤ 9223372036854775807) : Calls Tryz.prog 27 #[.int .i64 z] w fun e w' => PlainAs w [(statusS, mkS (statL z), false)] e w' := by
  have hr := rest_lt z
  have hm := tmod_rest z
  have K := itoa_in (restN z) hr w hP
  rw [statL_rest]
  obtain ⟨r, hR⟩ : ∃ r, restN z = r := ⟨_, rfl⟩
  rw [hR] at hr hm K ⊢
  obtain ⟨d1, h1⟩ : ∃ d, UInt8.ofNat (48 + r / 100) = d := ⟨_, rfl⟩
  obtain ⟨d2, h2⟩ : ∃ d, UInt8.ofNat (48 + r / 10 % 10) = d := ⟨_, rfl⟩
  obtain ⟨d3, h3⟩ : ∃ d, UInt8.ofNat (48 + r % 10) = d := ⟨_, rfl⟩
  rw [h1, h2, h3] at K ⊢
  clear hR h1 h2 h3
  have hb1 : -1000 < z.tmod 1000 := by have := Int.lt_tmod_of_pos z (by decide : (0 : Int) < 1000); omega
  have hb2 : z.tmod 1000 < 1000 := Int.tmod_lt_of_pos z (by decide)
  have hw1 : wrap64 (z.tmod 1000 + 1000) = z.tmod 1000 + 1000 := by unfold wrap64; omega
  have hw2 : wrap64 (1000 + (r : Int)) = 1000 + (r : Int) := by unfold wrap64; omega
  have hcut : ∀ w : World, (Instr.slice 9 (.string ⟨#[49, d1, d2, d3]⟩) (some (.int .i64 1)) none none).run Tryz.prog w = .ok (.string ⟨#[d1, d2, d3]⟩) w := fun w => by
    rw [run_slice_string_from_if w 9 _ .i64 1 Tryz.underlying9, if_pos ⟨by decide, by show (1 : Int) ≤ ((4 : Nat) : Int); decide⟩]
    rfl
  go_enter Tryz.func27, Tryz.ntmps27
  go_wp2_with (fail)
  refine K.mono ?_
  rintro e w1 ⟨rfl, f1⟩
  have HF1 : Hid (Fr (fun _ => False) w w1) := f1
  clear f1 K
  go_wp2_with (fail)
  go_ret
  exact ⟨w1.heap.size, rfl, hl_one w1 statusS (mkS [d1, d2, d3]) false (by decide) (by rw [mkS_size]; simp), HF1.out.alloc _⟩
end Go.Proofs.YtplggcfoadjffaaGreatDoor
/- Whether two lists are the same; awake; which requests may be sent again. -/
namespace Go.Proofs.YtplggcfoadjffaaGreatDoor
open Go.RowKit
set_option linter.unusedVariables false
set_option maxRecDepth 100000
set_option maxHeartbeats 4000000

theorem awake14_in (w : World) (hP : PowAt w) : Calls Tryz.prog 10 #[] w fun e w' => e = .returned (.bool true) ∧ Fr (fun _ => False) w w' := by
  have K := plain_in 502 w hP (by decide) (by decide)
  have hs : mkS (statL 502) = ⟨#[53, 48, 50]⟩ := by decide
  rw [hs] at K
  go_enter Tryz.func10, Tryz.ntmps10
  go_wp2_with (fail)
  refine K.mono ?_
  rintro e w1 ⟨g, rfl, hl, f1⟩
  have HF1 : Hid (Fr (fun _ => False) w w1) := f1
  obtain ⟨b, o, e1, hb, c0, c1, c2, -⟩ := hl.cells 0 _ rfl
  cases e1
  dsimp only at c0 c1 c2
  simp only [Nat.zero_mul, Nat.add_zero, Nat.zero_add] at c0 c1 c2
  unfold statusS at c0
  clear f1 K hl
  go_wp2_with (fail)
  go_ret
  exact ⟨rfl, HF1.out⟩
theorem headers_in (q q' : Option Addr) (c c' : Nat) (l : List Hd) (w : World) (h : HL w q c l) (h' : HL w q' c' l) : Calls Tryz.prog 9 #[.slice q l.length c, .slice q' l.length c'] w fun e w' => e = .returned (.bool true) ∧ Fr (fun _ => False) w w' := by
  have HA : Hid (HL w q c l) := h
  have HB : Hid (HL w q' c' l) := h'
  have hfew := h.few
  obtain ⟨len, hlen⟩ : ∃ len, l.length = len := ⟨_, rfl⟩
  have HN : Hid (l.length = len) := hlen
  rw [hlen] at hfew ⊢
  clear h h' hlen
  go_enter Tryz.func9, Tryz.ntmps9
  go_wp2_with (fail)
  go_loopw [5] (fun x5 wr => ∃ i : Nat, x5 = .int .i64 (i : Int) ∧ i ≤ len ∧ Fr (fun _ => False) w wr) (fun x5 _ => len - (intOf x5).toNat)
  case atStart => exact ⟨0, rfl, by omega, Fr.refl _ _⟩
  case round =>
    obtain ⟨i, rfl, hi, hf⟩ := hrel
    by_cases hlt : i < len
    · have hlt2 : (i : Int) < (len : Int) := by omega
      obtain ⟨x, hx⟩ : ∃ x, l[i]? = some x := ⟨_, List.getElem?_eq_getElem (by rw [HN.out]; exact hlt)⟩
      obtain ⟨b, o, rfl, hb, c0, c1, c2, -⟩ := (HA.out.fr hf).cells i x hx
      obtain ⟨b', o', rfl, hb', d0, d1, d2, -⟩ := (HB.out.fr hf).cells i x hx
      obtain ⟨xn, xv, xs⟩ := x
      dsimp only at c0 c1 c2 d0 d1 d2
      have HF : Hid (Fr (fun _ => False) w wr) := hf
      have s1 := str_same xn
      have s2 := str_same xv
      clear hx hf
      go_wp2_with (fail)
      go_region
      go_wp2_with (fail)
      go_roundw
      case rel => exact ⟨i + 1, by go_num, by omega, HF.out.drew⟩
      case measure => simp [intOf]; omega
    · have hlt2 : ¬ (i : Int) < (len : Int) := by omega
      go_wp2_with (fail)
      go_ret
      exact ⟨rfl, hf⟩
end Go.Proofs.YtplggcfoadjffaaGreatDoor
