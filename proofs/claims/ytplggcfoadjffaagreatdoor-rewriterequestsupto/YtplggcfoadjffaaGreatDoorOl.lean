/- Headers of a connection: the program's and the document's; what a map of pseudo headers holds. -/
import Derived.Test.YtplggcfoadjffaaGreatDoorOk
namespace Go.Proofs.YtplggcfoadjffaaGreatDoor
open Go.RowKit Go.Maps
set_option linter.unusedVariables false
set_option maxRecDepth 100000
set_option maxHeartbeats 4000000

theorem bound_te {v : List UInt8} : boundB sTe v = !(v == sTrailers) := by
  unfold boundB
  have : [sConn, sPConn, sKeep, sTrans, sUp].contains sTe = false := by decide
  rw [this]
  rfl
theorem bound_one {n v : List UInt8} (h : n ∈ [sConn, sPConn, sKeep, sTrans, sUp]) : boundB n v = true := by
  unfold boundB
  rw [List.contains_iff_mem.2 h]
  rfl
theorem bound_none {n v : List UInt8} (h0 : ¬ n = sTe) (h1 : ¬ n = sConn) (h2 : ¬ n = sPConn) (h3 : ¬ n = sKeep) (h4 : ¬ n = sTrans) (h5 : ¬ n = sUp) : boundB n v = false := by
  unfold boundB
  have e : (n == sTe) = false := beq_eq_false_iff_ne.2 h0
  rw [e]
  simp [h1, h2, h3, h4, h5]
theorem Conn_in (xn xv : ByteArray) (xs : Bool) (w : World) : Calls Tryz.prog 66 #[.agg #[.string xn, .string xv, .bool xs]] w fun e w' => e = .returned (.bool (boundB (tx xn) (tx xv))) ∧ Fr (fun _ => False) w w' := by
  by_cases h0 : tx xn = sTe
  · have e0 : xn.toList = [116, 101] := by rw [tx_toList]; exact h0
    rw [h0, bound_te]
    clear h0
    by_cases hv : tx xv = sTrailers
    · have ev : xv.toList = [116, 114, 97, 105, 108, 101, 114, 115] := by rw [tx_toList]; exact hv
      have hb : (!(tx xv == sTrailers)) = false := by rw [hv]; rfl
      rw [hb]
      clear hv hb
      go_enter Tryz.func66, Tryz.ntmps66
      go_wp2_with (fail)
      go_ret
      exact ⟨rfl, (Fr.refl _ _).alloc _⟩
    · have ev : ¬ xv.toList = [116, 114, 97, 105, 108, 101, 114, 115] := by rw [tx_toList]; exact hv
      have ev2 : (xv.toList == [116, 114, 97, 105, 108, 101, 114, 115]) = false := beq_eq_false_iff_ne.2 ev
      have hb : (!(tx xv == sTrailers)) = true := by rw [beq_eq_false_iff_ne.2 hv]; rfl
      rw [hb]
      clear hv hb
      go_enter Tryz.func66, Tryz.ntmps66
      go_wp2_with (fail)
      go_ret
      exact ⟨rfl, (Fr.refl _ _).alloc _⟩
  have n0 : ¬ xn.toList = [116, 101] := by rw [tx_toList]; exact h0
  have m0 : (xn.toList == [116, 101]) = false := beq_eq_false_iff_ne.2 n0
  by_cases h1 : tx xn = sConn
  · have e1 : xn.toList = [99, 111, 110, 110, 101, 99, 116, 105, 111, 110] := by rw [tx_toList]; exact h1
    rw [bound_one (by rw [h1]; decide)]
    clear h1 h0
    go_enter Tryz.func66, Tryz.ntmps66
    go_wp2_with (fail)
    go_ret
    exact ⟨rfl, (Fr.refl _ _).alloc _⟩
  have n1 : ¬ xn.toList = [99, 111, 110, 110, 101, 99, 116, 105, 111, 110] := by rw [tx_toList]; exact h1
  have m1 : (xn.toList == [99, 111, 110, 110, 101, 99, 116, 105, 111, 110]) = false := beq_eq_false_iff_ne.2 n1
  by_cases h2 : tx xn = sPConn
  · have e2 : xn.toList = [112, 114, 111, 120, 121, 45, 99, 111, 110, 110, 101, 99, 116, 105, 111, 110] := by rw [tx_toList]; exact h2
    rw [bound_one (by rw [h2]; decide)]
    clear h2 h0 h1
    go_enter Tryz.func66, Tryz.ntmps66
    go_wp2_with (fail)
    go_ret
    exact ⟨rfl, (Fr.refl _ _).alloc _⟩
  have n2 : ¬ xn.toList = [112, 114, 111, 120, 121, 45, 99, 111, 110, 110, 101, 99, 116, 105, 111, 110] := by rw [tx_toList]; exact h2
  have m2 : (xn.toList == [112, 114, 111, 120, 121, 45, 99, 111, 110, 110, 101, 99, 116, 105, 111, 110]) = false := beq_eq_false_iff_ne.2 n2
  by_cases h3 : tx xn = sKeep
  · have e3 : xn.toList = [107, 101, 101, 112, 45, 97, 108, 105, 118, 101] := by rw [tx_toList]; exact h3
    rw [bound_one (by rw [h3]; decide)]
    clear h3 h0 h1 h2
    go_enter Tryz.func66, Tryz.ntmps66
    go_wp2_with (fail)
    go_ret
    exact ⟨rfl, (Fr.refl _ _).alloc _⟩
  have n3 : ¬ xn.toList = [107, 101, 101, 112, 45, 97, 108, 105, 118, 101] := by rw [tx_toList]; exact h3
  have m3 : (xn.toList == [107, 101, 101, 112, 45, 97, 108, 105, 118, 101]) = false := beq_eq_false_iff_ne.2 n3
  by_cases h4 : tx xn = sTrans
  · have e4 : xn.toList = [116, 114, 97, 110, 115, 102, 101, 114, 45, 101, 110, 99, 111, 100, 105, 110, 103] := by rw [tx_toList]; exact h4
    rw [bound_one (by rw [h4]; decide)]
    clear h4 h0 h1 h2 h3
    go_enter Tryz.func66, Tryz.ntmps66
    go_wp2_with (fail)
    go_ret
    exact ⟨rfl, (Fr.refl _ _).alloc _⟩
  have n4 : ¬ xn.toList = [116, 114, 97, 110, 115, 102, 101, 114, 45, 101, 110, 99, 111, 100, 105, 110, 103] := by rw [tx_toList]; exact h4
  have m4 : (xn.toList == [116, 114, 97, 110, 115, 102, 101, 114, 45, 101, 110, 99, 111, 100, 105, 110, 103]) = false := beq_eq_false_iff_ne.2 n4
  by_cases h5 : tx xn = sUp
  · have e5 : xn.toList = [117, 112, 103, 114, 97, 100, 101] := by rw [tx_toList]; exact h5
    rw [bound_one (by rw [h5]; decide)]
    clear h5 h0 h1 h2 h3 h4
    go_enter Tryz.func66, Tryz.ntmps66
    go_wp2_with (fail)
    go_ret
    exact ⟨rfl, (Fr.refl _ _).alloc _⟩
  have n5 : ¬ xn.toList = [117, 112, 103, 114, 97, 100, 101] := by rw [tx_toList]; exact h5
  have m5 : (xn.toList == [117, 112, 103, 114, 97, 100, 101]) = false := beq_eq_false_iff_ne.2 n5
  rw [bound_none h0 h1 h2 h3 h4 h5]
  clear h0 h1 h2 h3 h4 h5
  go_enter Tryz.func66, Tryz.ntmps66
  go_wp2_with (fail)
  go_ret
  exact ⟨rfl, (Fr.refl _ _).alloc _⟩
theorem rBound_in (xn xv : ByteArray) (xs : Bool) (w : World) : Calls Tryz.prog 57 #[.agg #[.string xn, .string xv, .bool xs]] w fun e w' => e = .returned (.bool (boundB (tx xn) (tx xv))) ∧ Fr (fun _ => False) w w' := by
  by_cases h0 : tx xn = sTe
  · have e0 : xn.toList = [116, 101] := by rw [tx_toList]; exact h0
    rw [h0, bound_te]
    clear h0
    by_cases hv : tx xv = sTrailers
    · have ev : xv.toList = [116, 114, 97, 105, 108, 101, 114, 115] := by rw [tx_toList]; exact hv
      have hb : (!(tx xv == sTrailers)) = false := by rw [hv]; rfl
      rw [hb]
      clear hv hb
      go_enter Tryz.func57, Tryz.ntmps57
      go_wp2_with (fail)
      go_ret
      exact ⟨rfl, (Fr.refl _ _).alloc _⟩
    · have ev : ¬ xv.toList = [116, 114, 97, 105, 108, 101, 114, 115] := by rw [tx_toList]; exact hv
      have ev2 : (xv.toList == [116, 114, 97, 105, 108, 101, 114, 115]) = false := beq_eq_false_iff_ne.2 ev
      have hb : (!(tx xv == sTrailers)) = true := by rw [beq_eq_false_iff_ne.2 hv]; rfl
      rw [hb]
      clear hv hb
      go_enter Tryz.func57, Tryz.ntmps57
      go_wp2_with (fail)
      go_ret
      exact ⟨rfl, (Fr.refl _ _).alloc _⟩
  have n0 : ¬ xn.toList = [116, 101] := by rw [tx_toList]; exact h0
  have m0 : (xn.toList == [116, 101]) = false := beq_eq_false_iff_ne.2 n0
  by_cases h1 : tx xn = sConn
  · have e1 : xn.toList = [99, 111, 110, 110, 101, 99, 116, 105, 111, 110] := by rw [tx_toList]; exact h1
    rw [bound_one (by rw [h1]; decide)]
    clear h1 h0
    go_enter Tryz.func57, Tryz.ntmps57
    go_wp2_with (fail)
    go_ret
    exact ⟨rfl, (Fr.refl _ _).alloc _⟩
  have n1 : ¬ xn.toList = [99, 111, 110, 110, 101, 99, 116, 105, 111, 110] := by rw [tx_toList]; exact h1
  have m1 : (xn.toList == [99, 111, 110, 110, 101, 99, 116, 105, 111, 110]) = false := beq_eq_false_iff_ne.2 n1
  by_cases h2 : tx xn = sPConn
  · have e2 : xn.toList = [112, 114, 111, 120, 121, 45, 99, 111, 110, 110, 101, 99, 116, 105, 111, 110] := by rw [tx_toList]; exact h2
    rw [bound_one (by rw [h2]; decide)]
    clear h2 h0 h1
    go_enter Tryz.func57, Tryz.ntmps57
    go_wp2_with (fail)
    go_ret
    exact ⟨rfl, (Fr.refl _ _).alloc _⟩
  have n2 : ¬ xn.toList = [112, 114, 111, 120, 121, 45, 99, 111, 110, 110, 101, 99, 116, 105, 111, 110] := by rw [tx_toList]; exact h2
  have m2 : (xn.toList == [112, 114, 111, 120, 121, 45, 99, 111, 110, 110, 101, 99, 116, 105, 111, 110]) = false := beq_eq_false_iff_ne.2 n2
  by_cases h3 : tx xn = sKeep
  · have e3 : xn.toList = [107, 101, 101, 112, 45, 97, 108, 105, 118, 101] := by rw [tx_toList]; exact h3
    rw [bound_one (by rw [h3]; decide)]
    clear h3 h0 h1 h2
    go_enter Tryz.func57, Tryz.ntmps57
    go_wp2_with (fail)
    go_ret
    exact ⟨rfl, (Fr.refl _ _).alloc _⟩
  have n3 : ¬ xn.toList = [107, 101, 101, 112, 45, 97, 108, 105, 118, 101] := by rw [tx_toList]; exact h3
  have m3 : (xn.toList == [107, 101, 101, 112, 45, 97, 108, 105, 118, 101]) = false := beq_eq_false_iff_ne.2 n3
  by_cases h4 : tx xn = sTrans
  · have e4 : xn.toList = [116, 114, 97, 110, 115, 102, 101, 114, 45, 101, 110, 99, 111, 100, 105, 110, 103] := by rw [tx_toList]; exact h4
    rw [bound_one (by rw [h4]; decide)]
    clear h4 h0 h1 h2 h3
    go_enter Tryz.func57, Tryz.ntmps57
    go_wp2_with (fail)
    go_ret
    exact ⟨rfl, (Fr.refl _ _).alloc _⟩
  have n4 : ¬ xn.toList = [116, 114, 97, 110, 115, 102, 101, 114, 45, 101, 110, 99, 111, 100, 105, 110, 103] := by rw [tx_toList]; exact h4
  have m4 : (xn.toList == [116, 114, 97, 110, 115, 102, 101, 114, 45, 101, 110, 99, 111, 100, 105, 110, 103]) = false := beq_eq_false_iff_ne.2 n4
  by_cases h5 : tx xn = sUp
  · have e5 : xn.toList = [117, 112, 103, 114, 97, 100, 101] := by rw [tx_toList]; exact h5
    rw [bound_one (by rw [h5]; decide)]
    clear h5 h0 h1 h2 h3 h4
    go_enter Tryz.func57, Tryz.ntmps57
    go_wp2_with (fail)
    go_ret
    exact ⟨rfl, (Fr.refl _ _).alloc _⟩
  have n5 : ¬ xn.toList = [117, 112, 103, 114, 97, 100, 101] := by rw [tx_toList]; exact h5
  have m5 : (xn.toList == [117, 112, 103, 114, 97, 100, 101]) = false := beq_eq_false_iff_ne.2 n5
  rw [bound_none h0 h1 h2 h3 h4 h5]
  clear h0 h1 h2 h3 h4 h5
  go_enter Tryz.func57, Tryz.ntmps57
  go_wp2_with (fail)
  go_ret
  exact ⟨rfl, (Fr.refl _ _).alloc _⟩
end Go.Proofs.YtplggcfoadjffaaGreatDoor
