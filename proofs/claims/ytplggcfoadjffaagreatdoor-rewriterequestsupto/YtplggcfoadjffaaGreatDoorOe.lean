/- The first header of a name: the program's and the document's. -/
import Derived.Test.YtplggcfoadjffaaGreatDoorOd
import Derived.Test.YtplggcfoadjffaaGreatDoorL13
namespace Go.Proofs.YtplggcfoadjffaaGreatDoor
open Go.RowKit
set_option maxRecDepth 100000
set_option maxHeartbeats 4000000
set_option linter.unusedVariables false

theorem HL.fr {w w' : World} {q : Option Addr} {c : Nat} {l : List Hd} (h : HL w q c l) (f : Fr (fun _ => False) w w') : HL w' q c l := h.later (f.below (fun _ _ h => h))
/-- What Find answers. -/
def findV (l : List Hd) (n : List UInt8) : Value := match findL l n with
  | none => .tuple #[.string ⟨#[]⟩, .bool false]
  | some v => .tuple #[.string v, .bool true]
theorem rFind_in (q : Option Addr) (c : Nat) (l : List Hd) (n : ByteArray) (w : World) (hl : HL w q c l) :
    Calls Tryz.prog 33 #[.slice q l.length c, .string n] w fun e w' => e = .returned (findV l (tx n)) ∧ w = w' := by
  have HLL : Hid (HL w q c l) := hl
  have hfew := hl.few
  obtain ⟨len, hlen⟩ : ∃ len, l.length = len := ⟨_, rfl⟩
  have HN : Hid (l.length = len) := hlen
  rw [hlen] at hfew ⊢
  clear hl hlen
  obtain ⟨V, hV⟩ : ∃ V, findV l (tx n) = V := ⟨_, rfl⟩
  rw [hV]
  have HV : Hid (findV l (tx n) = V) := hV
  clear hV
  go_enter Tryz.func33, Tryz.ntmps33
  go_wp2_with (fail)
  go_loopw [6] (fun v wr => ∃ i : Nat, v = .int .i64 (i : Int) ∧ i ≤ len ∧ w = wr ∧ Hid (findL (l.take i) (tx n) = none)) (fun v _ => len - (intOf v).toNat)
  case atStart => exact ⟨0, rfl, by omega, rfl, by show _ = _; simp [findL]⟩
  case round =>
    obtain ⟨i, rfl, hi, rfl, HF⟩ := hrel
    by_cases hlt : i < len
    · have hlt2 : (i : Int) < (len : Int) := by omega
      obtain ⟨x, hx⟩ : ∃ x, l[i]? = some x := ⟨_, List.getElem?_eq_getElem (by rw [HN.out]; exact hlt)⟩
      obtain ⟨b, o, rfl, hb, c0, c1, c2, hs⟩ := HLL.out.cells i x hx
      have HX : Hid (l[i]? = some x) := hx
      obtain ⟨xn, xv, xs⟩ := x
      dsimp only at c0 c1 c2
      clear hx hs
      by_cases he : tx xn = tx n
      · have he1 : (xn.toList == n.toList) = true := by rw [tx_toList, tx_toList, he]; exact beq_self_eq_true _
        have he2 : xn.toList = n.toList := by rw [tx_toList, tx_toList, he]
        have hv : V = .tuple #[.string xv, .bool true] := by rw [← HV.out]; unfold findV; rw [findL_hit HX.out HF.out he]
        clear HV
        subst hv
        clear he
        go_wp2_with (fail)
        go_ret2
        exact ⟨rfl, rfl⟩
      · have he2 : ¬ xn.toList = n.toList := by rw [tx_toList, tx_toList]; exact he
        have he1 : (xn.toList == n.toList) = false := beq_eq_false_iff_ne.2 he2
        have HF2 : Hid (findL (l.take (i + 1)) (tx n) = none) := findL_step HX.out HF.out he
        clear he
        go_wp2_with (fail)
        go_roundw
        case rel => exact ⟨i + 1, by go_num, by omega, trivial, HF2.out⟩
        case measure => simp [intOf]; omega
    · have hlt2 : ¬ (i : Int) < (len : Int) := by omega
      have hv : V = .tuple #[.string ⟨#[]⟩, .bool false] := by rw [← HV.out]; unfold findV; rw [findL_end (by rw [HN.out]; omega) HF.out]
      clear HV
      subst hv
      go_wp2_with (fail)
      go_ret2
      exact ⟨rfl, rfl⟩
theorem Find_in (q : Option Addr) (c : Nat) (l : List Hd) (n : ByteArray) (w : World) (hl : HL w q c l) :
    Calls Tryz.prog 44 #[.slice q l.length c, .string n] w fun e w' => e = .returned (findV l (tx n)) ∧ Fr (fun _ => False) w w' := by
  have HLL : Hid (HL w q c l) := hl
  have hfew := hl.few
  obtain ⟨len, hlen⟩ : ∃ len, l.length = len := ⟨_, rfl⟩
  have HN : Hid (l.length = len) := hlen
  rw [hlen] at hfew ⊢
  clear hl hlen
  obtain ⟨V, hV⟩ : ∃ V, findV l (tx n) = V := ⟨_, rfl⟩
  rw [hV]
  have HV : Hid (findV l (tx n) = V) := hV
  clear hV
  go_enter Tryz.func44, Tryz.ntmps44
  go_wp2_with (fail)
  go_loopw [10] (fun v wr => ∃ i : Nat, v = .int .i64 (i : Int) ∧ i ≤ len ∧ Fr (fun _ => False) w wr ∧ Hid (findL (l.take i) (tx n) = none)) (fun v _ => len - (intOf v).toNat)
  case atStart => exact ⟨0, rfl, by omega, Fr.refl _ _, by show _ = _; simp [findL]⟩
  case round =>
    obtain ⟨i, rfl, hi, hf, HF⟩ := hrel
    by_cases hlt : i < len
    · have hlt2 : (i : Int) < (len : Int) := by omega
      obtain ⟨x, hx⟩ : ∃ x, l[i]? = some x := ⟨_, List.getElem?_eq_getElem (by rw [HN.out]; exact hlt)⟩
      obtain ⟨b, o, rfl, hb, c0, c1, c2, hs⟩ := (HLL.out.fr hf).cells i x hx
      have HX : Hid (l[i]? = some x) := hx
      obtain ⟨xn, xv, xs⟩ := x
      dsimp only at c0 c1 c2
      clear hx hs
      have hf2 : Fr (fun _ => False) w (wr.alloc (.cells #[.string xn, .string xv, .bool xs] 35)) := hf.alloc _
      have ch0 : (wr.alloc (.cells #[.string xn, .string xv, .bool xs] 35)).cell? ⟨wr.heap.size, 0, none⟩ = some (.string xn) := by simp
      have ch1 : (wr.alloc (.cells #[.string xn, .string xv, .bool xs] 35)).cell? ⟨wr.heap.size, 1, none⟩ = some (.string xv) := by simp
      by_cases he : tx xn = tx n
      · have he1 : (xn.toList == n.toList) = true := by rw [tx_toList, tx_toList, he]; exact beq_self_eq_true _
        have he2 : xn.toList = n.toList := by rw [tx_toList, tx_toList, he]
        have hv : V = .tuple #[.string xv, .bool true] := by rw [← HV.out]; unfold findV; rw [findL_hit HX.out HF.out he]
        clear HV
        subst hv
        clear he
        go_wp2_with (fail)
        go_ret2
        exact ⟨rfl, hf2⟩
      · have he2 : ¬ xn.toList = n.toList := by rw [tx_toList, tx_toList]; exact he
        have he1 : (xn.toList == n.toList) = false := beq_eq_false_iff_ne.2 he2
        have HF2 : Hid (findL (l.take (i + 1)) (tx n) = none) := findL_step HX.out HF.out he
        clear he
        go_wp2_with (fail)
        go_roundw
        case rel => exact ⟨i + 1, by go_num, by omega, hf2, HF2.out⟩
        case measure => simp [intOf]; omega
    · have hlt2 : ¬ (i : Int) < (len : Int) := by omega
      have hv : V = .tuple #[.string ⟨#[]⟩, .bool false] := by rw [← HV.out]; unfold findV; rw [findL_end (by rw [HN.out]; omega) HF.out]
      clear HV
      subst hv
      go_wp2_with (fail)
      go_ret2
      exact ⟨rfl, hf⟩
theorem str_same (a : ByteArray) : (a.toList == a.toList) = true := beq_self_eq_true _
end Go.Proofs.YtplggcfoadjffaaGreatDoor
