/- What a map of pseudo headers holds: has, filled; what lies there behind some headers. -/
import Derived.Test.YtplggcfoadjffaaGreatDoorOl
namespace Go.Proofs.YtplggcfoadjffaaGreatDoor
open Go.RowKit Go.Maps
set_option linter.unusedVariables false
set_option maxRecDepth 100000
set_option maxHeartbeats 4000000

/-- A header, as a value. -/
def hdrV (h : Hd) : Value := .agg #[.string h.1, .string h.2.1, .bool h.2.2]
def zeroHd : Hd := (⟨#[]⟩, ⟨#[]⟩, false)
theorem zero_hdr (w : World) : (zeroValue 35).run Tryz.prog w = .ok (hdrV zeroHd) w := by kernel_rfl
def findH : List Hd → List UInt8 → Option Hd
  | [], _ => none
  | h :: t, n => if tx h.1 = n then some h else findH t n
theorem findL_H (l : List Hd) (n : List UInt8) : findL l n = (findH l n).map (·.2.1) := by
  induction l with
  | nil => rfl
  | cons h t ih =>
    simp only [findL, findH]
    split
    · rfl
    · exact ih
theorem findH_append (a b : List Hd) (n : List UInt8) : findH (a ++ b) n = (findH a n).or (findH b n) := by
  induction a with
  | nil => simp [findH]
  | cons h t ih =>
    simp only [List.cons_append, findH]
    split
    · rfl
    · exact ih
/-- The pseudo headers that have come. -/
def gotM (l : List Hd) : List UInt8 → Option Hd := fun k => if pseudoB k then findH l k else none
def gotV (l : List Hd) : List UInt8 → Option Value := fun k => (gotM l k).map hdrV
theorem got_nil : gotV [] = fun _ => none := by
  funext k
  unfold gotV gotM
  split <;> rfl
theorem got_put {l : List Hd} {i : Nat} {h : Hd} (hi : l[i]? = some h) (hp : pseudoB (tx h.1) = true) (hn : findL (l.take i) (tx h.1) = none) : gotV (l.take (i + 1)) = putS (gotV (l.take i)) (tx h.1) (hdrV h) := by
  funext k
  unfold gotV gotM putS
  rw [List.take_add_one, hi]
  simp only [Option.toList_some]
  by_cases hk : k = tx h.1
  · subst hk
    rw [if_pos hp, if_pos rfl, findH_append]
    rw [findL_H] at hn
    have : findH (l.take i) (tx h.1) = none := by simpa using hn
    rw [this]
    simp [findH]
  · rw [if_neg hk, findH_append]
    have hne : ¬ tx h.1 = k := fun e => hk e.symm
    have : findH [h] k = none := by simp [findH, hne]
    rw [this]
    simp
theorem got_skip {l : List Hd} {i : Nat} {h : Hd} (hi : l[i]? = some h) (hp : pseudoB (tx h.1) = false) : gotV (l.take (i + 1)) = gotV (l.take i) := by
  funext k
  unfold gotV gotM
  rw [List.take_add_one, hi]
  simp only [Option.toList_some]
  by_cases hk : pseudoB k = true
  · rw [if_pos hk, if_pos hk, findH_append]
    have hne : ¬ tx h.1 = k := fun e => by rw [e, hk] at hp; cases hp
    have : findH [h] k = none := by simp [findH, hne]
    rw [this]
    simp
  · rw [if_neg hk, if_neg hk]
theorem got_has {l : List Hd} {k : List UInt8} (hk : pseudoB k = true) : (gotV l k).isSome = (findL l k).isSome := by
  unfold gotV gotM
  rw [if_pos hk, findL_H]
  simp
theorem got_val {l : List Hd} {k : List UInt8} (hk : pseudoB k = true) : ∃ h : Hd, (gotV l k).getD (hdrV zeroHd) = hdrV h ∧ tx h.2.1 = valO l k := by
  unfold gotV gotM valO
  rw [if_pos hk, findL_H]
  cases findH l k with
  | none => exact ⟨zeroHd, rfl, rfl⟩
  | some h => exact ⟨h, rfl, rfl⟩
theorem SMap.any {w : World} {b n : Nat} {l : List Hd} (h : SMap w b n (gotV l)) (s : ByteArray) : ∃ h : Hd, (gotV l (tx s)).getD (hdrV zeroHd) = hdrV h := by
  unfold gotV
  cases gotM l (tx s) with
  | none => exact ⟨zeroHd, rfl⟩
  | some h => exact ⟨h, rfl⟩
theorem has_in (b n : Nat) (l : List Hd) (s : ByteArray) (w : World) (hm : SMap w b n (gotV l)) (hs : s.size < 2 ^ 60) :
    Calls Tryz.prog 65 #[.map (some b), .string s] w fun e w' => e = .returned (.bool (gotV l (tx s)).isSome) ∧ Fr (fun _ => False) w w' := by
  obtain ⟨h, hv⟩ := hm.any s
  obtain ⟨t, ht⟩ : ∃ t, (gotV l (tx s)).isSome = t := ⟨_, rfl⟩
  obtain ⟨hn, hvv, hss⟩ := h
  rw [ht]
  go_enter Tryz.func65, Tryz.ntmps65
  go_wp2_with (refine wpList_slook_ok rfl (.tmp 8) (.tmp 9) 63 rfl 35 Tryz.underlying63 (hdrV zeroHd) zero_hdr b n (gotV l) rfl hm s rfl (by unfold maxLen; omega) _ hv t ht ?_; unfold hdrV)
  go_ret
  exact ⟨rfl, (Fr.refl _ _).alloc _⟩
theorem field_val (a b : ByteArray) (c : Bool) : ∀ w : World, (Instr.field 35 (.agg #[.string a, .string b, .bool c]) 1).run Tryz.prog w = .ok (.string b) w := fun w => by
  simp [Instr.field, asAgg, go_sem]
theorem filled_in (b n : Nat) (l : List Hd) (s : ByteArray) (w : World) (hm : SMap w b n (gotV l)) (hs : s.size < 2 ^ 60) (hp : pseudoB (tx s) = true) :
    Calls Tryz.prog 67 #[.map (some b), .string s] w fun e w' => e = .returned (.bool (!(valO l (tx s)).isEmpty)) ∧ Fr (fun _ => False) w w' := by
  obtain ⟨h, hv, hval⟩ := got_val (l := l) hp
  obtain ⟨hn, hvv, hss⟩ := h
  dsimp only at hval
  have he : hvv.toList.isEmpty = (valO l (tx s)).isEmpty := by rw [tx_toList, hval]
  have hfd := field_val hn hvv hss
  generalize (valO l (tx s)).isEmpty = t at he ⊢
  clear hval hp
  cases t with
  | true =>
    go_enter Tryz.func67, Tryz.ntmps67
    go_wp2_with (refine wpList_slook rfl (.tmp 5) (.tmp 6) 63 rfl 35 Tryz.underlying63 (hdrV zeroHd) zero_hdr b n (gotV l) rfl hm s rfl (by unfold maxLen; omega) _ hv ?_; unfold hdrV)
    go_ret
    exact ⟨rfl, Fr.refl _ _⟩
  | false =>
    go_enter Tryz.func67, Tryz.ntmps67
    go_wp2_with (refine wpList_slook rfl (.tmp 5) (.tmp 6) 63 rfl 35 Tryz.underlying63 (hdrV zeroHd) zero_hdr b n (gotV l) rfl hm s rfl (by unfold maxLen; omega) _ hv ?_; unfold hdrV)
    go_ret
    exact ⟨rfl, Fr.refl _ _⟩
end Go.Proofs.YtplggcfoadjffaaGreatDoor
