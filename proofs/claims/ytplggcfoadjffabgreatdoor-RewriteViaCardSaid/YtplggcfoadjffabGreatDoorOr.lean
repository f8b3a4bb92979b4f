/- The headers one by one: the document's. -/
import Derived.Test.YtplggcfoadjffabGreatDoorOn
namespace Go.Proofs.YtplggcfoadjffabGreatDoor
open Go.RowKit Go.Maps
set_option linter.unusedVariables false
set_option maxRecDepth 100000
set_option maxHeartbeats 8000000

theorem HL.take {w : World} {q : Option Addr} {c : Nat} {l : List Hd} (h : HL w q c l) (i : Nat) : HL w q c (l.take i) :=
  ⟨Nat.le_trans (List.length_take_le' _ _) h.cap, h.big, by have := h.few; have := List.length_take_le' i l; omega, fun r x hr => by
    have hlt := (List.getElem?_eq_some_iff.1 hr).1
    rw [List.length_take] at hlt
    rw [List.getElem?_take_of_lt (by omega)] at hr
    exact h.cells r x hr⟩
/-- What is known in each's loop. -/
structure EachS (w : World) (may : List (List UInt8)) (l : List Hd) (i : Nat) (W : World) : Prop where
  fr : Fr (fun _ => False) w W
  each : eachO may (l.take i) (l.drop i) = eachO may [] l
theorem EachS.err {w W : World} {may : List (List UInt8)} {l : List Hd} {i : Nat} {h : Hd} (s : EachS w may l i W) (hi : l[i]? = some h) {k : Int} (hk : stepE may (l.take i) h = k) (hn : k ≠ 0) : eachO may [] l = k := by
  have h1 := s.each
  rw [eachO_at hi, if_neg (by rw [hk]; exact hn), hk] at h1
  exact h1.symm
theorem EachS.next {w W W2 : World} {may : List (List UInt8)} {l : List Hd} {i : Nat} {h : Hd} (s : EachS w may l i W) (hi : l[i]? = some h) (hk : stepE may (l.take i) h = 0) (f : Fr (fun _ => False) W W2) : EachS w may l (i + 1) W2 := by
  have h1 := s.each
  rw [eachO_at hi, if_pos hk] at h1
  exact ⟨s.fr.trans f, h1⟩
theorem find_snd (l : List Hd) (n : List UInt8) : ∃ v : ByteArray, findV l n = .tuple #[.string v, .bool (findL l n).isSome] := by
  unfold findV
  cases findL l n with
  | none => exact ⟨_, rfl⟩
  | some v => exact ⟨_, rfl⟩
end Go.Proofs.YtplggcfoadjffabGreatDoor
