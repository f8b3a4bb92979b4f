/- The queue of offers: add. -/
import Derived.Test.YtpjbgjgaigkbcaaGreatMc
import Derived.Test.YtpjbgjgaigkbcaaGreatAv
import Derived.Test.YtpjbgjgaigkbcaaGreatCk
import Derived.Deep.AppendSrc
import Derived.Deep.Upon
namespace Go.Proofs.YtpjbgjgaigkbcaaGreat
open Go.RowKit Go.Maps
set_option linter.unusedVariables false
set_option maxRecDepth 100000
set_option maxHeartbeats 4000000

theorem sset {w : World} {g j : Nat} {cs : Array Value} {t : TypeId} {v : Value} (h : w.heap[g]? = some (.cells cs t (0, 0))) : (w.setCell ⟨g, j, none⟩ v).heap[g]? = some (.cells (cs.setIfInBounds j v) t (0, 0)) := by
  have hl := lt_of_heap h
  simp [World.setCell]
  rw [Array.getElem?_eq_getElem hl] at h
  simp at h
  simp [Array.modify, Array.modifyM, hl, h]
theorem own_dis {w : World} {g b : Nat} {v v2 : Value} {xs : List Value} (h : SetC w g b v2) (ho : OwnAt w 60 v xs) : ∀ k, v.ownBlock = some k → k ≠ g := by
  rintro k hk rfl
  rcases ho with ⟨rfl, -⟩ | ⟨g', off, cap, cur, rfl, hg, -⟩
  · simp [Value.ownBlock] at hk
  · simp [Value.ownBlock] at hk
    subst hk
    rw [SetC, hg] at h
    simp at h
theorem info_sets : ∃ i, Tryz.prog.info? 60 = some i ∧ i.zero = some (.slice none 0 0) ∧ i.size = 1 ∧ i.bytes = 24 := ⟨(Tryz.prog.info? 60).get (by kernel_rfl), by kernel_rfl, by kernel_rfl, by kernel_rfl, by kernel_rfl⟩
theorem src_cellS {P : Program} (w : World) (e tx e' : TypeId) (hk : P.underlying tx = some (.slice e')) (v : Value) (h1 : v.oneCell' = true) : Src P 1 tx (.slice (some ⟨w.heap.size, 0, none⟩) 1 1) 1 [v] (w.alloc (.cells #[v] e)) :=
  Src.ofSlice _ hk _ 1 1 [v] rfl (fun j u hj => by
    cases j with
    | zero => simp at hj; subst hj; rw [add_none]; exact cell_of_heap (heap_alloc_new w _) rfl
    | succ j => simp at hj) (fun u hu => by simp at hu; subst hu; exact h1)
/-- What add leaves. -/
def AddAs (w : World) (g b : Nat) (v : Value) (xs : List Value) (w' : World) : Prop :=
  ∃ a' n' c', SetC w' g b (.slice a' n' c') ∧ OwnAt w' 60 (.slice a' n' c') xs ∧ Fr (fun k => k = g ∨ v.ownBlock = some k) w w' ∧ ((Value.slice a' n' c').ownBlock = v.ownBlock ∨ ∃ k, (Value.slice a' n' c').ownBlock = some k ∧ w.heap.size ≤ k)
theorem qadd_in (g b : Nat) (a : Option Addr) (n c : Nat) (xs : List Value) (p : Option Addr) (m d : Nat) (w : World) (h : SetC w g b (.slice a n c)) (ho : OwnAt w 60 (.slice a n c) xs) (hx : (xs.length + 1) * 24 < 2 ^ 47) :
    Calls Tryz.prog 35 #[.pointer (some ⟨g, 1, none⟩), .slice p m d] w fun e w' => e = .returned (.tuple #[]) ∧ AddAs w g b (.slice a n c) (xs ++ [.slice p m d]) w' := by
  obtain ⟨c0, c1⟩ := scells h
  obtain ⟨i, j1, j2, j3, j4⟩ := info_sets
  have J1 : Hid (Tryz.prog.info? 60 = some i) := j1
  have J2 : Hid (i.zero = some (.slice none 0 0)) := j2
  have J3 : Hid (i.size = 1) := j3
  have J4 : Hid (i.bytes = 24) := j4
  have HR : Hid (SetC w g b (.slice a n c)) := h
  have HO : Hid (OwnAt w 60 (.slice a n c) xs) := ho
  have HX : Hid (((xs.length + 1) + (xs.length + 1) / 4 + 192) * i.bytes ≤ 281474976710656 ∧ xs.length + 1 ≤ maxLen) := by rw [j4]; exact ⟨by omega, by unfold maxLen; omega⟩
  have hfa : Fr (fun _ => False) w (w.alloc (.cells #[.slice p m d] 60)) := (Fr.refl _ _).alloc _
  have HF : Hid (Fr (fun _ => False) w (w.alloc (.cells #[.slice p m d] 60))) := hfa
  have HOA : Hid (OwnAt (w.alloc (.cells #[.slice p m d] 60)) 60 (.slice a n c) xs) := ho.fr hfa (fun _ _ => id)
  have HRA : Hid (SetC (w.alloc (.cells #[.slice p m d] 60)) g b (.slice a n c)) := h.fr hfa id
  have HS : Hid (Src Tryz.prog 1 73 (.slice (some ⟨w.heap.size, 0, none⟩) 1 1) 1 [.slice p m d] (w.alloc (.cells #[.slice p m d] 60))) := src_cellS w 60 73 60 Tryz.underlying73 _ rfl
  clear j1 j2 j3 j4 h ho hx hfa
  go_enter Tryz.func35, Tryz.ntmps35
  go_wp2_with (refine wpList_append_at rfl (.tmp 8) (.tmp 10) 73 73 rfl 60 i (.slice none 0 0) Tryz.underlying73 J1.out J2.out J3.out rfl (.slice a n c) xs (by go_simp) HOA.out (.slice (some ⟨w.heap.size, 0, none⟩) 1 1) (by go_simp) 1 [.slice p m d] HS.out HX.out.1 HX.out.2 ?_; intro a' c' w1 o1 F1 B1; have O1 : Hid (OwnAt w1 60 (.slice a' (xs.length + 1) c') (xs ++ [.slice p m d])) := o1; have R1 : Hid (SetC w1 g b (.slice a n c)) := HRA.out.fr F1.out (fun e => own_dis HRA.out HOA.out g e rfl); have d1 : w1.cell? ⟨g, 1, none⟩ = some (.slice a n c) := (scells R1.out).2; have z1 : w1.frozen? ⟨g, 1, none⟩ = false := frozen_of_heap R1.out; clear o1)
  refine bodyPost_end (results_none rfl _ _ _) rfl ?_
  refine ⟨rfl, a', xs.length + 1, c', sset R1.out, ?_, ?_, ?_⟩
  · exact O1.out.fr ((Fr.refl _ _).setB 1 _) (own_dis R1.out O1.out)
  · exact ((HF.out.mono (T := fun k => k = g ∨ (Value.slice a n c).ownBlock = some k) (fun _ _ e => e.elim)).trans (F1.out.mono (fun _ _ e => .inr e))).setS (.inl rfl) 1 _
  · rcases B1.out with e | ⟨k, e, hk⟩
    · exact .inl e
    · exact .inr ⟨k, e, by have := HF.out.size; omega⟩
end Go.Proofs.YtpjbgjgaigkbcaaGreat
