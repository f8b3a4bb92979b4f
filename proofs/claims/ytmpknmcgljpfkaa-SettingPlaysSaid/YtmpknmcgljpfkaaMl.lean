/- The queue of offers: add, take, length; Offer, Ack, Open. -/
import Derived.Test.YtmpknmcgljpfkaaMk
import Derived.Test.YtmpknmcgljpfkaaMg
namespace Go.Proofs.Ytmpknmcgljpfkaa
open Go.RowKit Go.Maps
set_option linter.unusedVariables false
set_option maxRecDepth 100000
set_option maxHeartbeats 4000000

theorem sset {w : World} {g j : Nat} {cs : Array Value} {t : TypeId} {v : Value} (h : w.heap[g]? = some (.cells cs t (0, 0))) : (w.setCell ⟨g, j, none⟩ v).heap[g]? = some (.cells (cs.setIfInBounds j v) t (0, 0)) := by
  have hl := lt_of_heap h
  simp [World.setCell]
  rw [Array.getElem?_eq_getElem hl] at h
  simp at h
  simp [Array.modify, Array.modifyM, hl, h]
theorem own_dis {w : World} {g b : Nat} {v v2 : Value} {xs : List Value} (h : SetC w g b v2) (ho : OwnAt w 33 v xs) : ∀ k, v.ownBlock = some k → k ≠ g := by
  rintro k hk rfl
  rcases ho with ⟨rfl, -⟩ | ⟨g', off, cap, cur, rfl, hg, -⟩
  · simp [Value.ownBlock] at hk
  · simp [Value.ownBlock] at hk
    subst hk
    rw [SetC, hg] at h
    simp at h
theorem info_sets : ∃ i, Try.prog.info? 33 = some i ∧ i.zero = some (.slice none 0 0) ∧ i.size = 1 ∧ i.bytes = 24 := ⟨(Try.prog.info? 33).get (by kernel_rfl), by kernel_rfl, by kernel_rfl, by kernel_rfl, by kernel_rfl⟩
theorem src_cell {P : Program} (w : World) (e tx e' : TypeId) (hk : P.underlying tx = some (.slice e')) (v : Value) (h1 : v.oneCell' = true) : Src P 1 tx (.slice (some ⟨w.heap.size, 0, none⟩) 1 1) 1 [v] (w.alloc (.cells #[v] e)) :=
  Src.ofSlice _ hk _ 1 1 [v] rfl (fun j u hj => by
    cases j with
    | zero => simp at hj; subst hj; rw [add_none]; exact cell_of_heap (heap_alloc_new w _) rfl
    | succ j => simp at hj) (fun u hu => by simp at hu; subst hu; exact h1)
/-- What add leaves. -/
def AddAs (w : World) (g b : Nat) (v : Value) (xs : List Value) (w' : World) : Prop :=
  ∃ a' n' c', SetC w' g b (.slice a' n' c') ∧ OwnAt w' 33 (.slice a' n' c') xs ∧ Fr (fun k => k = g ∨ v.ownBlock = some k) w w' ∧ ((Value.slice a' n' c').ownBlock = v.ownBlock ∨ ∃ k, (Value.slice a' n' c').ownBlock = some k ∧ w.heap.size ≤ k)
theorem qadd_in (g b : Nat) (a : Option Addr) (n c : Nat) (xs : List Value) (p : Option Addr) (m d : Nat) (w : World) (h : SetC w g b (.slice a n c)) (ho : OwnAt w 33 (.slice a n c) xs) (hx : (xs.length + 1) * 24 < 2 ^ 47) :
    Calls Try.prog 31 #[.pointer (some ⟨g, 1, none⟩), .slice p m d] w fun e w' => e = .returned (.tuple #[]) ∧ AddAs w g b (.slice a n c) (xs ++ [.slice p m d]) w' := by
  obtain ⟨c0, c1⟩ := scells h
  obtain ⟨i, j1, j2, j3, j4⟩ := info_sets
  have J1 : Hid (Try.prog.info? 33 = some i) := j1
  have J2 : Hid (i.zero = some (.slice none 0 0)) := j2
  have J3 : Hid (i.size = 1) := j3
  have J4 : Hid (i.bytes = 24) := j4
  have HR : Hid (SetC w g b (.slice a n c)) := h
  have HO : Hid (OwnAt w 33 (.slice a n c) xs) := ho
  have HX : Hid (((xs.length + 1) + (xs.length + 1) / 4 + 192) * i.bytes ≤ 281474976710656 ∧ xs.length + 1 ≤ maxLen) := by rw [j4]; exact ⟨by omega, by unfold maxLen; omega⟩
  have hfa : Fr (fun _ => False) w (w.alloc (.cells #[.slice p m d] 33)) := (Fr.refl _ _).alloc _
  have HF : Hid (Fr (fun _ => False) w (w.alloc (.cells #[.slice p m d] 33))) := hfa
  have HOA : Hid (OwnAt (w.alloc (.cells #[.slice p m d] 33)) 33 (.slice a n c) xs) := ho.fr hfa (fun _ _ => id)
  have HRA : Hid (SetC (w.alloc (.cells #[.slice p m d] 33)) g b (.slice a n c)) := h.fr hfa id
  have HS : Hid (Src Try.prog 1 51 (.slice (some ⟨w.heap.size, 0, none⟩) 1 1) 1 [.slice p m d] (w.alloc (.cells #[.slice p m d] 33))) := src_cell w 33 51 33 Try.underlying51 _ rfl
  clear j1 j2 j3 j4 h ho hx hfa
  go_enter Try.func31, Try.ntmps31
  go_wp2_with (refine wpList_append_at rfl (.tmp 8) (.tmp 10) 51 51 rfl 33 i (.slice none 0 0) Try.underlying51 J1.out J2.out J3.out rfl (.slice a n c) xs (by go_simp) HOA.out (.slice (some ⟨w.heap.size, 0, none⟩) 1 1) (by go_simp) 1 [.slice p m d] HS.out HX.out.1 HX.out.2 ?_; intro a' c' w1 o1 F1 B1; have O1 : Hid (OwnAt w1 33 (.slice a' (xs.length + 1) c') (xs ++ [.slice p m d])) := o1; have R1 : Hid (SetC w1 g b (.slice a n c)) := HRA.out.fr F1.out (fun e => own_dis HRA.out HOA.out g e rfl); have d1 : w1.cell? ⟨g, 1, none⟩ = some (.slice a n c) := (scells R1.out).2; have z1 : w1.frozen? ⟨g, 1, none⟩ = false := frozen_of_heap R1.out; clear o1)
  refine bodyPost_end (results_none rfl _ _ _) rfl ?_
  refine ⟨rfl, a', xs.length + 1, c', sset R1.out, ?_, ?_, ?_⟩
  · exact O1.out.fr ((Fr.refl _ _).setB 1 _) (own_dis R1.out O1.out)
  · exact ((HF.out.mono (T := fun k => k = g ∨ (Value.slice a n c).ownBlock = some k) (fun _ _ e => e.elim)).trans (F1.out.mono (fun _ _ e => .inr e))).setS (.inl rfl) 1 _
  · rcases B1.out with e | ⟨k, e, hk⟩
    · exact .inl e
    · exact .inr ⟨k, e, by have := HF.out.size; omega⟩
theorem qlength_in (g b : Nat) (a : Option Addr) (n c : Nat) (w : World) (h : SetC w g b (.slice a n c)) :
    Calls Try.prog 33 #[.pointer (some ⟨g, 1, none⟩)] w fun e w' => e = .returned (.int .i64 (n : Int)) ∧ w = w' := by
  obtain ⟨c0, c1⟩ := scells h
  go_enter Try.func33, Try.ntmps33
  go_wp2_with (fail)
  go_ret
  exact ⟨rfl, rfl⟩
theorem qtake_none (g b : Nat) (a : Option Addr) (c : Nat) (w : World) (h : SetC w g b (.slice a 0 c)) :
    Calls Try.prog 32 #[.pointer (some ⟨g, 1, none⟩)] w fun e w' => e = .returned (.tuple #[.slice none 0 0, .bool false]) ∧ w = w' := by
  obtain ⟨c0, c1⟩ := scells h
  go_enter Try.func32, Try.ntmps32
  go_wp2_with (fail)
  go_ret2
  exact ⟨rfl, rfl⟩
theorem own_tail {w : World} {e : TypeId} {g off n cap : Nat} {u : Value} {r : List Value} (h : OwnAt w e (.slice (some ⟨g, off, none⟩) n cap) (u :: r)) (z : Value) (dp : Option Addr) (hd : 1 < cap → dp = some ((⟨g, off, none⟩ : Addr).add 1)) (hd1 : cap = 1 → dp = some ⟨g, off, none⟩) :
    OwnAt (w.setCell ⟨g, off, none⟩ z) e (.slice dp (n - 1) (cap - 1)) r := by
  rcases h with ⟨h, _⟩ | ⟨g', off', cap', cur, h, hg, h1, h2, h3, h4⟩
  · cases h
  · cases h
    simp only [List.length_cons] at h2 h4
    have hr : (cur.toList.drop (off + 1)).take r.length = r := by
      have := congrArg (List.drop 1) h4
      rw [List.drop_take, List.drop_drop] at this
      simpa using this
    have hset : (w.setCell ⟨g, off, none⟩ z).heap[g]? = some (.cells (cur.setIfInBounds off z) e (0, 0)) := sset hg
    have hdr : (cur.setIfInBounds off z).toList.drop (off + 1) = cur.toList.drop (off + 1) := by
      rw [Array.toList_setIfInBounds, List.drop_set_of_lt (by omega)]
    by_cases hc : cap = 1
    · rw [hd1 hc]
      have hrl : r = [] := List.eq_nil_of_length_eq_zero (by omega)
      subst hrl
      exact .inr ⟨g, off, cap - 1, _, by simp, hset, by simp; omega, by simp, by omega, by simp⟩
    · rw [hd (by omega), add_none]
      exact .inr ⟨g, off + 1, cap - 1, _, by simp, hset, by simp; omega, by omega, by omega, by rw [hdr]; exact hr⟩
theorem cut_tail (P : Program) (t e : TypeId) (ht : P.underlying t = some (.slice e)) (hsz : (P.info? e).map (·.size) = some 1) (a : Addr) (len cap : Nat) (hl : 1 ≤ len) :
    ∃ dp : Option Addr, (∀ w, (Instr.slice t (.slice (some a) len cap) (some (.int .i64 1)) none none).run P w = .ok (.slice dp (len - 1) (cap - 1)) w) ∧ (1 < cap → dp = some (a.add 1)) ∧ (cap = 1 → dp = some a) := by
  refine ⟨if cap = 1 then some a else some (a.add 1), fun w => ?_, fun h => by rw [if_neg (by omega)], fun h => by rw [if_pos h]⟩
  have hb := run_sliceBound (P := P) (w := w) .i64 ((1 : Nat) : Int) len .sliceB (by omega) (by omega)
  cases hi : P.info? e with
  | none => simp [hi] at hsz
  | some i =>
  have h1 : i.size = 1 := by simpa [hi] using hsz
  have hb' := hb
  rw [show ((1 : Nat) : Int) = 1 from rfl] at hb'
  simp [Instr.slice, run_underlying ht, Instr.sliceBounds, hb', sizeOf, typeInfo, hi, h1]
/-- What take leaves where there is something. -/
def TookL (w : World) (g b : Nat) (v u : Value) (r : List Value) (e : Ending) (w' : World) : Prop :=
  e = .returned (.tuple #[u, .bool true]) ∧ ∃ a' n' c', SetC w' g b (.slice a' n' c') ∧ OwnAt w' 33 (.slice a' n' c') r ∧ Fr (fun k => k = g ∨ v.ownBlock = some k) w w' ∧ (Value.slice a' n' c').ownBlock = v.ownBlock
theorem qtake_some (g b : Nat) (a : Option Addr) (n c : Nat) (p : Option Addr) (m d : Nat) (r : List Value) (w : World) (h : SetC w g b (.slice a n c)) (ho : OwnAt w 33 (.slice a n c) (.slice p m d :: r)) :
    Calls Try.prog 32 #[.pointer (some ⟨g, 1, none⟩)] w fun e w' => TookL w g b (.slice a n c) (.slice p m d) r e w' := by
  obtain ⟨c0, c1⟩ := scells h
  have hne := own_dis h ho
  obtain ⟨ga, off, cap, hv, k0, z0⟩ := ho.cells 0 (.slice p m d) rfl
  cases hv
  rw [Nat.add_zero] at k0 z0
  have hga : ga ≠ g := hne ga rfl
  have hcap : 1 ≤ c := by
    rcases ho with ⟨e, _⟩ | ⟨_, _, _, _, e, _, _, h2, _⟩
    · cases e
    · cases e; simp at h2; omega
  obtain ⟨N, hN⟩ : ∃ N, (Value.slice p m d :: r).length = N := ⟨_, rfl⟩
  rw [hN] at h ho c1 hne ⊢
  have hN1 : 1 ≤ N := by rw [← hN]; simp
  obtain ⟨dp, hcut, hdp, hdp1⟩ := cut_tail Try.prog 51 33 Try.underlying51 (by kernel_rfl) ⟨ga, off, none⟩ N c hN1
  have hN2 : (0 : Int) < (N : Int) := by omega
  have hN3 : ((N : Int) == 0) = false := by simp; omega
  have HT : Hid (OwnAt (w.setCell ⟨ga, off, none⟩ (.slice none 0 0)) 33 (.slice dp (N - 1) (c - 1)) r) := own_tail ho (.slice none 0 0) dp hdp hdp1
  have HB : Hid ((Value.slice dp (N - 1) (c - 1)).ownBlock = some ga) := by
    show _ = _
    by_cases h1 : c = 1
    · rw [hdp1 h1]; rfl
    · rw [hdp (by omega), add_none]; rfl
  have hf1 : Fr (fun k => k = ga) w (w.setCell ⟨ga, off, none⟩ (.slice none 0 0)) := (Fr.refl _ _).setB off _
  have HF1 : Hid (Fr (fun k => k = ga) w (w.setCell ⟨ga, off, none⟩ (.slice none 0 0))) := hf1
  have HR1 : Hid (SetC (w.setCell ⟨ga, off, none⟩ (.slice none 0 0)) g b (.slice (some ⟨ga, off, none⟩) N c)) := h.fr hf1 (fun e => hga e.symm)
  obtain ⟨w1, hw1⟩ : ∃ w1, w1 = w.setCell ⟨ga, off, none⟩ (.slice none 0 0) := ⟨_, rfl⟩
  rw [← hw1] at HT HF1 HR1
  clear hne ho hN h hdp hdp1 hf1
  go_enter Try.func32, Try.ntmps32
  go_upto_region 6 with (fail)
  rw [← hw1]
  clear hw1 k0 z0 c0 c1
  obtain ⟨c0, c1⟩ := scells HR1.out
  have z1 : w1.frozen? ⟨g, 1, none⟩ = false := frozen_of_heap HR1.out
  go_wp2_with (fail)
  go_ret2
  refine ⟨rfl, dp, N - 1, c - 1, sset HR1.out, HT.out.fr ((Fr.refl _ _).setB 1 _) (fun k e => ?_), ?_, HB.out⟩
  · rw [HB.out] at e
    cases e
    exact hga
  · exact (HF1.out.mono (T := fun k => k = g ∨ (Value.slice (some ⟨ga, off, none⟩) N c).ownBlock = some k) (fun k _ e => .inr (by rw [e]; rfl))).setS (.inl rfl) 1 _
end Go.Proofs.Ytmpknmcgljpfkaa
