/- Plain facts: zeros appended to a slice of one's own. -/
import Derived.Test.YtikaefjhmgcidaaZMB1
import Derived.Lib.AppendZerosOnto
import Derived.Test.YtikaefjhmgcidaaZMRa
import Derived.Test.YtikaefjhmgcidaaZMFd
namespace Go.Proofs.Ytikaefjhmgcidaa
open Go.RowKit
set_option linter.unusedVariables false

theorem zeros_bv (n : Nat) : Builtin.zeroCells #[.int .u8 0] n = (bv (List.replicate n 0)).toArray := by
  apply Array.ext
  · simp [Builtin.zeroCells, bv]
  · intro i h1 h2
    have h3 : i < n := by simpa [Builtin.zeroCells] using h1
    simp [Builtin.zeroCells, bv, Nat.mod_one]

theorem run_append_zeros {P : Program} (w : World) (t tn ty : TypeId) (i : TypeInfo) (ht : P.underlying t = some (.slice 5)) (kn : IntKind) (htn : P.underlying tn = some (.int kn)) (hi : P.info? 5 = some i) (hz : i.zero = some (.int .u8 0)) (hsize : i.size = 1) (hby : i.bytes = 1)
    (v : Value) (xs : List UInt8) (hown : OwnAt w 5 v (bv xs)) (n : Nat) (hn : n ≤ 255) (hlen : xs.length + n ≤ 225179981368371) :
    ∃ a' c' w', (Builtin.append_ #[t, tn] ty #[v, .int .i64 (n : Int)]).run P w = .ok (.slice a' (xs.length + n) c') w' ∧ OwnAt w' 5 (.slice a' (xs.length + n) c') (bv (xs ++ List.replicate n 0)) ∧ Fr (fun k => v.ownBlock = some k) w w' ∧ ((Value.slice a' (xs.length + n) c').ownBlock = v.ownBlock ∨ ∃ k, (Value.slice a' (xs.length + n) c').ownBlock = some k ∧ w.heap.size ≤ k) := by
  have hw : IntKind.i64.wrap (n : Int) = n := by rw [IntKind.wrap_i64]; omega
  have hw0 : IntKind.i64.wrap 0 = 0 := by decide
  have hneg : ¬ ((n : Int) < 0) := by omega
  have h48i : ¬ (281474976710656 < (n : Int)) := by omega
  have hfr : ∀ o, Fr (fun k => v.ownBlock = some k) w (w.drew.alloc o) := fun o => (Fr.refl _ _).drew.alloc o
  have hcz : (Value.int .u8 0).cells = #[.int .u8 0] := rfl
  have grown : ∀ (old : Nat), old < xs.length + n →
      OwnAt (w.drew.alloc (.cells ((bv xs).toArray ++ Builtin.zeroCells (Value.int .u8 0).cells n ++ Builtin.zeroCells (Value.int .u8 0).cells (grownCap w (xs.length + n) old 5 - (xs.length + n))) 5)) 5 (.slice (some ⟨w.heap.size, 0, none⟩) (xs.length + n) (grownCap w (xs.length + n) old 5)) (bv (xs ++ List.replicate n 0)) := by
    intro old ho
    have hge := grownCap_ge w (xs.length + n) old 5
    refine .inr ⟨w.heap.size, 0, grownCap w (xs.length + n) old 5, _, by rw [bv_length]; simp, heap_alloc_new w.drew _, ?_, ?_, grownCap_le_maxLen w (xs.length + n) old 5 (by unfold maxLen; omega), ?_⟩
    · simp [size_zeroCells, hcz, bv_length]; omega
    · rw [bv_length]; simpa using hge
    · rw [List.drop_zero, hcz, zeros_bv n, Array.toList_append, Array.toList_append, ← bv_append]; exact List.take_left
  rcases hown with ⟨rfl, hx⟩ | ⟨g, off, cap, cur, rfl, hg, hoc, hnc, hcm, htake⟩
  · obtain rfl : xs = [] := by simpa [bv] using hx
    by_cases hm : n = 0
    · subst hm
      refine ⟨none, 0, w, ?_, .inl ⟨rfl, rfl⟩, Fr.refl _ _, .inl rfl⟩
      simp [Builtin.append_, run_underlying ht, run_underlying htn, sizeOf, typeInfo, hi, asInt, asIntOf, hw0]
    · have hr := Lib.run_append_nil_zeros (P := P) w t tn ty 5 i (.int .u8 0) .i64 kn ht htn hi hz n (by omega) (by omega) (by omega) (by rw [hby]; omega)
      have h1 := grown 0 (by simp; omega)
      simp only [List.length_nil, Nat.zero_add] at h1 ⊢
      exact ⟨_, _, _, hr, by simpa [bv] using h1, hfr _, .inr ⟨_, rfl, Nat.le_refl _⟩⟩
  · rw [bv_length] at hnc htake ⊢
    by_cases hroom : xs.length + n ≤ cap
    · have hst := run_storeCells_at P g (off + xs.length) 5 (bv (List.replicate n 0)) 0 cur w hg (by simp [bv_length]; omega) (bv_one _)
      simp only [Nat.add_zero] at hst
      have hr : (Builtin.append_ #[t, tn] ty #[.slice (some ⟨g, off, none⟩) xs.length cap, .int .i64 (n : Int)]).run P w = .ok (.slice (some ⟨g, off, none⟩) (xs.length + n) cap) (w.setRow g (cur.toList.take (off + xs.length) ++ bv (List.replicate n 0) ++ cur.toList.drop (off + xs.length + (bv (List.replicate n 0)).length)).toArray) := by
        by_cases hm : n = 0
        · subst hm
          simp [bv] at hst
          simp [Builtin.append_, run_underlying ht, run_underlying htn, sizeOf, typeInfo, hi, asInt, asIntOf, hw0, hsize, Addr.add_lit, hst, bv, hnc]
        · simp [Builtin.append_, run_underlying ht, run_underlying htn, sizeOf, typeInfo, zeroValue, hi, hz, asInt, asIntOf, hw, hneg, hm, hby, h48i, hroom, hsize, Addr.add_lit, hcz, zeros_bv, hst]
      refine ⟨_, _, _, hr, .inr ⟨g, off, cap, _, by rw [bv_length]; simp, setRow_heap w g cur _ 5 _ hg, ?_, by rw [bv_length]; simpa using hroom, hcm, ?_⟩, ?_, .inl rfl⟩
      · simp [bv_length]; omega
      · rw [bv_length, List.length_append, List.length_replicate]
        have e1 : cur.toList.take (off + xs.length) = cur.toList.take off ++ bv xs := by
          rw [List.take_add, htake]
        rw [e1]
        simp only [List.append_assoc]
        rw [List.drop_append_of_le_length (by simp; omega), List.drop_of_length_le (by simp; omega), List.nil_append, ← List.append_assoc, List.take_append_of_le_length (by simp [bv_length]), List.take_of_length_le (by simp [bv_length]), bv_append]
      · exact Fr.setRow (S := fun k => Value.ownBlock (.slice (some ⟨g, off, none⟩) xs.length cap) = some k) (Fr.refl _ _) g (fun _ => rfl) _
    · have hold : (Builtin.firstCells i.size xs.length (.slice (some ⟨g, off, none⟩) xs.length cap)).run P w.drew = .ok (bv xs).toArray w.drew := by
        refine run_firstCells_some w.drew _ _ _ _ _ (bv xs) (by rw [hsize, bv_length]; omega) ?_
        intro j u hj
        rw [add_none]
        refine cell_of_heap (show w.drew.heap[g]? = _ from hg) ?_
        rw [← htake, List.getElem?_take] at hj
        split at hj
        · rw [List.getElem?_drop] at hj; simpa using hj
        · cases hj
      have hr := Lib.run_append_grow_zeros (P := P) w t tn ty 5 i (.int .u8 0) .i64 kn ht htn hi hz (some ⟨g, off, none⟩) xs.length cap (bv xs) hold n (by omega) (by omega) (by omega) (by omega) (by rw [hby]; omega) (growslice_fits_wide (by omega) (by rw [hby]; omega))
      exact ⟨_, _, _, hr, grown cap (by omega), hfr _, .inr ⟨_, rfl, Nat.le_refl _⟩⟩

theorem wpList_zeros {P : Program} {w0 w : World} {ops : Array Oper} {rest : List Oper} {o : Oper} {a : Act} {Q : Exit → Act → World → Prop} (hgd : o.guard = none) (s x : Operand) (t tn : TypeId)
    (ho : o.op = .call { callee := .builtin .append, args := #[s, x], argTypes := #[t, tn] })
    (i : TypeInfo) (ht : P.underlying t = some (.slice 5)) (kn : IntKind) (htn : P.underlying tn = some (.int kn)) (hi : P.info? 5 = some i) (hz : i.zero = some (.int .u8 0)) (hsize : i.size = 1) (hby : i.bytes = 1)
    (v : Value) (xs : List UInt8) (hsv : a.eval s = v) (hown : Gath w0 w v xs) (n : Nat) (hxv : a.eval x = .int .i64 (n : Int)) (hn : n ≤ 255) (hbytes : xs.length + n ≤ 225179981368371)
    (h : ∀ a' n' c' w', Hid (n' = xs.length + n) → Gath w0 w' (.slice a' n' c') (xs ++ List.replicate n 0) → Hid (Fr (fun k => v.ownBlock = some k) w w') → wpList P ops Q rest (a.put o.dst (.slice a' n' c')) w') : wpList P ops Q (o :: rest) a w := by
  obtain ⟨a', c', w', hr, hO, hf, hk⟩ := run_append_zeros (P := P) w t tn o.type i ht kn htn hi hz hsize hby v xs hown.1 n hn hbytes
  refine Lib.wpList_append_run w hgd s x t tn ho v _ hsv hxv _ _ hr ?_
  have h1 : Fr (fun k => w0.heap.size ≤ k) w0 w' := (hown.2.2.mono (fun _ _ e => e.elim)).trans (hf.mono (fun k _ e => hown.2.1 k e))
  refine h a' _ c' w' rfl ⟨hO, fun k e => ?_, h1.mono (fun k hk e => by omega)⟩ hf
  rcases hk with h1 | ⟨k', h1, h2⟩
  · exact hown.2.1 k (h1 ▸ e)
  · rw [h1] at e
    cases e
    have := hown.2.2.size
    omega
end Go.Proofs.Ytikaefjhmgcidaa
/- The document's four bytes and priority, written. -/
namespace Go.Proofs.Ytikaefjhmgcidaa
open Go.RowKit
set_option linter.unusedVariables false
set_option maxRecDepth 100000
set_option maxHeartbeats 4000000

theorem four_in (m : Nat) (w : World) (hm : m < 2147483648) : Calls Try.prog 29 #[.int .i64 (m : Int)] w fun e w' => (∃ sp, e = .returned (.slice sp 4 4) ∧ New w w' sp (be 4 m)) ∧ Fr (fun _ => False) w w' := by
  have K := RPut32 m w (by omega)
  have hw2 : IntKind.u32.wrap (m : Int) = (m : Int) := by rw [IntKind.wrap_u32]; omega
  go_enter Try.func29, Try.ntmps29
  go_wp2_with fail
  refine K.mono ?_
  rintro e w' ⟨⟨sp, rfl, hs⟩, hf⟩
  go_wp2
  go_ret
  exact ⟨⟨_, rfl, hs⟩, hf⟩

theorem priority_core (k fl st pad : Int) (X : List UInt8) (code : Nat) (last inc : Int) (d : Nat) (only : Bool) (u : UInt8) (Y : List (Int × Nat)) (p q : Option Addr) (cp cq : Nat) (w : World) (m : Nat) (hdb : d < 2147483648) (hm : d + (if only then 2147483648 else 0) = m) :
    Calls Try.prog 42 #[.agg #[.int .i64 k, .int .i64 fl, .int .i64 st, .slice p X.length cp, .int .i64 pad, .int .u32 code, .int .i64 last, .int .i64 inc, .int .i64 (d : Int), .bool only, .int .i64 ((u.toNat : Int) + 1), .slice q Y.length cq]] w fun e w' => ∃ a n c, e = .returned (.slice a n c) ∧ n = 5 ∧ Gath w w' (.slice a n c) (be 4 m ++ [u]) := by
  have hub := u.toNat_lt
  have hmb : m < 4294967296 := by rw [← hm]; split <;> omega
  have K2 : Hid (∀ w, Calls Try.prog 43 #[.int .u32 (m : Nat)] w fun e w' => (∃ sp, e = .returned (.slice sp 4 4) ∧ New w w' sp (be 4 m)) ∧ Fr (fun _ => False) w w') := fun w => RPut32 m w hmb
  obtain ⟨j, J1, J2, J3, J4⟩ := info5
  have J1 : Hid _ := J1
  have J2 : Hid _ := J2
  have J3 : Hid _ := J3
  have J4 : Hid _ := J4
  have HL : Hid ((be 4 m).length = 4) := be_length 4 m
  have hw1 : IntKind.i64.wrap (u.toNat : Int) = (u.toNat : Int) := by rw [IntKind.wrap_i64]; omega
  have hw2 : IntKind.u8.wrap (u.toNat : Int) = (u.toNat : Int) := by rw [IntKind.wrap_u8]; omega
  have hw3 : IntKind.u32.wrap (d : Int) = (d : Int) := by rw [IntKind.wrap_u32]; omega
  have hw4 : (d : Int) % 4294967296 = (d : Int) := by omega
  cases only
  case' false =>
    simp at hm
    subst hm
    have hb : d = d := rfl
  case' true =>
    simp at hm
    have hb : IntKind.u32.wrap ((d : Int) + 2147483648) = (m : Int) := by rw [IntKind.wrap_u32]; omega
    have hb2 : ((d : Int) + 2147483648) % 4294967296 = (m : Int) := by omega
    clear hm
  case' false => obtain ⟨W, hW⟩ : ∃ W, W = w.alloc (.cells #[.int .i64 k, .int .i64 fl, .int .i64 st, .slice p X.length cp, .int .i64 pad, .int .u32 code, .int .i64 last, .int .i64 inc, .int .i64 (d : Int), .bool false, .int .i64 ((u.toNat : Int) + 1), .slice q Y.length cq] 36) := ⟨_, rfl⟩
  case' true => obtain ⟨W, hW⟩ : ∃ W, W = w.alloc (.cells #[.int .i64 k, .int .i64 fl, .int .i64 st, .slice p X.length cp, .int .i64 pad, .int .u32 code, .int .i64 last, .int .i64 inc, .int .i64 (d : Int), .bool true, .int .i64 ((u.toNat : Int) + 1), .slice q Y.length cq] 36) := ⟨_, rfl⟩
  all_goals
    have HF : Hid (Fr (fun _ => False) w W) := by rw [hW]; exact (Fr.refl _ _).alloc _
    have c10 : W.cell? ⟨w.heap.size, 10, none⟩ = some (.int .i64 ((u.toNat : Int) + 1)) := by rw [hW]; exact cell_of_heap (heap_alloc_new w _) rfl
    have HC : Hid (∀ w', Fr (fun _ => False) W w' → w'.cell? ⟨w.heap.size, 10, none⟩ = some (.int .i64 ((u.toNat : Int) + 1))) := fun w' hf => (hf.cell (p := ⟨w.heap.size, 10, none⟩) (World.block_lt_of_cell? _ _ c10) id).trans c10
    clear hmb
    go_enter Try.func42, Try.ntmps42
    go_wp2_with (fail)
    rw [← hW]
    clear hW
    go_region_held_law (fun w' => w'.cell? ⟨w.heap.size, 10, none⟩ = some (.int .i64 ((u.toNat : Int) + 1))) (first | exact c10 | exact d10 | exact e10 | go_keep)
      (first
        | (go_at_call 43; refine (K2.out _).mono ?_; rintro e w1 ⟨⟨sp, rfl, hs⟩, hf⟩; have HS : Hid (SrcAt w1 sp _) := hs.1; clear hs; have HG : Hid (Fr (fun _ => False) _ w1) := hf; clear hf; have d10 : w1.cell? ⟨w.heap.size, 10, none⟩ = some (.int .i64 ((u.toNat : Int) + 1)) := (by first | exact HC.out w1 ((Fr.refl _ _).drew.trans HG.out) | exact HC.out w1 (((Fr.refl _ _).drew.alloc _).trans HG.out)))
        | (refine stepR_full (w0 := w) rfl 18 rfl (.tmp 12) (.tmp 17) 31 31 rfl j Try.underlying31 Try.underlying31 J1.out J2.out J3.out J4.out sp 4 _ (by go_simp) (HS.out.oldF ((Fr.refl _ _).alloc _)) HL.out (by exact (HF.out.drew.trans HG.out).alloc _) (some ⟨w1.heap.size, 0, none⟩) 1 1 (by go_simp) [u] (src_one w1 u) rfl (by omega) (by rw [HL.out]; omega) ?_; intro a5 n5 c5 w5 Hn5 G5 F5; have e10 : w5.cell? ⟨w.heap.size, 10, none⟩ = some (.int .i64 ((u.toNat : Int) + 1)) := HC.out w5 (((Fr.refl _ _).drew.trans HG.out).trans (((Fr.refl _ _).alloc _).trans F5.out)))
        | (refine stepR_full (w0 := w) rfl 18 rfl (.tmp 12) (.tmp 17) 31 31 rfl j Try.underlying31 Try.underlying31 J1.out J2.out J3.out J4.out sp 4 _ (by go_simp) HS.out HL.out (by exact (HF.out.drew.alloc _).trans HG.out) (some ⟨W.heap.size, 0, none⟩) 1 1 (by go_simp) [u] (show SrcAt w1 (some ⟨W.heap.size, 0, none⟩) [u] from (src_one W.drew u).oldF HG.out) rfl (by omega) (by rw [HL.out]; omega) ?_; intro a5 n5 c5 w5 Hn5 G5 F5; have e10 : w5.cell? ⟨w.heap.size, 10, none⟩ = some (.int .i64 ((u.toNat : Int) + 1)) := HC.out w5 ((((Fr.refl _ _).drew.alloc _).trans HG.out).trans F5.out)))
    all_goals
      clear e10
      go_wp2
      go_ret
      refine ⟨a5, n5, c5, rfl, ?_, G5⟩
      rw [Hn5.out, HL.out]

theorem priority_in (f : Fra) (p q : Option Addr) (cp cq : Nat) (w : World) (hi : idOk f.dep = true) (h1 : 1 ≤ f.wt) (h2 : f.wt ≤ 256) :
    Calls Try.prog 42 #[.agg #[.int .i64 f.k, .int .i64 f.fl, .int .i64 f.st, .slice p f.X.length cp, .int .i64 f.pad, .int .u32 f.code, .int .i64 f.last, .int .i64 f.inc, .int .i64 f.dep, .bool f.only, .int .i64 f.wt, .slice q f.Y.length cq]] w fun e w' => ∃ a n c, e = .returned (.slice a n c) ∧ n = 5 ∧ Gath w w' (.slice a n c) (be 4 (depW f) ++ [UInt8.ofNat (f.wt - 1).toNat]) := by
  obtain ⟨u, hu⟩ : ∃ u : UInt8, f.wt = (u.toNat : Int) + 1 := ⟨UInt8.ofNat (f.wt - 1).toNat, by simp; omega⟩
  obtain ⟨d, hdd⟩ : ∃ d : Nat, f.dep = d := ⟨f.dep.toNat, by simp [idOk] at hi; omega⟩
  have hdb : d < 2147483648 := by simp [idOk, hdd] at hi; omega
  have hd : be 4 (depW f) ++ [UInt8.ofNat (f.wt - 1).toNat] = be 4 (d + (if f.only then 2147483648 else 0)) ++ [u] := by
    have : (f.wt - 1).toNat = u.toNat := by omega
    simp [depW, this, hdd]
  rw [hd, hu, hdd]
  exact priority_core f.k f.fl f.st f.pad f.X f.code f.last f.inc d f.only u f.Y p q cp cq w _ hdb rfl
end Go.Proofs.Ytikaefjhmgcidaa
