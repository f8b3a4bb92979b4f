/- Contracts of the document's Queue (aqueductref01): Add. -/
import Derived.Test.YtaflgioelblcgaaQ5
import Derived.Deep.RegionLaw
namespace Go.Proofs.Ytaflgioelblcgaa
open Go.RowKit
set_option linter.unusedVariables false

/-- The value u is a chunk that holds c, in a block other than b and own. -/
def RChunk (w : World) (b : Nat) (own : Option Nat) (u : Value) (c : List UInt8) : Prop :=
  0 < c.length ∧ ∃ g o cap, u = .slice (some ⟨g, o, none⟩) c.length cap ∧ c.length ≤ cap ∧ SrcAt w (some ⟨g, o, none⟩) c ∧ (∃ cur, w.heap[g]? = some (.cells cur 5 (0, 0))) ∧ g ≠ b ∧ own ≠ some g

/-- The document's queue in block b, its list of chunks being v, holds the chunks L. -/
def RefQ (w : World) (b : Nat) (v : Value) (L : List (List UInt8)) : Prop :=
  ∃ xs, w.heap[b]? = some (.cells #[v] 48 (0, 0)) ∧ OwnAt w 31 v xs ∧ v.ownBlock ≠ some b ∧ xs.length = L.length ∧ L.length ≤ 4096 ∧
    ∀ (j : Nat) c, L[j]? = some c → ∃ u, xs[j]? = some u ∧ RChunk w b v.ownBlock u c

theorem cell1 {w : World} {b : Nat} {v0 : Value} {t : TypeId} (h : w.heap[b]? = some (.cells #[v0] t (0, 0))) : w.cell? ⟨b, 0, none⟩ = some v0 := cell_of_heap h rfl

theorem RChunk.fr {w w' : World} {b : Nat} {own : Option Nat} {u : Value} {c : List UInt8} (h : RChunk w b own u c) (hf : Fr (fun k => k = b ∨ own = some k) w w') : RChunk w' b own u c := by
  obtain ⟨h0, g, o, cap, e1, e2, e3, e6, e4, e5⟩ := h
  obtain ⟨cur, e6⟩ := e6
  exact ⟨h0, g, o, cap, e1, e2, e3.fr hf (fun a e _ => by cases e; rintro (e | e); exact e4 e; exact e5 e), ⟨cur, by rw [hf.block g (lt_of_heap e6) (by rintro (e | e); exact e4 e; exact e5 e)]; exact e6⟩, e4, e5⟩

theorem RChunk.own {w : World} {b : Nat} {own own' : Option Nat} {u : Value} {c : List UInt8} (h : RChunk w b own u c) (ho : own' = own ∨ ∃ k, own' = some k ∧ w.heap.size ≤ k) : RChunk w b own' u c := by
  obtain ⟨h0, g, o, cap, e1, e2, e3, e6, e4, e5⟩ := h
  refine ⟨h0, g, o, cap, e1, e2, e3, e6, e4, ?_⟩
  have hlt := lt_of_heap e6.choose_spec
  rcases ho with rfl | ⟨k, rfl, hk⟩
  · exact e5
  · intro e; cases e; omega

theorem RChunk.step {w w' : World} {b : Nat} {own own' : Option Nat} {u : Value} {c : List UInt8} (h : RChunk w b own u c) (hf : Fr (fun k => k = b ∨ own = some k) w w') (ho : own' = own ∨ ∃ k, own' = some k ∧ w.heap.size ≤ k) : RChunk w' b own' u c := by
  have h1 := h.own ho
  have h2 := h.fr hf
  obtain ⟨h0, g, o, cap, e1, e2, e3, e6, e4, e5⟩ := h1
  obtain ⟨-, g2, o2, cap2, f1, f2, f3, f6, f4, f5⟩ := h2
  subst e1
  cases f1
  exact ⟨h0, g, o, cap, rfl, e2, f3, f6, e4, e5⟩

theorem radd_close {w w4 w5 : World} {b : Nat} {v v5 : Value} {L : List (List UInt8)} {xs : List Value} {bs : List UInt8} {a4 : Option Addr} {n4 c4 : Nat} {ob : Obj}
    (hbs : b < w.heap.size) (hL : L.length < 4096) (hown : OwnAt w 31 v xs) (hvb : v.ownBlock ≠ some b) (hxl : xs.length = L.length)
    (hch : ∀ (j : Nat) c, L[j]? = some c → ∃ u, xs[j]? = some u ∧ RChunk w b v.ownBlock u c) (h0 : 0 < bs.length)
    (hf4 : Fr (fun _ => False) w w4) (O4 : OwnAt w4 5 (.slice a4 n4 c4) (bv bs)) (hk4 : ∀ k, (Value.slice a4 n4 c4).ownBlock = some k → w.heap.size ≤ k)
    (hf5 : Fr (fun k => v.ownBlock = some k) (w4.alloc ob) w5) (O5 : OwnAt w5 31 v5 (xs ++ [.slice a4 n4 c4])) (hk5 : v5.ownBlock = v.ownBlock ∨ ∃ k, v5.ownBlock = some k ∧ (w4.alloc ob).heap.size ≤ k)
    (hb5 : w5.heap[b]? = some (.cells #[v] 48 (0, 0))) :
    (∃ xs', (w5.setCell ⟨b, 0, none⟩ v5).heap[b]? = some (.cells #[v5] 48 (0, 0)) ∧ OwnAt (w5.setCell ⟨b, 0, none⟩ v5) 31 v5 xs' ∧ v5.ownBlock ≠ some b ∧ xs'.length = (L ++ [bs]).length ∧ (L ++ [bs]).length ≤ 4096 ∧
      ∀ (j : Nat) c, (L ++ [bs])[j]? = some c → ∃ u, xs'[j]? = some u ∧ RChunk (w5.setCell ⟨b, 0, none⟩ v5) b v5.ownBlock u c) ∧
      Fr (fun k => k = b ∨ v.ownBlock = some k) w (w5.setCell ⟨b, 0, none⟩ v5) ∧ (v5.ownBlock = v.ownBlock ∨ ∃ k, v5.ownBlock = some k ∧ w.heap.size ≤ k) := by
  have hs4 : w.heap.size ≤ w4.heap.size := hf4.size
  have hsa : (w4.alloc ob).heap.size = w4.heap.size + 1 := by simp
  have hk5' : v5.ownBlock = v.ownBlock ∨ ∃ k, v5.ownBlock = some k ∧ w.heap.size ≤ k := hk5.imp id (fun ⟨k, e, h⟩ => ⟨k, e, by omega⟩)
  have hvb5 : v5.ownBlock ≠ some b := by
    rcases hk5' with h | ⟨k, h, hk⟩
    · rw [h]; exact hvb
    · rw [h]; intro e; cases e; omega
  have hfall : Fr (fun k => k = b ∨ v.ownBlock = some k) w (w5.setCell ⟨b, 0, none⟩ v5) :=
    Fr.setS (((hf4.mono (fun _ _ e => e.elim)).alloc ob).trans (hf5.mono (fun _ _ e => .inr e))) (.inl rfl) _ _
  refine ⟨⟨xs ++ [.slice a4 n4 c4], setCell_heap _ hb5, O5.fr (S := fun k => k = b) (Fr.setB (Fr.refl _ _) _ _) (fun k hk e => hvb5 (by rw [hk, e])), hvb5, by simp [hxl], by simp; omega, fun j c hj => ?_⟩, hfall, hk5'⟩
  by_cases hjl : j < L.length
  · rw [List.getElem?_append_left hjl] at hj
    obtain ⟨u, hu, hc⟩ := hch j c hj
    exact ⟨u, by rw [List.getElem?_append_left (by omega)]; exact hu, hc.step hfall hk5'⟩
  · rw [List.getElem?_append_right (by omega)] at hj
    have hj0 : j - L.length = 0 := by
      have := (List.getElem?_eq_some_iff.1 hj).1
      simp at this; omega
    rw [hj0] at hj
    simp at hj
    subst hj
    refine ⟨.slice a4 n4 c4, by rw [List.getElem?_append_right (by omega), hxl, hj0]; rfl, h0, ?_⟩
    obtain ⟨g, off, cap, e, -, -⟩ := O4.cells 0 (.int .u8 (bs[0]).toNat) ((bv_get _ _ _).2 ⟨bs[0], by simp, rfl⟩)
    have hl4 := own_len O4
    cases e
    have hg := hk4 g rfl
    have hglt : g < w4.heap.size := O4.lt g rfl
    have hvg : v.ownBlock ≠ some g := fun e => by have := hown.lt g e; omega
    refine ⟨g, off, c4, by rw [bv_length], by omega, ?_, ?_, by omega, ?_⟩
    · have h45 : Fr (fun k => k = b ∨ v.ownBlock = some k) w4 (w5.setCell ⟨b, 0, none⟩ v5) := Fr.setS ((((Fr.refl _ _).alloc ob)).trans (hf5.mono (fun _ _ e => .inr e))) (.inl rfl) _ _
      exact (own_src O4).fr h45 (fun a e _ => by cases e; rintro (e | e); exact absurd (show g = b from e) (by omega); exact hvg e)
    · have h45 : Fr (fun k => k = b ∨ v.ownBlock = some k) w4 (w5.setCell ⟨b, 0, none⟩ v5) := Fr.setS ((((Fr.refl _ _).alloc ob)).trans (hf5.mono (fun _ _ e => .inr e))) (.inl rfl) _ _
      rcases O4 with ⟨h, _⟩ | ⟨g2, off2, cap2, cur, h, hgr, _⟩
      · cases h
      · cases h
        exact ⟨cur, by rw [h45.block g hglt (by rintro (e | e); omega; exact hvg e)]; exact hgr⟩
    · rcases hk5 with h | ⟨k, h, hk⟩
      · rw [h]; exact hvg
      · rw [h]; intro e; cases e; omega

theorem RefQ.fr {w w' : World} {b : Nat} {v : Value} {L : List (List UInt8)} (h : RefQ w b v L) (hf : Fr (fun _ => False) w w') : RefQ w' b v L := by
  obtain ⟨xs, h1, h2, h3, h4, h5, h6⟩ := h
  refine ⟨xs, by rw [hf.block b (lt_of_heap h1) id]; exact h1, h2.fr hf (fun _ _ => id), h3, h4, h5, fun j c hj => ?_⟩
  obtain ⟨u, hu, hc⟩ := h6 j c hj
  exact ⟨u, hu, hc.fr (hf.mono (fun _ _ e => e.elim))⟩

theorem RefQ.cells {w : World} {b : Nat} {v : Value} {L : List (List UInt8)} (h : RefQ w b v L) : (∃ a cap, v = .slice a L.length cap ∧ w.cell? ⟨b, 0, none⟩ = some (.slice a L.length cap)) ∧ L.length ≤ 4096 := by
  obtain ⟨xs, hbk, hown, hvb, hxl, hL, hch⟩ := h
  have c0 := cell1 hbk
  obtain ⟨a, cap, hv, hcap⟩ := hown.form
  rw [hxl] at hv
  subst hv
  exact ⟨⟨a, cap, rfl, c0⟩, hL⟩

set_option maxRecDepth 100000 in
theorem radd_full (b : Nat) (v : Value) (L : List (List UInt8)) (sp : Option Addr) (slen scap : Nat) (w : World) (hq : RefQ w b v L) (hL : L.length = 4096) :
    Calls Try.prog 20 #[.pointer (some ⟨b, 0, none⟩), .slice sp slen scap] w fun e w' => e = .returned (.int .i64 9) ∧ w' = w := by
  obtain ⟨⟨a, cap, rfl, c0⟩, -⟩ := hq.cells
  rw [hL] at c0
  clear hq hL
  go_enter Try.func20, Try.ntmps20
  go_wp2
  go_ret
  exact ⟨rfl, rfl⟩

set_option maxRecDepth 100000 in
theorem radd_empty (b : Nat) (v : Value) (L : List (List UInt8)) (sp : Option Addr) (scap : Nat) (w : World) (hq : RefQ w b v L) (hL : L.length < 4096) :
    Calls Try.prog 20 #[.pointer (some ⟨b, 0, none⟩), .slice sp 0 scap] w fun e w' => e = .returned (.int .i64 0) ∧ w' = w := by
  obtain ⟨⟨a, cap, rfl, c0⟩, -⟩ := hq.cells
  have hL' : (L.length : Int) < 4096 := by omega
  clear hq
  go_enter Try.func20, Try.ntmps20
  go_wp2
  go_ret
  exact ⟨rfl, rfl⟩

set_option maxHeartbeats 1000000 in
set_option maxRecDepth 100000 in
theorem radd_some (b : Nat) (v : Value) (L : List (List UInt8)) (sp : Option Addr) (slen scap : Nat) (bs : List UInt8) (w : World) (hq : RefQ w b v L) (hL : L.length < 4096)
    (hs : SrcAt w sp bs) (hlen : bs.length = slen) (h0 : 0 < slen) (hmax : slen ≤ 1048576) :
    Calls Try.prog 20 #[.pointer (some ⟨b, 0, none⟩), .slice sp slen scap] w fun e w' => e = .returned (.int .i64 0) ∧
      ∃ v', RefQ w' b v' (L ++ [bs]) ∧ Fr (fun k => k = b ∨ v.ownBlock = some k) w w' ∧ (v'.ownBlock = v.ownBlock ∨ ∃ k, v'.ownBlock = some k ∧ w.heap.size ≤ k) := by
  obtain ⟨⟨a, cap, hv, c0⟩, -⟩ := hq.cells
  have HQ : Hid (RefQ w b v L) := hq
  have HV : Hid (v = .slice a L.length cap) := hv
  obtain ⟨xs, hbk, hown, hvb, hxl, -, hch⟩ := hq
  rw [hv] at hown hvb
  have hL' : (L.length : Int) < 4096 := by omega
  have h0' : (0 : Int) < (slen : Int) := by omega
  have hbs := lt_of_heap hbk
  obtain ⟨i, hi1, hi2, hi3, hi4⟩ := info5
  have J1 : Hid (Try.prog.info? 5 = some i) := hi1
  have J2 : Hid (i.zero = some (.int .u8 0)) := hi2
  have J3 : Hid (i.size = 1) := hi3
  have J4 : Hid (i.bytes = 1) := hi4
  clear hi1 hi2 hi3 hi4
  obtain ⟨i', hi1, hi2, hi3, hi4⟩ := info31
  have I1 : Hid (Try.prog.info? 31 = some i') := hi1
  have I2 : Hid (i'.zero = some (.slice none 0 0)) := hi2
  have I3 : Hid (i'.size = 1) := hi3
  have IBY : Hid ((xs.length + 1) * i'.bytes ≤ 140737488355328) := by show _ ≤ _; rw [hi4, hxl]; omega
  have I63 : Hid (xs.length + 1 ≤ maxLen) := by show _ ≤ _; rw [hxl]; unfold maxLen; omega
  clear hi1 hi2 hi3 hi4
  have HXL : Hid (xs.length = L.length) := hxl
  have HVB : Hid ((Value.slice a L.length cap).ownBlock ≠ some b) := hvb
  have hE : OwnAt (w.drew.alloc (.cells #[] 5)) 5 (.slice (some ⟨w.heap.size, 0, none⟩) 0 0) (bv []) := own_empty w.drew 5
  have q0 : SrcAt (w.drew.alloc (.cells #[] 5)) sp bs := hs.fr (S := fun _ => False) ((Fr.refl _ _).drew.alloc _) (fun _ _ _ => id)
  have HBY : Hid (([] : List UInt8).length + slen ≤ 140737488355328) := by show _ ≤ _; simp; omega
  have HLEN : Hid (bs.length = slen) := hlen
  have HOWN : Hid (OwnAt w 31 (.slice a L.length cap) xs) := hown
  have HBK : Hid (w.heap[b]? = some (.cells #[v] 48 (0, 0))) := hbk
  have HCH : Hid (∀ (j : Nat) c, L[j]? = some c → ∃ u, xs[j]? = some u ∧ RChunk w b v.ownBlock u c) := hch
  clear hv hown hvb hxl hbk hch hs hlen
  have HC1 : Hid (∀ a4 n4 c4 w4, OwnAt w4 5 (.slice a4 n4 c4) (bv ([] ++ bs)) → Fr (fun k => (Value.slice (some ⟨w.heap.size, 0, none⟩) 0 0).ownBlock = some k) (w.drew.alloc (.cells #[] 5)) w4 →
      (w4.cell? ⟨b, 0, none⟩ = some (.slice a L.length cap) ∧ ∀ o, (w4.alloc o).cell? ⟨b, 0, none⟩ = some (.slice a L.length cap)) ∧ Hid (Fr (fun _ => False) w w4) ∧ OwnAt (w4.alloc (.cells #[.slice a4 n4 c4] 31)) 31 (.slice a L.length cap) xs ∧ Src Try.prog 1 39 (.slice (some ⟨w4.heap.size, 0, none⟩) 1 1) 1 [.slice a4 n4 c4] (w4.alloc (Obj.cells #[.slice a4 n4 c4] 31))) := by
    intro a4 n4 c4 w4 O4 hf4
    have h1 : Fr (fun k => (Value.slice (some ⟨w.heap.size, 0, none⟩) 0 0).ownBlock = some k) w w4 := Fr.trans (b := w.drew.alloc (.cells #[] 5)) ((Fr.refl _ _).drew.alloc _) hf4
    have h2 : Fr (fun _ => False) w w4 := h1.mono (fun k hk e => by simp [Value.ownBlock] at e; omega)
    have hbk4 : w4.heap[b]? = some (.cells #[.slice a L.length cap] 48 (0, 0)) := (h2.block b hbs id).trans (HBK.out.trans (by rw [HV.out]))
    refine ⟨⟨cell1 hbk4, fun o => cell1 ((Below.heap_alloc w4 _ b (lt_of_heap hbk4)).trans hbk4)⟩, h2, HOWN.out.fr (S := fun _ => False) (h2.alloc _) (fun _ _ => id), ?_⟩
    exact Src.ofSlice _ Try.underlying39 _ _ _ _ (by simp) (fun j u hj => by
        rw [add_none]
        refine cell_of_heap (heap_alloc_new w4 _) ?_
        simpa using hj) (by simp [Value.oneCell'])
  have HC2 : Hid (∀ w4 o w5, Fr (fun _ => False) w w4 → Fr (fun k => (Value.slice a L.length cap).ownBlock = some k) (w4.alloc o) w5 → w5.cell? ⟨b, 0, none⟩ = some (.slice a L.length cap) ∧ w5.frozen? ⟨b, 0, none⟩ = false ∧ Hid (w5.heap[b]? = some (.cells #[v] 48 (0, 0)))) := by
    intro w4 o w5 h4 h5
    have hb5 : w5.heap[b]? = some (.cells #[v] 48 (0, 0)) := (h5.block b (by simp; have := h4.size; omega) HVB.out).trans (((h4.alloc o).block b hbs id).trans HBK.out)
    exact ⟨by rw [cell1 hb5, HV.out], frozen_of_heap hb5, hb5⟩
  have c0' : ∀ o, (w.drew.alloc o).cell? ⟨b, 0, none⟩ = some (.slice a L.length cap) := fun o => (World.cell?_alloc_lt w.drew _ _ hbs).trans c0
  go_enter Try.func20, Try.ntmps20
  go_wp2_with fail
  go_region_law (first | (refine step_append_bytes rfl (.tmp 19) (.tmp 20) 31 31 rfl 5 i Try.underlying31 Try.underlying31 J1.out J2.out J3.out J4.out (.slice (some ⟨w.heap.size, 0, none⟩) 0 0) [] (by go_simp) hE sp slen scap (by go_simp) bs q0 HLEN.out HBY.out ?_; intro a4 n4 c4 w4 Hn4 O4 hf4 hk4; obtain ⟨⟨r1, r1'⟩, HF4, O4', S4⟩ := HC1.out a4 n4 c4 w4 O4 hf4.out) | (refine step_append_at rfl (.tmp 18) (.tmp 22) 39 39 rfl 31 i' (.slice none 0 0) Try.underlying39 I1.out I2.out I3.out rfl (.slice a L.length cap) xs (by go_simp) O4' (.slice (some ⟨w4.heap.size, 0, none⟩) 1 1) (by go_simp) 1 [.slice a4 n4 c4] S4 IBY.out I63.out ?_; intro a5 c5 w5 O5 hf5 hk5; obtain ⟨t1, t2, HB5⟩ := HC2.out w4 _ w5 HF4.out hf5.out))
  all_goals
    have HF5 : Hid (Fr (fun k => (Value.slice a L.length cap).ownBlock = some k) (w4.alloc (.cells #[.slice a4 n4 c4] 31)) w5) := hf5
    have HK5 : Hid ((Value.slice a5 (xs.length + 1) c5).ownBlock = (Value.slice a L.length cap).ownBlock ∨ ∃ k, (Value.slice a5 (xs.length + 1) c5).ownBlock = some k ∧ (w4.alloc (.cells #[.slice a4 n4 c4] 31)).heap.size ≤ k) := hk5
    clear hf5 hk5 r1 r1' t1 t2 S4 O4' HC1 HC2 c0' q0 hE
    go_wp2
    go_ret
    have hv := HV.out
    rw [← hv] at HF5 HK5
    refine ⟨rfl, _, radd_close hbs hL (by have := HOWN.out; rw [← hv] at this; exact this) (by have := HVB.out; rw [← hv] at this; exact this) HXL.out HCH.out (by rw [HLEN.out]; exact h0) HF4.out O4 (fun k e => ?_) HF5.out O5 HK5.out HB5.out⟩
    rcases hk4.out with h | ⟨k', h, hk'⟩
    · rw [h] at e; simp [Value.ownBlock] at e; omega
    · rw [h] at e; cases e; simp at hk'; omega
end Go.Proofs.Ytaflgioelblcgaa
