/- What stands behind a head, by the document: kinds without padding. -/
import Derived.Test.YtikaefjhmgcidaaZMRz
import Derived.Test.YtikaefjhmgcidaaZMFg
import Derived.Test.YtikaefjhmgcidaaZRx
namespace Go.Proofs.Ytikaefjhmgcidaa
open Go.RowKit
set_option linter.unusedVariables false
set_option maxRecDepth 100000
set_option maxHeartbeats 4000000

/-- What 'body' answers. -/
def BodyAs (w : World) (X : List UInt8) (e : Ending) (w' : World) : Prop := ∃ a n c, e = .returned (.slice a n c) ∧ X.length = n ∧ SrcAt w' a X ∧ Fr (fun _ => False) w w'
theorem body_3 (fl st : Int) (X : List UInt8) (pad : Int) (code : Nat) (last : Int) (inc : Int) (dep wt : Int) (only : Bool) (Y : List (Int × Nat)) (p q : Option Addr) (cp cq : Nat) (w : World) (h0 : 0 ≤ fl) (h1 : fl ≤ 255) (hX : SrcAt w p X) (hXl : X.length < 140737488355328) (hco : code < 4294967296) :
    Calls Try.prog 27 #[.agg #[.int .i64 3, .int .i64 fl, .int .i64 st, .slice p X.length cp, .int .i64 pad, .int .u32 code, .int .i64 last, .int .i64 inc, .int .i64 dep, .bool only, .int .i64 wt, .slice q Y.length cq]] w fun e w' => BodyAs w (be 4 code) e w' := by
  obtain ⟨W, hW⟩ : ∃ W, W = w.alloc (.cells #[.int .i64 3, .int .i64 fl, .int .i64 st, .slice p X.length cp, .int .i64 pad, .int .u32 code, .int .i64 last, .int .i64 inc, .int .i64 dep, .bool only, .int .i64 wt, .slice q Y.length cq] 36) := ⟨_, rfl⟩
  have HF : Hid (Fr (fun _ => False) w W) := by rw [hW]; exact (Fr.refl _ _).alloc _
  have hA : W.heap[w.heap.size]? = some (.cells #[.int .i64 3, .int .i64 fl, .int .i64 st, .slice p X.length cp, .int .i64 pad, .int .u32 code, .int .i64 last, .int .i64 inc, .int .i64 dep, .bool only, .int .i64 wt, .slice q Y.length cq] 36 (0, 0)) := by rw [hW]; exact heap_alloc_new w _
  have HA : Hid (∀ w', Fr (fun _ => False) W w' → w'.heap[w.heap.size]? = some (.cells #[.int .i64 3, .int .i64 fl, .int .i64 st, .slice p X.length cp, .int .i64 pad, .int .u32 code, .int .i64 last, .int .i64 inc, .int .i64 dep, .bool only, .int .i64 wt, .slice q Y.length cq] 36 (0, 0))) := fun w' hf => (hf.block _ (lt_of_heap hA) id).trans hA
  obtain ⟨c0, c1, c2, c3, c4, c5, c6, c7, c8, c9, c10, c11⟩ := cells12 hA
  have HX : Hid (SrcAt W p X) := hX.oldF HF.out
  have K3 := fun w => rpadded_in 3 w
  have K4 : ∀ w, Calls Try.prog 40 #[.int .i64 fl, .int .i64 8] w fun e w' => e = .returned (.bool (has fl 8)) ∧ w = w' := fun w => has_in fl 8 w (by omega) h0 h1
  have K5 := fun w => prio_in 3 fl w h0 h1
  rw [show canP 3 = false by decide] at K3
  rw [show prioB 3 fl = false by simp [prioB]] at K5
  have KC : Hid (∀ w, Calls Try.prog 43 #[.int .u32 (code : Nat)] w fun e w' => (∃ sp, e = .returned (.slice sp 4 4) ∧ New w w' sp (be 4 code)) ∧ Fr (fun _ => False) w w') := fun w => RPut32 code w hco
  obtain ⟨j, J1, J2, J3, J4⟩ := info5
  have J1 : Hid _ := J1
  have J2 : Hid _ := J2
  have J3 : Hid _ := J3
  have J4 : Hid _ := J4
  clear hA hX
  go_enter Try.func27, Try.ntmps27
  go_wp2_with (fail)
  rw [← hW]
  clear hW
  go_wp2_with first
    | (go_at_call 39; refine (K3 _).mono ?_; rintro e w' ⟨rfl, rfl⟩)
    | (go_at_call 40; refine (K4 _).mono ?_; rintro e w' ⟨rfl, rfl⟩)
    | (go_at_call 41; refine (K5 _).mono ?_; rintro e w' ⟨rfl, rfl⟩)
    | (go_at_call 43; refine (KC.out _).mono ?_; rintro e wc ⟨⟨sc, rfl, hsc⟩, hfc⟩)
  go_ret
  exact ⟨sc, 4, 4, rfl, be_length _ _, hsc.1, HF.out.trans hfc⟩

theorem body_8 (fl st : Int) (X : List UInt8) (pad : Int) (code : Nat) (last : Int) (im : Nat) (dep wt : Int) (only : Bool) (Y : List (Int × Nat)) (p q : Option Addr) (cp cq : Nat) (w : World) (h0 : 0 ≤ fl) (h1 : fl ≤ 255) (hX : SrcAt w p X) (hXl : X.length < 140737488355328) (him : im < 2147483648) :
    Calls Try.prog 27 #[.agg #[.int .i64 8, .int .i64 fl, .int .i64 st, .slice p X.length cp, .int .i64 pad, .int .u32 code, .int .i64 last, .int .i64 (im : Int), .int .i64 dep, .bool only, .int .i64 wt, .slice q Y.length cq]] w fun e w' => BodyAs w (be 4 im) e w' := by
  obtain ⟨W, hW⟩ : ∃ W, W = w.alloc (.cells #[.int .i64 8, .int .i64 fl, .int .i64 st, .slice p X.length cp, .int .i64 pad, .int .u32 code, .int .i64 last, .int .i64 (im : Int), .int .i64 dep, .bool only, .int .i64 wt, .slice q Y.length cq] 36) := ⟨_, rfl⟩
  have HF : Hid (Fr (fun _ => False) w W) := by rw [hW]; exact (Fr.refl _ _).alloc _
  have hA : W.heap[w.heap.size]? = some (.cells #[.int .i64 8, .int .i64 fl, .int .i64 st, .slice p X.length cp, .int .i64 pad, .int .u32 code, .int .i64 last, .int .i64 (im : Int), .int .i64 dep, .bool only, .int .i64 wt, .slice q Y.length cq] 36 (0, 0)) := by rw [hW]; exact heap_alloc_new w _
  have HA : Hid (∀ w', Fr (fun _ => False) W w' → w'.heap[w.heap.size]? = some (.cells #[.int .i64 8, .int .i64 fl, .int .i64 st, .slice p X.length cp, .int .i64 pad, .int .u32 code, .int .i64 last, .int .i64 (im : Int), .int .i64 dep, .bool only, .int .i64 wt, .slice q Y.length cq] 36 (0, 0))) := fun w' hf => (hf.block _ (lt_of_heap hA) id).trans hA
  obtain ⟨c0, c1, c2, c3, c4, c5, c6, c7, c8, c9, c10, c11⟩ := cells12 hA
  have HX : Hid (SrcAt W p X) := hX.oldF HF.out
  have K3 := fun w => rpadded_in 8 w
  have K4 : ∀ w, Calls Try.prog 40 #[.int .i64 fl, .int .i64 8] w fun e w' => e = .returned (.bool (has fl 8)) ∧ w = w' := fun w => has_in fl 8 w (by omega) h0 h1
  have K5 := fun w => prio_in 8 fl w h0 h1
  rw [show canP 8 = false by decide] at K3
  rw [show prioB 8 fl = false by simp [prioB]] at K5
  have KI : Hid (∀ w, Calls Try.prog 29 #[.int .i64 (im : Nat)] w fun e w' => (∃ sp, e = .returned (.slice sp 4 4) ∧ New w w' sp (be 4 im)) ∧ Fr (fun _ => False) w w') := fun w => four_in im w him
  obtain ⟨j, J1, J2, J3, J4⟩ := info5
  have J1 : Hid _ := J1
  have J2 : Hid _ := J2
  have J3 : Hid _ := J3
  have J4 : Hid _ := J4
  clear hA hX
  go_enter Try.func27, Try.ntmps27
  go_wp2_with (fail)
  rw [← hW]
  clear hW
  go_wp2_with first
    | (go_at_call 39; refine (K3 _).mono ?_; rintro e w' ⟨rfl, rfl⟩)
    | (go_at_call 40; refine (K4 _).mono ?_; rintro e w' ⟨rfl, rfl⟩)
    | (go_at_call 41; refine (K5 _).mono ?_; rintro e w' ⟨rfl, rfl⟩)
    | (go_at_call 29; refine (KI.out _).mono ?_; rintro e wc ⟨⟨sc, rfl, hsc⟩, hfc⟩)
  go_ret
  exact ⟨sc, 4, 4, rfl, be_length _ _, hsc.1, HF.out.trans hfc⟩

theorem body_2 (fl st : Int) (X : List UInt8) (pad : Int) (code : Nat) (last : Int) (inc : Int) (d : Nat) (v : UInt8) (only : Bool) (Y : List (Int × Nat)) (p q : Option Addr) (cp cq : Nat) (w : World) (h0 : 0 ≤ fl) (h1 : fl ≤ 255) (hX : SrcAt w p X) (hXl : X.length < 140737488355328) (m : Nat) (hdb : d < 2147483648) (hm : d + (if only then 2147483648 else 0) = m) :
    Calls Try.prog 27 #[.agg #[.int .i64 2, .int .i64 fl, .int .i64 st, .slice p X.length cp, .int .i64 pad, .int .u32 code, .int .i64 last, .int .i64 inc, .int .i64 (d : Int), .bool only, .int .i64 ((v.toNat : Int) + 1), .slice q Y.length cq]] w fun e w' => BodyAs w (([]) ++ (be 4 m ++ [v])) e w' := by
  obtain ⟨W, hW⟩ : ∃ W, W = w.alloc (.cells #[.int .i64 2, .int .i64 fl, .int .i64 st, .slice p X.length cp, .int .i64 pad, .int .u32 code, .int .i64 last, .int .i64 inc, .int .i64 (d : Int), .bool only, .int .i64 ((v.toNat : Int) + 1), .slice q Y.length cq] 36) := ⟨_, rfl⟩
  have HF : Hid (Fr (fun _ => False) w W) := by rw [hW]; exact (Fr.refl _ _).alloc _
  have hA : W.heap[w.heap.size]? = some (.cells #[.int .i64 2, .int .i64 fl, .int .i64 st, .slice p X.length cp, .int .i64 pad, .int .u32 code, .int .i64 last, .int .i64 inc, .int .i64 (d : Int), .bool only, .int .i64 ((v.toNat : Int) + 1), .slice q Y.length cq] 36 (0, 0)) := by rw [hW]; exact heap_alloc_new w _
  have HA : Hid (∀ w', Fr (fun _ => False) W w' → w'.heap[w.heap.size]? = some (.cells #[.int .i64 2, .int .i64 fl, .int .i64 st, .slice p X.length cp, .int .i64 pad, .int .u32 code, .int .i64 last, .int .i64 inc, .int .i64 (d : Int), .bool only, .int .i64 ((v.toNat : Int) + 1), .slice q Y.length cq] 36 (0, 0))) := fun w' hf => (hf.block _ (lt_of_heap hA) id).trans hA
  obtain ⟨c0, c1, c2, c3, c4, c5, c6, c7, c8, c9, c10, c11⟩ := cells12 hA
  have HX : Hid (SrcAt W p X) := hX.oldF HF.out
  have K3 := fun w => rpadded_in 2 w
  have K4 : ∀ w, Calls Try.prog 40 #[.int .i64 fl, .int .i64 8] w fun e w' => e = .returned (.bool (has fl 8)) ∧ w = w' := fun w => has_in fl 8 w (by omega) h0 h1
  have K5 := fun w => prio_in 2 fl w h0 h1
  rw [show canP 2 = false by decide] at K3
  rw [show prioB 2 fl = true by simp [prioB]] at K5
  have KP : Hid (∀ w, Calls Try.prog 42 #[.agg #[.int .i64 2, .int .i64 fl, .int .i64 st, .slice p X.length cp, .int .i64 pad, .int .u32 code, .int .i64 last, .int .i64 inc, .int .i64 (d : Int), .bool only, .int .i64 ((v.toNat : Int) + 1), .slice q Y.length cq]] w fun e w' => ∃ a n c, e = .returned (.slice a n c) ∧ n = 5 ∧ Gath w w' (.slice a n c) (be 4 m ++ [v])) := fun w => priority_core 2 fl st pad X code last inc d only v Y p q cp cq w m hdb hm
  clear hm
  obtain ⟨j, J1, J2, J3, J4⟩ := info5
  have J1 : Hid _ := J1
  have J2 : Hid _ := J2
  have J3 : Hid _ := J3
  have J4 : Hid _ := J4
  clear hA hX
  go_enter Try.func27, Try.ntmps27
  go_wp2_with (fail)
  rw [← hW]
  clear hW
  go_wp2_with first
    | (go_at_call 39; refine (K3 _).mono ?_; rintro e w' ⟨rfl, rfl⟩)
    | (go_at_call 40; refine (K4 _).mono ?_; rintro e w' ⟨rfl, rfl⟩)
    | (go_at_call 41; refine (K5 _).mono ?_; rintro e w' ⟨rfl, rfl⟩)
    | (go_at_call 42; refine (KP.out _).mono ?_; rintro e wp ⟨ap, np, dp, rfl, hnp, hGp⟩; have HP : Hid (np = 5 ∧ Gath W wp (.slice ap np dp) (be 4 m ++ [v])) := ⟨hnp, hGp⟩; clear hnp hGp)
    | (refine wpList_gather (w0 := W) rfl (.tmp 28) (.tmp 30) 31 31 rfl j Try.underlying31 Try.underlying31 J1.out J2.out J3.out J4.out (.slice none 0 0) ([]) (by go_simp) (Gath.ofNil HP.out.2.2.2) ap np dp (by go_simp) (be 4 m ++ [v]) (own_src HP.out.2.1) (by have := HP.out.1; simp [be_length]; omega) (by have := HP.out.1; first | (simp; done) | (simp; omega) | (simp [be_length]; done) | (simp [be_length]; omega)) ?_; intro a1 n1 d1 w1 N1 G1 F1; clear c0 c1 c2 c3 c4 c5 c6 c7 c8 c9 c10 c11; obtain ⟨c0, c1, c2, c3, c4, c5, c6, c7, c8, c9, c10, c11⟩ := cells12 (HA.out w1 G1.2.2))
  go_ret
  exact ⟨a1, n1, d1, rfl, (own_len G1.1).1.symm, own_src G1.1, HF.out.trans G1.2.2⟩

theorem body_7 (fl st : Int) (X : List UInt8) (pad : Int) (code : Nat) (lm : Nat) (inc : Int) (dep wt : Int) (only : Bool) (Y : List (Int × Nat)) (p q : Option Addr) (cp cq : Nat) (w : World) (h0 : 0 ≤ fl) (h1 : fl ≤ 255) (hX : SrcAt w p X) (hXl : X.length < 140737488355328) (hco : code < 4294967296) (hlm : lm < 2147483648) :
    Calls Try.prog 27 #[.agg #[.int .i64 7, .int .i64 fl, .int .i64 st, .slice p X.length cp, .int .i64 pad, .int .u32 code, .int .i64 (lm : Int), .int .i64 inc, .int .i64 dep, .bool only, .int .i64 wt, .slice q Y.length cq]] w fun e w' => BodyAs w (((([]) ++ (be 4 lm)) ++ (be 4 code)) ++ (X)) e w' := by
  obtain ⟨W, hW⟩ : ∃ W, W = w.alloc (.cells #[.int .i64 7, .int .i64 fl, .int .i64 st, .slice p X.length cp, .int .i64 pad, .int .u32 code, .int .i64 (lm : Int), .int .i64 inc, .int .i64 dep, .bool only, .int .i64 wt, .slice q Y.length cq] 36) := ⟨_, rfl⟩
  have HF : Hid (Fr (fun _ => False) w W) := by rw [hW]; exact (Fr.refl _ _).alloc _
  have hA : W.heap[w.heap.size]? = some (.cells #[.int .i64 7, .int .i64 fl, .int .i64 st, .slice p X.length cp, .int .i64 pad, .int .u32 code, .int .i64 (lm : Int), .int .i64 inc, .int .i64 dep, .bool only, .int .i64 wt, .slice q Y.length cq] 36 (0, 0)) := by rw [hW]; exact heap_alloc_new w _
  have HA : Hid (∀ w', Fr (fun _ => False) W w' → w'.heap[w.heap.size]? = some (.cells #[.int .i64 7, .int .i64 fl, .int .i64 st, .slice p X.length cp, .int .i64 pad, .int .u32 code, .int .i64 (lm : Int), .int .i64 inc, .int .i64 dep, .bool only, .int .i64 wt, .slice q Y.length cq] 36 (0, 0))) := fun w' hf => (hf.block _ (lt_of_heap hA) id).trans hA
  obtain ⟨c0, c1, c2, c3, c4, c5, c6, c7, c8, c9, c10, c11⟩ := cells12 hA
  have HX : Hid (SrcAt W p X) := hX.oldF HF.out
  have K3 := fun w => rpadded_in 7 w
  have K4 : ∀ w, Calls Try.prog 40 #[.int .i64 fl, .int .i64 8] w fun e w' => e = .returned (.bool (has fl 8)) ∧ w = w' := fun w => has_in fl 8 w (by omega) h0 h1
  have K5 := fun w => prio_in 7 fl w h0 h1
  rw [show canP 7 = false by decide] at K3
  rw [show prioB 7 fl = false by simp [prioB]] at K5
  have KC : Hid (∀ w, Calls Try.prog 43 #[.int .u32 (code : Nat)] w fun e w' => (∃ sp, e = .returned (.slice sp 4 4) ∧ New w w' sp (be 4 code)) ∧ Fr (fun _ => False) w w') := fun w => RPut32 code w hco
  have KL : Hid (∀ w, Calls Try.prog 29 #[.int .i64 (lm : Nat)] w fun e w' => (∃ sp, e = .returned (.slice sp 4 4) ∧ New w w' sp (be 4 lm)) ∧ Fr (fun _ => False) w w') := fun w => four_in lm w hlm
  obtain ⟨j, J1, J2, J3, J4⟩ := info5
  have J1 : Hid _ := J1
  have J2 : Hid _ := J2
  have J3 : Hid _ := J3
  have J4 : Hid _ := J4
  clear hA hX
  go_enter Try.func27, Try.ntmps27
  go_wp2_with (fail)
  rw [← hW]
  clear hW
  go_wp2_with first
    | (go_at_call 39; refine (K3 _).mono ?_; rintro e w' ⟨rfl, rfl⟩)
    | (go_at_call 40; refine (K4 _).mono ?_; rintro e w' ⟨rfl, rfl⟩)
    | (go_at_call 41; refine (K5 _).mono ?_; rintro e w' ⟨rfl, rfl⟩)
    | (go_at_call 29; refine (KL.out _).mono ?_; rintro e wl ⟨⟨sl, rfl, hsl⟩, hfl⟩; have Hl : Hid (SrcAt wl sl (be 4 lm) ∧ Fr (fun _ => False) W wl) := ⟨hsl.1, hfl⟩; clear hsl hfl)
    | (refine wpList_gather (w0 := W) rfl (.tmp 88) (.tmp 91) 31 31 rfl j Try.underlying31 Try.underlying31 J1.out J2.out J3.out J4.out (.slice none 0 0) ([]) (by go_simp) (Gath.ofNil Hl.out.2) sl 4 4 (by go_simp) (be 4 lm) Hl.out.1 (be_length _ _) (by first | (simp; done) | (simp; omega) | (simp [be_length]; done) | (simp [be_length]; omega)) ?_; intro a1 n1 d1 w1 N1 G1 F1; clear c0 c1 c2 c3 c4 c5 c6 c7 c8 c9 c10 c11; obtain ⟨c0, c1, c2, c3, c4, c5, c6, c7, c8, c9, c10, c11⟩ := cells12 (HA.out w1 G1.2.2))
    | (go_at_call 43; refine (KC.out _).mono ?_; rintro e wc ⟨⟨sc, rfl, hsc⟩, hfc⟩; have Hc : Hid (SrcAt wc sc (be 4 code) ∧ Fr (fun _ => False) w1 wc) := ⟨hsc.1, hfc⟩; clear hsc hfc)
    | (refine wpList_gather (w0 := W) rfl (.tmp 93) (.tmp 96) 31 31 rfl j Try.underlying31 Try.underlying31 J1.out J2.out J3.out J4.out (.slice a1 n1 d1) (([]) ++ (be 4 lm)) (by go_simp) (G1.fr Hc.out.2) sc 4 4 (by go_simp) (be 4 code) Hc.out.1 (be_length _ _) (by first | (simp; done) | (simp; omega) | (simp [be_length]; done) | (simp [be_length]; omega)) ?_; intro a2 n2 d2 w2 N2 G2 F2; clear c0 c1 c2 c3 c4 c5 c6 c7 c8 c9 c10 c11; obtain ⟨c0, c1, c2, c3, c4, c5, c6, c7, c8, c9, c10, c11⟩ := cells12 (HA.out w2 G2.2.2))
    | (refine wpList_gather (w0 := W) rfl (.tmp 98) (.tmp 100) 31 31 rfl j Try.underlying31 Try.underlying31 J1.out J2.out J3.out J4.out (.slice a2 n2 d2) ((([]) ++ (be 4 lm)) ++ (be 4 code)) (by go_simp) G2 p X.length cp (by go_simp) (X) (HX.out.oldF G2.2.2) rfl (by first | (simp; done) | (simp; omega) | (simp [be_length]; done) | (simp [be_length]; omega)) ?_; intro a3 n3 d3 w3 N3 G3 F3; clear c0 c1 c2 c3 c4 c5 c6 c7 c8 c9 c10 c11; obtain ⟨c0, c1, c2, c3, c4, c5, c6, c7, c8, c9, c10, c11⟩ := cells12 (HA.out w3 G3.2.2))
  go_ret
  exact ⟨a3, n3, d3, rfl, (own_len G3.1).1.symm, own_src G3.1, HF.out.trans G3.2.2⟩

theorem body_6 (fl st : Int) (X : List UInt8) (pad : Int) (code : Nat) (last : Int) (inc : Int) (dep wt : Int) (only : Bool) (Y : List (Int × Nat)) (p q : Option Addr) (cp cq : Nat) (w : World) (h0 : 0 ≤ fl) (h1 : fl ≤ 255) (hX : SrcAt w p X) (hXl : X.length < 140737488355328) :
    Calls Try.prog 27 #[.agg #[.int .i64 6, .int .i64 fl, .int .i64 st, .slice p X.length cp, .int .i64 pad, .int .u32 code, .int .i64 last, .int .i64 inc, .int .i64 dep, .bool only, .int .i64 wt, .slice q Y.length cq]] w fun e w' => BodyAs w (([]) ++ (X)) e w' := by
  obtain ⟨W, hW⟩ : ∃ W, W = w.alloc (.cells #[.int .i64 6, .int .i64 fl, .int .i64 st, .slice p X.length cp, .int .i64 pad, .int .u32 code, .int .i64 last, .int .i64 inc, .int .i64 dep, .bool only, .int .i64 wt, .slice q Y.length cq] 36) := ⟨_, rfl⟩
  have HF : Hid (Fr (fun _ => False) w W) := by rw [hW]; exact (Fr.refl _ _).alloc _
  have hA : W.heap[w.heap.size]? = some (.cells #[.int .i64 6, .int .i64 fl, .int .i64 st, .slice p X.length cp, .int .i64 pad, .int .u32 code, .int .i64 last, .int .i64 inc, .int .i64 dep, .bool only, .int .i64 wt, .slice q Y.length cq] 36 (0, 0)) := by rw [hW]; exact heap_alloc_new w _
  have HA : Hid (∀ w', Fr (fun _ => False) W w' → w'.heap[w.heap.size]? = some (.cells #[.int .i64 6, .int .i64 fl, .int .i64 st, .slice p X.length cp, .int .i64 pad, .int .u32 code, .int .i64 last, .int .i64 inc, .int .i64 dep, .bool only, .int .i64 wt, .slice q Y.length cq] 36 (0, 0))) := fun w' hf => (hf.block _ (lt_of_heap hA) id).trans hA
  obtain ⟨c0, c1, c2, c3, c4, c5, c6, c7, c8, c9, c10, c11⟩ := cells12 hA
  have HX : Hid (SrcAt W p X) := hX.oldF HF.out
  have K3 := fun w => rpadded_in 6 w
  have K4 : ∀ w, Calls Try.prog 40 #[.int .i64 fl, .int .i64 8] w fun e w' => e = .returned (.bool (has fl 8)) ∧ w = w' := fun w => has_in fl 8 w (by omega) h0 h1
  have K5 := fun w => prio_in 6 fl w h0 h1
  rw [show canP 6 = false by decide] at K3
  rw [show prioB 6 fl = false by simp [prioB]] at K5
  obtain ⟨j, J1, J2, J3, J4⟩ := info5
  have J1 : Hid _ := J1
  have J2 : Hid _ := J2
  have J3 : Hid _ := J3
  have J4 : Hid _ := J4
  clear hA hX
  go_enter Try.func27, Try.ntmps27
  go_wp2_with (fail)
  rw [← hW]
  clear hW
  go_wp2_with first
    | (go_at_call 39; refine (K3 _).mono ?_; rintro e w' ⟨rfl, rfl⟩)
    | (go_at_call 40; refine (K4 _).mono ?_; rintro e w' ⟨rfl, rfl⟩)
    | (go_at_call 41; refine (K5 _).mono ?_; rintro e w' ⟨rfl, rfl⟩)
    | (refine wpList_gather (w0 := W) rfl (.tmp 98) (.tmp 100) 31 31 rfl j Try.underlying31 Try.underlying31 J1.out J2.out J3.out J4.out (.slice none 0 0) ([]) (by go_simp) (Gath.ofNil (Fr.refl _ _)) p X.length cp (by go_simp) (X) HX.out rfl (by first | (simp; done) | (simp; omega) | (simp [be_length]; done) | (simp [be_length]; omega)) ?_; intro a1 n1 d1 w1 N1 G1 F1; clear c0 c1 c2 c3 c4 c5 c6 c7 c8 c9 c10 c11; obtain ⟨c0, c1, c2, c3, c4, c5, c6, c7, c8, c9, c10, c11⟩ := cells12 (HA.out w1 G1.2.2))
  go_ret
  exact ⟨a1, n1, d1, rfl, (own_len G1.1).1.symm, own_src G1.1, HF.out.trans G1.2.2⟩

theorem body_9 (fl st : Int) (X : List UInt8) (pad : Int) (code : Nat) (last : Int) (inc : Int) (dep wt : Int) (only : Bool) (Y : List (Int × Nat)) (p q : Option Addr) (cp cq : Nat) (w : World) (h0 : 0 ≤ fl) (h1 : fl ≤ 255) (hX : SrcAt w p X) (hXl : X.length < 140737488355328) :
    Calls Try.prog 27 #[.agg #[.int .i64 9, .int .i64 fl, .int .i64 st, .slice p X.length cp, .int .i64 pad, .int .u32 code, .int .i64 last, .int .i64 inc, .int .i64 dep, .bool only, .int .i64 wt, .slice q Y.length cq]] w fun e w' => BodyAs w (([]) ++ (X)) e w' := by
  obtain ⟨W, hW⟩ : ∃ W, W = w.alloc (.cells #[.int .i64 9, .int .i64 fl, .int .i64 st, .slice p X.length cp, .int .i64 pad, .int .u32 code, .int .i64 last, .int .i64 inc, .int .i64 dep, .bool only, .int .i64 wt, .slice q Y.length cq] 36) := ⟨_, rfl⟩
  have HF : Hid (Fr (fun _ => False) w W) := by rw [hW]; exact (Fr.refl _ _).alloc _
  have hA : W.heap[w.heap.size]? = some (.cells #[.int .i64 9, .int .i64 fl, .int .i64 st, .slice p X.length cp, .int .i64 pad, .int .u32 code, .int .i64 last, .int .i64 inc, .int .i64 dep, .bool only, .int .i64 wt, .slice q Y.length cq] 36 (0, 0)) := by rw [hW]; exact heap_alloc_new w _
  have HA : Hid (∀ w', Fr (fun _ => False) W w' → w'.heap[w.heap.size]? = some (.cells #[.int .i64 9, .int .i64 fl, .int .i64 st, .slice p X.length cp, .int .i64 pad, .int .u32 code, .int .i64 last, .int .i64 inc, .int .i64 dep, .bool only, .int .i64 wt, .slice q Y.length cq] 36 (0, 0))) := fun w' hf => (hf.block _ (lt_of_heap hA) id).trans hA
  obtain ⟨c0, c1, c2, c3, c4, c5, c6, c7, c8, c9, c10, c11⟩ := cells12 hA
  have HX : Hid (SrcAt W p X) := hX.oldF HF.out
  have K3 := fun w => rpadded_in 9 w
  have K4 : ∀ w, Calls Try.prog 40 #[.int .i64 fl, .int .i64 8] w fun e w' => e = .returned (.bool (has fl 8)) ∧ w = w' := fun w => has_in fl 8 w (by omega) h0 h1
  have K5 := fun w => prio_in 9 fl w h0 h1
  rw [show canP 9 = false by decide] at K3
  rw [show prioB 9 fl = false by simp [prioB]] at K5
  obtain ⟨j, J1, J2, J3, J4⟩ := info5
  have J1 : Hid _ := J1
  have J2 : Hid _ := J2
  have J3 : Hid _ := J3
  have J4 : Hid _ := J4
  clear hA hX
  go_enter Try.func27, Try.ntmps27
  go_wp2_with (fail)
  rw [← hW]
  clear hW
  go_wp2_with first
    | (go_at_call 39; refine (K3 _).mono ?_; rintro e w' ⟨rfl, rfl⟩)
    | (go_at_call 40; refine (K4 _).mono ?_; rintro e w' ⟨rfl, rfl⟩)
    | (go_at_call 41; refine (K5 _).mono ?_; rintro e w' ⟨rfl, rfl⟩)
    | (refine wpList_gather (w0 := W) rfl (.tmp 98) (.tmp 100) 31 31 rfl j Try.underlying31 Try.underlying31 J1.out J2.out J3.out J4.out (.slice none 0 0) ([]) (by go_simp) (Gath.ofNil (Fr.refl _ _)) p X.length cp (by go_simp) (X) HX.out rfl (by first | (simp; done) | (simp; omega) | (simp [be_length]; done) | (simp [be_length]; omega)) ?_; intro a1 n1 d1 w1 N1 G1 F1; clear c0 c1 c2 c3 c4 c5 c6 c7 c8 c9 c10 c11; obtain ⟨c0, c1, c2, c3, c4, c5, c6, c7, c8, c9, c10, c11⟩ := cells12 (HA.out w1 G1.2.2))
  go_ret
  exact ⟨a1, n1, d1, rfl, (own_len G1.1).1.symm, own_src G1.1, HF.out.trans G1.2.2⟩

end Go.Proofs.Ytikaefjhmgcidaa
