/- Offer, Ack, Open, in the words of what waits. -/
import Derived.Test.YtmpknmcgljpfkaaMl
namespace Go.Proofs.Ytmpknmcgljpfkaa
open Go.RowKit Go.Maps
set_option linter.unusedVariables false
set_option maxRecDepth 100000
set_option maxHeartbeats 4000000

/-- A list that waits, as a value. -/
def offV (x : Option Addr × Nat × List (Int × Nat)) : Value := .slice x.1 x.2.2.length x.2.1
/-- Settings with the values V, made since w0, for whose offers L one waits. -/
structure SetQ (w0 w : World) (g b : Nat) (V : Int → Nat) (a : Option Addr) (n c : Nat) (L : List (Option Addr × Nat × List (Int × Nat))) : Prop where
  one : Set1 w0 w g b (.slice a n c) V
  own : OwnAt w 33 (.slice a n c) (L.map offV)
  copies : ∀ x ∈ L, Copy w x.1 x.2.1 x.2.2
  newQ : ∀ k, (Value.slice a n c).ownBlock = some k → w0.heap.size ≤ k
theorem own_len9 {w : World} {e : TypeId} {sp : Option Addr} {n c : Nat} {xs : List Value} (h : OwnAt w e (.slice sp n c) xs) : n = xs.length := by
  obtain ⟨_, _, e, _⟩ := h.form
  cases e
  rfl
theorem SetQ.len {w0 w : World} {g b : Nat} {V : Int → Nat} {a : Option Addr} {n c : Nat} {L : List (Option Addr × Nat × List (Int × Nat))} (h : SetQ w0 w g b V a n c L) : n = L.length := by
  have := own_len9 h.own
  simpa using this
theorem SetQ.fr {S : Nat → Prop} {w0 w w' : World} {g b : Nat} {V : Int → Nat} {a : Option Addr} {n c : Nat} {L : List (Option Addr × Nat × List (Int × Nat))} (h : SetQ w0 w g b V a n c L) (hf : Fr S w w') (h0 : ∀ k, S k → w0.heap.size ≤ k) (hg : ¬ S g) (hb : ¬ S b) (ho : ∀ k, (Value.slice a n c).ownBlock = some k → ¬ S k) (hc : ∀ k cur, w.heap[k]? = some (.cells cur 24 (0, 0)) → ¬ S k) : SetQ w0 w' g b V a n c L :=
  ⟨⟨h.one.set.fr hf hg, h.one.vals.fr hf hb, h.one.ok, fr_new h.one.fr hf h0, h.one.new⟩, h.own.fr hf ho, fun x hx => (h.copies x hx).fr hf hc, h.newQ⟩
theorem SetQ.later {w0 w w' : World} {g b : Nat} {V : Int → Nat} {a : Option Addr} {n c : Nat} {L : List (Option Addr × Nat × List (Int × Nat))} (h : SetQ w0 w g b V a n c L) (hf : Fr (fun _ => False) w w') : SetQ w0 w' g b V a n c L :=
  h.fr hf (fun _ e => e.elim) id id (fun _ _ => id) (fun _ _ _ => id)
theorem tag_set {w : World} {k g : Nat} {cur cs : Array Value} {t : TypeId} (h : w.heap[k]? = some (.cells cur 24 (0, 0))) (hg : w.heap[g]? = some (.cells cs t (0, 0))) (ht : t ≠ 24) : k ≠ g := by
  rintro rfl
  rw [h] at hg
  cases hg
  exact ht rfl
theorem tag_own {w : World} {k : Nat} {cur : Array Value} {v : Value} {xs : List Value} {t : TypeId} (h : w.heap[k]? = some (.cells cur t (0, 0))) (ho : OwnAt w 33 v xs) (ht : t ≠ 33) : v.ownBlock ≠ some k := by
  intro hk
  rcases ho with ⟨rfl, -⟩ | ⟨g', off, cap, cur', rfl, hg, -⟩
  · simp [Value.ownBlock] at hk
  · simp [Value.ownBlock] at hk
    subst hk
    rw [h] at hg
    cases hg
    exact ht rfl
theorem NewQ (w0 w : World) (h0 : Fr (fun _ => False) w0 w) : Calls Try.prog 12 #[] w fun e w' => ∃ g b, e = .returned (.pointer (some ⟨g, 0, none⟩)) ∧ SetQ w0 w' g b firstV none 0 0 [] ∧ Fr (fun _ => False) w w' := by
  refine (New1 w0 w h0).mono ?_
  rintro e w' ⟨g, b, rfl, h1, h2, -, -⟩
  exact ⟨g, b, rfl, ⟨h1, OwnAt.nil _ _, fun x hx => (by simp at hx), fun k e => by simp [Value.ownBlock] at e⟩, h2⟩
theorem OpenQ {w0 w : World} {g b : Nat} {V : Int → Nat} {a : Option Addr} {n c : Nat} {L : List (Option Addr × Nat × List (Int × Nat))} (h : SetQ w0 w g b V a n c L) :
    Calls Try.prog 23 #[.pointer (some ⟨g, 0, none⟩)] w fun e w' => e = .returned (.int .i64 (n : Int)) ∧ w = w' := by
  have K1 := smade_in g b _ w h.one.set
  have K2 := qlength_in g b a n c w h.one.set
  clear h
  go_enter Try.func23, Try.ntmps23
  go_wp2_with (first
    | (go_at_call 27; refine K1.mono ?_; clear K1; rintro e w1 ⟨rfl, rfl⟩)
    | (go_at_call 33; refine K2.mono ?_; clear K2; rintro e w1 ⟨rfl, rfl⟩))
  go_ret
  exact ⟨rfl, rfl⟩
theorem AckQ0 {w0 w : World} {g b : Nat} {V : Int → Nat} {a : Option Addr} {n c : Nat} (h : SetQ w0 w g b V a n c []) :
    Calls Try.prog 18 #[.pointer (some ⟨g, 0, none⟩)] w fun e w' => e = .returned (.tuple #[.slice none 0 0, .int .i64 5]) ∧ w = w' := by
  obtain rfl : 0 = n := h.len.symm
  have K1 := smade_in g b _ w h.one.set
  have K2 := qtake_none g b a c w h.one.set
  clear h
  go_enter Try.func18, Try.ntmps18
  go_wp2_with (first
    | (go_at_call 27; refine K1.mono ?_; clear K1; rintro e w1 ⟨rfl, rfl⟩)
    | (go_at_call 32; refine K2.mono ?_; clear K2; rintro e w1 ⟨rfl, rfl⟩))
  go_ret2
  exact ⟨rfl, rfl⟩
/-- What Ack leaves where one waits. -/
def AckAs (w0 w : World) (g b : Nat) (V : Int → Nat) (v : Value) (x : Option Addr × Nat × List (Int × Nat)) (L : List (Option Addr × Nat × List (Int × Nat))) (e : Ending) (w' : World) : Prop :=
  e = .returned (.tuple #[offV x, .int .i64 0]) ∧ ∃ a' n' c', SetQ w0 w' g b V a' n' c' L ∧ Copy w' x.1 x.2.1 x.2.2 ∧ Fr (fun k => k = g ∨ v.ownBlock = some k) w w' ∧ (Value.slice a' n' c').ownBlock = v.ownBlock
theorem AckQ {w0 w : World} {g b : Nat} {V : Int → Nat} {a : Option Addr} {n c : Nat} {x : Option Addr × Nat × List (Int × Nat)} {L : List (Option Addr × Nat × List (Int × Nat))} (h : SetQ w0 w g b V a n c (x :: L)) :
    Calls Try.prog 18 #[.pointer (some ⟨g, 0, none⟩)] w fun e w' => AckAs w0 w g b V (.slice a n c) x L e w' := by
  have K1 := smade_in g b _ w h.one.set
  have K2 := qtake_some g b a n c x.1 x.2.2.length x.2.1 (L.map offV) w h.one.set h.own
  obtain ⟨p, d, Y⟩ := x
  dsimp only at K2
  have HH : Hid (SetQ w0 w g b V a n c ((p, d, Y) :: L)) := h
  clear h
  obtain ⟨m, hm⟩ : ∃ m, Y.length = m := ⟨_, rfl⟩
  have HM : Hid (Y.length = m) := hm
  rw [hm] at K2
  clear hm
  go_enter Try.func18, Try.ntmps18
  go_wp2_with (first
    | (go_at_call 27; refine K1.mono ?_; clear K1; rintro e w1 ⟨rfl, rfl⟩)
    | (go_at_call 32; refine K2.mono ?_; clear K2; rintro e w1 ⟨rfl, a', n', c', h1, h2, h3, h4⟩))
  go_ret2
  have hs := HH.out.one
  have hg : ∀ k cur, w.heap[k]? = some (.cells cur 24 (0, 0)) → ¬ (k = g ∨ (Value.slice a n c).ownBlock = some k) := fun k cur hk e => by
    rcases e with e | e
    · exact tag_set hk hs.set (by decide) e
    · exact tag_own hk HH.out.own (by decide) e
  have hb : ¬ (b = g ∨ (Value.slice a n c).ownBlock = some b) := fun e => by
    rcases e with e | e
    · exact hs.vals.ne hs.set e
    · rcases HH.out.own with ⟨e2, -⟩ | ⟨g', off, cap, cur', e2, hg', -⟩
      · rw [e2] at e; simp [Value.ownBlock] at e
      · rw [e2] at e; simp [Value.ownBlock] at e; exact hs.vals.ne hg' e.symm
  refine ⟨by rw [offV]; dsimp only; rw [HM.out]; rfl, a', n', c', ⟨⟨h1, hs.vals.fr h3 hb, hs.ok, fr_new hs.fr h3 ?_, hs.new⟩, h2, fun x hx => (HH.out.copies x (List.mem_cons_of_mem _ hx)).fr h3 hg, ?_⟩, (HH.out.copies _ (List.mem_cons_self ..)).fr h3 hg, h3, h4⟩
  · rintro k (rfl | e)
    · exact hs.new.2
    · exact HH.out.newQ k e
  · rw [h4]
    exact HH.out.newQ
/-- What Offer leaves. -/
def OffAs (w0 w : World) (g b : Nat) (V : Int → Nat) (v : Value) (L : List (Option Addr × Nat × List (Int × Nat))) (Y : List (Int × Nat)) (e : Ending) (w' : World) : Prop :=
  e = .returned (.int .i64 0) ∧ ∃ p d a' n' c', SetQ w0 w' g b V a' n' c' (L ++ [(p, d, Y)]) ∧ Fr (fun k => k = g ∨ v.ownBlock = some k) w w' ∧ ((Value.slice a' n' c').ownBlock = v.ownBlock ∨ ∃ k, (Value.slice a' n' c').ownBlock = some k ∧ w.heap.size ≤ k)
theorem SetQ.added {w0 w w' : World} {g b : Nat} {V : Int → Nat} {a : Option Addr} {n c : Nat} {L : List (Option Addr × Nat × List (Int × Nat))} (h : SetQ w0 w g b V a n c L) {p : Option Addr} {d : Nat} {Y : List (Int × Nat)} (hc : Copy w p d Y) (ha : AddAs w g b (.slice a n c) (L.map offV ++ [offV (p, d, Y)]) w') :
    ∃ a' n' c', SetQ w0 w' g b V a' n' c' (L ++ [(p, d, Y)]) ∧ Fr (fun k => k = g ∨ (Value.slice a n c).ownBlock = some k) w w' ∧ ((Value.slice a' n' c').ownBlock = (Value.slice a n c).ownBlock ∨ ∃ k, (Value.slice a' n' c').ownBlock = some k ∧ w.heap.size ≤ k) := by
  obtain ⟨a', n', c', h1, h2, h3, h4⟩ := ha
  have hs := h.one
  have hg : ∀ k cur, w.heap[k]? = some (.cells cur 24 (0, 0)) → ¬ (k = g ∨ (Value.slice a n c).ownBlock = some k) := fun k cur hk e => by
    rcases e with e | e
    · exact tag_set hk hs.set (by decide) e
    · exact tag_own hk h.own (by decide) e
  have hb : ¬ (b = g ∨ (Value.slice a n c).ownBlock = some b) := fun e => by
    rcases e with e | e
    · exact hs.vals.ne hs.set e
    · rcases h.own with ⟨e2, -⟩ | ⟨g', off, cap, cur', e2, hg', -⟩
      · rw [e2] at e; simp [Value.ownBlock] at e
      · rw [e2] at e; simp [Value.ownBlock] at e; exact hs.vals.ne hg' e.symm
  refine ⟨a', n', c', ⟨⟨h1, hs.vals.fr h3 hb, hs.ok, fr_new hs.fr h3 ?_, hs.new⟩, by rw [List.map_append]; exact h2, fun x hx => ?_, fun k e => ?_⟩, h3, h4⟩
  · rintro k (rfl | e)
    · exact hs.new.2
    · exact h.newQ k e
  · rcases List.mem_append.1 hx with hx | hx
    · exact (h.copies x hx).fr h3 hg
    · simp at hx
      subst hx
      exact hc.fr h3 hg
  · rcases h4 with e4 | ⟨k', e4, hk⟩
    · exact h.newQ k (e4 ▸ e)
    · rw [e4] at e
      cases e
      have := hs.fr.size
      omega
theorem OfferQ {w0 w : World} {g b : Nat} {V : Int → Nat} {a : Option Addr} {n c : Nat} {L : List (Option Addr × Nat × List (Int × Nat))} (h : SetQ w0 w g b V a n c L) (q : Option Addr) (cq m : Nat) (Y : List (Int × Nat)) (hY : SetsAt w q cq Y) (hm : Y.length = m) (hx : (L.length + 1) * 24 < 2 ^ 47) :
    Calls Try.prog 17 #[.pointer (some ⟨g, 0, none⟩), .slice q m cq] w fun e w' => OffAs w0 w g b V (.slice a n c) L Y e w' := by
  have K1 := smade_in g b _ w h.one.set
  have HH : Hid (SetQ w0 w g b V a n c L) := h
  obtain ⟨p, d, w1, hr, hc1, hf1⟩ := copyS_run (hY.later ((Fr.refl _ _).drew)) (.slice none 0 0) (World.ownsRow_nil _ _ _ _)
  rw [hm] at hr
  have HF1 : Hid (Fr (fun _ => False) w w1) := ((Fr.refl _ _).drew).trans (hf1.mono (fun k _ e => by simp [Value.ownBlock] at e))
  have HC : Hid (Copy w1 p d Y) := hc1
  have H1 : Hid (SetQ w0 w1 g b V a n c L) := h.later HF1.out
  have KA := qadd_in g b a n c (L.map offV) p m d w1 H1.out.one.set H1.out.own (by simpa using hx)
  have HM : Hid (Y.length = m) := hm
  clear h hY hm hx hc1 hf1
  go_enter Try.func17, Try.ntmps17
  go_upto_region 3 with (go_at_call 27; refine K1.mono ?_; clear K1; rintro e w2 ⟨rfl, rfl⟩)
  refine wp_region_held_drew (S := fun _ => True) (by kernel_rfl) trivial (fun hHeld => ?_)
  refine wpAnyH_take (i := 0) (oi := _) (v := .pointer (some ⟨g, 0, none⟩)) rfl (by kernel_rfl) (by kernel_rfl) (by kernel_rfl) (fun _ _ _ h => h) (Or.inl ⟨by kernel_rfl, fun w2 hw => by go_simp⟩) hHeld ?_
  refine wpAnyH_take (i := 1) (oi := _) (v := .pointer (some ⟨g, 0, none⟩)) rfl (by kernel_rfl) (by kernel_rfl) (by kernel_rfl) (fun _ _ _ h => h) (Or.inl ⟨by kernel_rfl, fun w2 hw => by go_simp⟩) hHeld ?_
  refine wpAnyH_take (i := 2) (oi := _) (v := .pointer (some ⟨g, 1, none⟩)) rfl (by kernel_rfl) (by kernel_rfl) (by kernel_rfl) (fun _ _ _ h => h) (Or.inl ⟨by kernel_rfl, fun w2 hw => by go_simp⟩) hHeld ?_
  refine wpAnyH_take (i := 3) (oi := _) (v := .slice q m cq) rfl (by kernel_rfl) (by kernel_rfl) (by kernel_rfl) (fun _ _ _ h => h) (Or.inl ⟨by kernel_rfl, fun w2 hw => by go_simp⟩) hHeld ?_
  simp only [Act.put, List.getElem_toArray, List.getElem_cons_succ, List.getElem_cons_zero, List.setIfInBounds_toArray, List.set_cons_zero, List.set_cons_succ]
  refine wpAnyH_ready (rs := [4]) (by kernel_rfl) (by simp) ?_
  refine AllReadyH.cons rfl (fun K hK => ?_) AllReadyH.nil
  refine stepR_append_run rfl (.const (.slice none 0 0)) (.tmp 11) 33 rfl 12 rfl 33 rfl (.slice none 0 0) (.slice q m cq) (.slice p m d) rfl (by go_simp) hr ?_
  refine hK.out _ _ trivial (fun _ => ?_)
  clear hK K hr
  simp only [Act.put, List.setIfInBounds_toArray, List.set_cons_zero, List.set_cons_succ]
  refine wpAnyH_ready (rs := [5]) (by kernel_rfl) (by simp) ?_
  refine AllReadyH.cons rfl (fun K hK => ?_) AllReadyH.nil
  go_simp
  refine KA.mono ?_
  clear KA
  rintro e w3 ⟨rfl, ha⟩
  refine hK.out _ _ trivial (fun _ => ?_)
  clear hK K
  refine wpAnyH_done (by kernel_rfl) ?_ _
  have HA : Hid (AddAs w1 g b (.slice a n c) (L.map offV ++ [.slice p m d]) w3) := ha
  clear ha
  go_wp2_with (fail)
  go_ret
  have ha := HA.out
  rw [show Value.slice p m d = offV (p, d, Y) by rw [offV]; dsimp only; rw [HM.out]] at ha
  obtain ⟨a', n', c', h1, h2, h3⟩ := H1.out.added HC.out ha
  refine ⟨rfl, p, d, a', n', c', h1, (HF1.out.mono (fun _ _ e => e.elim)).trans h2, ?_⟩
  rcases h3 with e | ⟨k, e, hk⟩
  · exact .inl e
  · exact .inr ⟨k, e, Nat.le_trans HF1.out.size hk⟩
end Go.Proofs.Ytmpknmcgljpfkaa
