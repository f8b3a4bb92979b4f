/- Headers gathered in a row of one's own; append inside a fence. -/
import Derived.Test.YtplggcfoadjffaaGreatDoorXi
import Derived.Test.YtplggcfoadjffaaGreatDoorXe
import Derived.Test.YtplggcfoadjffaaGreatDoorZv
namespace Go.Proofs.YtplggcfoadjffaaGreatDoor
open Go.RowKit
set_option linter.unusedVariables false
set_option maxRecDepth 100000
set_option maxHeartbeats 4000000

section
variable {F : Fence} {nn : Nat} {w : World} {ops : Array Oper} {rest : List Oper} {o : Oper} {a : Act} {Q : Exit → Act → World → Prop}
/-- append(l, s) of texts, inside a fence. -/
theorem wpListIn_addS (hgd : o.guard = none) (s x : Operand) (ho : o.op = .call { callee := .builtin .append, args := #[s, x], argTypes := #[42, 42] })
    (v : Value) (M : List ByteArray) (d : ByteArray) (hsv : a.eval s = v) (hM : OwnAt w 9 v (strV M)) (hxv : a.eval x = .slice (some ⟨w.heap.size, 0, none⟩) 1 1) (hfew : M.length * 40 < 2 ^ 47)
    (h : ∀ a' n' c' w', Hid (n' = M.length + 1) → Hid (OwnAt w' 9 (.slice a' n' c') (strV (M ++ [d]))) → Hid (Fr (fun k => v.ownBlock = some k) w w') → Hid ((Value.slice a' n' c').ownBlock = v.ownBlock ∨ ∃ k, (Value.slice a' n' c').ownBlock = some k ∧ w.heap.size ≤ k) → wpListIn F nn Tryz.prog ops Q rest (a.put o.dst (.slice a' n' c')) w') : wpListIn F nn Tryz.prog ops Q (o :: rest) a (w.alloc (.cells #[.string d] 9)) := by
  obtain ⟨i, I1, I2, I3, I4⟩ := info_str
  have hal : Fr (fun _ => False) w (w.alloc (.cells #[.string d] 9)) := (Fr.refl _ _).alloc _
  have hlen : (strV M).length = M.length := strV_length M
  refine wpListIn_plain hgd fun K hK => ?_
  have hsrc : Src Tryz.prog 1 42 (.slice (some ⟨w.heap.size, 0, none⟩) 1 1) 1 [.string d] (w.alloc (.cells #[.string d] 9)) := Src.ofSlice _ Tryz.underlying42 _ 1 1 [.string d] rfl (fun j u hj => by
    cases j with
    | zero => simp at hj; subst hj; rw [add_none]; exact cell_of_heap (heap_alloc_new w _) rfl
    | succ j => simp at hj) (by simp [Value.oneCell'])
  obtain ⟨v', w', hr, h2, h3, h4, _⟩ := run_append_at (P := Tryz.prog) (w.alloc (.cells #[.string d] 9)) 42 42 o.type 9 i (.string ⟨#[]⟩) Tryz.underlying42 I1 I2 I3 rfl v _ (hM.fr hal (fun _ _ => id)) _ 1 [.string d] hsrc (by rw [I4, hlen]; omega) (by rw [hlen]; unfold maxLen; omega)
  obtain ⟨a', c', rfl, _⟩ := h2.form
  have hl : (strV M ++ [Value.string d]).length = M.length + 1 := by rw [List.length_append, hlen]; rfl
  rw [hl] at h2 h4 hr
  unfold Oper.wpIn
  refine ⟨?_, ?_⟩
  · simp [Oper.about, ho, resolve, Target.leads, Sem.run_pure]
  · rw [Oper.semAt_plain F _ _ (by rw [ho]; intro c hc'; cases hc')]
    simp [execOp, ho, resolve, invoke, builtin, hsv, hxv, hr, Result.andThen]
    refine hK _ _ (h a' _ c' w' rfl (by rw [strV_append]; exact h2) ((hal.mono (fun _ _ e => e.elim)).trans h3) ?_)
    rcases h4 with e | ⟨k, e, hk2⟩
    · exact .inl e
    · exact .inr ⟨k, e, by simp at hk2; omega⟩
end
theorem rowH_fr {S : Nat → Prop} {w w' : World} {e : TypeId} {s n : Nat} {v : Value} {xs : List Value} (h : w.ownsRow 0 e s v n xs) (hf : Fr S w w') (hs : ∀ k, v.ownBlock = some k → ¬ S k) : w'.ownsRow 0 e s v n xs := by
  refine ⟨h.1, ?_⟩
  rcases h.2 with h2 | ⟨g, cap, cur, rfl, h3, h4, h5⟩
  · exact .inl h2
  · exact .inr ⟨g, cap, cur, rfl, h3, (hf.block g (lt_of_heap h4) (hs g rfl)).trans h4, h5⟩
theorem rowH_lt {w : World} {e : TypeId} {s n : Nat} {v : Value} {xs : List Value} (h : w.ownsRow 0 e s v n xs) : ∀ k, v.ownBlock = some k → k < w.heap.size ∧ ∃ cur, w.heap[k]? = some (.cells cur e (0, 0)) := by
  intro k hk
  rcases h.2 with ⟨rfl, -⟩ | ⟨g, cap, cur, rfl, h3, h4, h5⟩
  · simp [Value.ownBlock] at hk
  · simp [Value.ownBlock] at hk
    subst hk
    exact ⟨lt_of_heap h4, cur, h4⟩
theorem keepsH {B : Nat} {S : Nat → Prop} {X Y : World} (hf : Fr S X Y) (hs : ∀ k o, S k → X.heap[k]? = some o → o.isCells = true) : KeepsFrom B X Y :=
  ⟨hf.size, fun k o _ hk ho => (hf.block k (lt_of_heap hk) (fun s => by have := hs k o s hk; rw [ho] at this; cases this)).trans hk⟩
theorem setH1 {w : World} {g j : Nat} {cs : Array Value} {t : TypeId} (v : Value) (h : w.heap[g]? = some (.cells cs t (0, 0))) : (w.setCell ⟨g, j, none⟩ v).heap[g]? = some (.cells (cs.setIfInBounds j v) t (0, 0)) := by
  have hl := lt_of_heap h
  simp [World.setCell]
  rw [Array.getElem?_eq_getElem hl] at h
  simp at h
  simp [Array.modify, Array.modifyM, hl, h]
theorem lastH {w : World} {n : Nat} (o : Obj) (h : w.heap.size = n) : (w.alloc o).heap[n]? = some o := by
  subst h; exact heap_alloc_new w o
theorem pastH {w : World} {n : Nat} (o : Obj) {x : Obj} (h : w.heap[n]? = some x) : (w.alloc o).heap[n]? = some x := by
  rw [Below.heap_alloc _ _ _ (lt_of_heap h)]; exact h
theorem Fr.of_ownH {B : Nat} {X Y : World} {row : Option Nat} (hg : X.grownBy Y row) (hr : ∀ r, row = some r → B ≤ r ∧ ∃ o : Obj, X.heap[r]? = some o ∧ o.isCells = false) : Fr (fun k => B ≤ k ∧ ∃ o : Obj, X.heap[k]? = some o ∧ o.isCells = false) X Y :=
  ⟨hg.os, hg.tape, hg.output, hg.size, fun k hk hs => hg.block k hk (fun e => hs (hr k e.symm))⟩
theorem cells_notH {B : Nat} {X : World} {k : Nat} {cs : Array Value} {t : TypeId} {fr : Nat × Nat} (h : X.heap[k]? = some (.cells cs t fr)) : ¬ (B ≤ k ∧ ∃ o : Obj, X.heap[k]? = some o ∧ o.isCells = false) := by
  rintro ⟨-, o, h1, h2⟩
  rw [h] at h1
  cases h1
  cases h2
theorem wpListIn_wideH {F : Fence} {nn : Nat} {P : Program} {ops : Array Oper} {rest : List Oper} {o : Oper} {a : Act} {w : World} {Q : Exit → Act → World → Prop} (hgd : o.guard = none) (s x : Operand) (t : TypeId)
    (ho : o.op = .call { callee := .builtin .append, args := #[s, x], argTypes := #[t, t] })
    (e : TypeId) (i : TypeInfo) (z : Value) (size bytes : Nat) (ht : P.underlying t = some (.slice e)) (hi : P.info? e = some i) (hz : i.zero = some z)
    (hsize : i.size = size) (hby : i.bytes = bytes) (hzs : z.cells.size = size) (hsz : 0 < size)
    (v : Value) (n : Nat) (xs : List Value) (hs : a.eval s = v) (hown : w.ownsRow 0 e size v n xs)
    (ad : Addr) (m c : Nat) (news : List Value) (hx : a.eval x = .slice (some ad) m c) (hm : 0 < m) (hl : news.length = m * size) (hnews : ∀ j u, news[j]? = some u → w.cell? (ad.add j) = some u) (h1 : ∀ u ∈ news, u.oneCell' = true)
    (h63 : n + m ≤ maxLen) (hbytes : ((n + m) + (n + m) / 4 + 192) * bytes ≤ 281474976710656)
    (h : ∀ a' n' c' w', Hid (n' = n + m) → Hid (w'.ownsRow 0 e size (.slice a' n' c') (n + m) (xs ++ news)) → Hid (Fr (fun k => v.ownBlock = some k) w w') → Hid ((Value.slice a' n' c').ownBlock = v.ownBlock ∨ (Value.slice a' n' c').ownBlock = some w.heap.size) → wpListIn F nn P ops Q rest (a.put o.dst (.slice a' n' c')) w') : wpListIn F nn P ops Q (o :: rest) a w := by
  refine wpListIn_plain hgd fun K hK => ?_
  obtain ⟨v', w', hr, h2, h3, h4⟩ := run_append_own_wide (P := P) w 0 t o.type e i z size bytes ht hi hz hsize hby hzs hsz v n xs hown ad m c news hl hnews h1 h63 hbytes (Nat.zero_le _)
  subst hsize
  subst hby
  have h5 := append_where (P := P) w t o.type e i z ht hi hz v n xs hown ad m c news hl hnews h1 hm h63 hbytes v' w' hr
  obtain ⟨a', c', rfl⟩ : ∃ a' c', v' = .slice a' (n + m) c' := by
    rcases h2.2 with ⟨rfl, h0⟩ | ⟨g, cap, cur, rfl, -⟩
    · omega
    · exact ⟨_, _, rfl⟩
  unfold Oper.wpIn
  refine ⟨?_, ?_⟩
  · simp [Oper.about, ho, resolve, Target.leads, Sem.run_pure]
  · rw [Oper.semAt_plain F _ _ (by rw [ho]; intro c hc'; cases hc')]
    simp [execOp, ho, resolve, invoke, builtin, hs, hx, hr, Result.andThen]
    exact hK _ _ (h a' (n + m) c' w' rfl h2 (Fr.of_grown h3) h5)
theorem cellsH_snoc (l : List Hd) (h : Hd) : cellsH (l ++ [h]) = cellsH l ++ [.string h.1, .string h.2.1, .bool h.2.2] := by
  induction l with
  | nil => rfl
  | cons a t ih => simp [cellsH, ih]
/-- append(l, h) of headers, inside a fence. -/
theorem wpListIn_addH {F : Fence} {nn : Nat} {ops : Array Oper} {rest : List Oper} {o : Oper} {a : Act} {w : World} {Q : Exit → Act → World → Prop} (hgd : o.guard = none) (s x : Operand)
    (ho : o.op = .call { callee := .builtin .append, args := #[s, x], argTypes := #[22, 22] })
    (v : Value) (L : List Hd) (h : Hd) (hs : a.eval s = v) (hown : w.ownsRow 0 35 3 v L.length (cellsH L)) (hx : a.eval x = .slice (some ⟨w.heap.size, 0, none⟩) 1 1) (hfew : L.length * 40 < 2 ^ 47)
    (hn : ∀ a' n' c' w', Hid (n' = L.length + 1) → Hid (w'.ownsRow 0 35 3 (.slice a' n' c') (L ++ [h]).length (cellsH (L ++ [h]))) → Hid (Fr (fun k => v.ownBlock = some k) w w') → Hid ((Value.slice a' n' c').ownBlock = v.ownBlock ∨ ∃ k, (Value.slice a' n' c').ownBlock = some k ∧ w.heap.size ≤ k) → wpListIn F nn Tryz.prog ops Q rest (a.put o.dst (.slice a' n' c')) w') : wpListIn F nn Tryz.prog ops Q (o :: rest) a (w.alloc (.cells #[.string h.1, .string h.2.1, .bool h.2.2] 35)) := by
  obtain ⟨i, hi, hz0, hz1, hz2⟩ := info_parts info_hd
  have hal : Fr (fun _ => False) w (w.alloc (.cells #[.string h.1, .string h.2.1, .bool h.2.2] 35)) := (Fr.refl _ _).alloc _
  refine wpListIn_wideH hgd s x 22 ho 35 i (.agg #[.string ⟨#[]⟩, .string ⟨#[]⟩, .bool false]) 3 40 Tryz.underlying22 hi hz0 hz1 hz2 rfl (by decide) v L.length (cellsH L) hs (rowH_fr hown hal (fun _ _ => id)) ⟨w.heap.size, 0, none⟩ 1 1 [.string h.1, .string h.2.1, .bool h.2.2] hx (by decide) rfl (fun j u hj => ?_) (by simp [Value.oneCell']) (by unfold maxLen; omega) (by omega) ?_
  · rw [add_none, Nat.zero_add]
    refine cell_of_heap (heap_alloc_new w _) ?_
    rw [← Array.getElem?_toList]
    exact hj
  · intro a' n' c' w' N' O' F' K'
    refine hn a' n' c' w' N' (by rw [cellsH_snoc, List.length_append]; exact O'.out) ((hal.mono (fun _ _ e => e.elim)).trans F'.out) ?_
    rcases K'.out with e | e
    · exact .inl e
    · exact .inr ⟨_, e, by simp⟩

/-- Headers told so far lie in a row of one's own, which a box tells. -/
structure GatH (W2 : World) (B : Nat) (v0 : Value) (L : List Hd) (v : Value) (W : World) : Prop where
  box : W.heap[B]? = some (.cells #[v] 22 (0, 0))
  row : W.ownsRow 0 35 3 v L.length (cellsH L)
  new : v.ownBlock = v0.ownBlock ∨ ∃ k, v.ownBlock = some k ∧ W2.heap.size ≤ k
  fr : Fr (fun k => k = B ∨ v0.ownBlock = some k) W2 W

theorem GatH.later {W2 : World} {B : Nat} {v0 : Value} {L : List Hd} {v : Value} {W W' : World} (h : GatH W2 B v0 L v W) (hf : Fr (fun _ => False) W W') : GatH W2 B v0 L v W' :=
  ⟨(hf.block _ (lt_of_heap h.box) id).trans h.box, rowH_fr h.row hf (fun _ _ => id), h.new, h.fr.trans (hf.mono (fun _ _ e => e.elim))⟩
theorem GatH.own {W2 : World} {B : Nat} {v0 : Value} {L : List Hd} {v : Value} {W W' : World} {row : Option Nat} (h : GatH W2 B v0 L v W) (hg : W.grownBy W' row) (hr : ∀ r, row = some r → W2.heap.size ≤ r ∧ ∃ o : Obj, W.heap[r]? = some o ∧ o.isCells = false) : GatH W2 B v0 L v W' := by
  have hf := Fr.of_ownH hg hr
  refine ⟨(hf.block _ (lt_of_heap h.box) (cells_notH h.box)).trans h.box, rowH_fr h.row hf (fun k hk => ?_), h.new, ?_⟩
  · obtain ⟨-, cur, hc⟩ := rowH_lt h.row k hk
    exact cells_notH hc
  · exact ((h.fr.mono (T := fun k => (k = B ∨ v0.ownBlock = some k) ∨ W2.heap.size ≤ k) (fun _ _ e => .inl e)).trans (hf.mono (fun k _ e => .inr e.1))).mono (fun k hk e => by
      rcases e with e | e
      · exact e
      · omega)
/-- One header more. -/
theorem GatH.add {W2 : World} {B : Nat} {v0 : Value} {L : List Hd} {v v' : Value} {W w4 : World} {h : Hd} (hG : GatH W2 B v0 L v W) (hr : w4.ownsRow 0 35 3 v' (L ++ [h]).length (cellsH (L ++ [h]))) (hf : Fr (fun k => v.ownBlock = some k) W w4) (ho : v'.ownBlock = v.ownBlock ∨ ∃ k, v'.ownBlock = some k ∧ W.heap.size ≤ k) :
    w4.heap[B]? = some (.cells #[v] 22 (0, 0)) ∧ GatH W2 B v0 (L ++ [h]) v' (w4.setCell ⟨B, 0, none⟩ v') ∧ KeepsFrom W2.heap.size W (w4.setCell ⟨B, 0, none⟩ v') := by
  have hb4 : w4.heap[B]? = some (.cells #[v] 22 (0, 0)) := by
    refine (hf.block _ (lt_of_heap hG.box) (fun e => ?_)).trans hG.box
    obtain ⟨-, cur, hc⟩ := rowH_lt hG.row _ e
    rw [hG.box] at hc
    simp at hc
  have F6 : Fr (fun k => k = B) w4 (w4.setCell ⟨B, 0, none⟩ v') := (Fr.refl _ _).setB _ _
  refine ⟨hb4, ⟨by have := setH1 (j := 0) v' hb4; simpa using this, rowH_fr hr F6 (fun k hk e => ?_), ?_, ?_⟩, ?_⟩
  · have e' : k = B := e
    subst e'
    obtain ⟨-, cur, hc⟩ := rowH_lt hr _ hk
    rw [hb4] at hc
    simp at hc
  · rcases ho with e | ⟨k, e, e2⟩
    · rw [e]; exact hG.new
    · exact .inr ⟨k, e, Nat.le_trans hG.fr.size e2⟩
  · refine (hG.fr.mono (T := fun k => (k = B ∨ v0.ownBlock = some k) ∨ W2.heap.size ≤ k) (fun _ _ e => .inl e)).trans ((hf.mono (fun k _ e => ?_)).trans (F6.mono (fun k _ e => .inl (.inl e)))) |>.mono (fun k hk e => by
      rcases e with e | e
      · exact e
      · omega)
    rcases hG.new with e1 | ⟨k', e1, e2⟩
    · rw [e1] at e; exact .inl (.inr e)
    · rw [e1] at e; cases e; exact .inr e2
  · refine (keepsH hf (fun b o hb ho => ?_)).trans (keepsH F6 (fun b o hb ho => ?_))
    · obtain ⟨-, cur, hc⟩ := rowH_lt hG.row b hb
      rw [hc] at ho; cases ho; rfl
    · have hb' : b = B := hb
      subst hb'
      rw [hb4] at ho; cases ho; rfl
end Go.Proofs.YtplggcfoadjffaaGreatDoor
