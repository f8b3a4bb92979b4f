/- Frames in a row of one's own; append of one more, inside a fence. -/
import Derived.Test.YtdndhidinbmpdaaBs
import Derived.Test.YtdndhidinbmpdaaFy
import Derived.Test.YtdndhidinbmpdaaAv
namespace Go.Proofs.Ytdndhidinbmpdaa
open Go.RowKit
set_option linter.unusedVariables false
set_option maxRecDepth 100000
set_option maxHeartbeats 4000000

theorem wpListIn_append_wide2 {F : Fence} {nn : Nat} {P : Program} {ops : Array Oper} {rest : List Oper} {o : Oper} {a : Act} {w : World} {Q : Exit → Act → World → Prop} (hgd : o.guard = none) (s x : Operand) (t : TypeId)
    (ho : o.op = .call { callee := .builtin .append, args := #[s, x], argTypes := #[t, t] })
    (e : TypeId) (i : TypeInfo) (z : Value) (size bytes : Nat) (ht : P.underlying t = some (.slice e)) (hi : P.info? e = some i) (hz : i.zero = some z)
    (hsize : i.size = size) (hby : i.bytes = bytes) (hzs : z.cells.size = size) (hsz : 0 < size)
    (v : Value) (n : Nat) (xs : List Value) (hs : a.eval s = v) (hown : w.ownsRow 0 e size v n xs)
    (ad : Addr) (m c : Nat) (news : List Value) (hx : a.eval x = .slice (some ad) m c) (hm : 0 < m) (hl : news.length = m * size) (hnews : ∀ j u, news[j]? = some u → w.cell? (ad.add j) = some u) (h1 : ∀ u ∈ news, u.oneCell' = true)
    (h63 : n + m ≤ maxLen) (hbytes : ((n + m) + (n + m) / 4 + 192) * bytes ≤ 281474976710656)
    (h : ∀ a' n' c' w', Hid (n' = n + m) → Hid (w'.ownsRow 0 e size (.slice a' n' c') (n + m) (xs ++ news)) → Hid (Fr (fun k => v.ownBlock = some k) w w') → Hid ((Value.slice a' n' c').ownBlock = v.ownBlock ∨ (Value.slice a' n' c').ownBlock = some w.heap.size) → wpListIn F nn P ops Q rest (a.put o.dst (.slice a' n' c')) w') : wpListIn F nn P ops Q (o :: rest) a w := by
  refine wpListIn_plain hgd fun K hK => ?_
  obtain ⟨v', w', hr, h2, h3, h4⟩ := run_append_own_wide (P := P) w 0 t o.type e i z size bytes ht hi hz hsize hby hzs hsz v n xs hown ad m c news hl hnews h1 h63 hbytes (Nat.zero_le _)
  subst hsize
  subst hby
  have h5 := append_where (P := P) w t o.type e i z ht hi hz v n xs hown ad m c news hl hnews h1 hm h63 hbytes v' w' hr
  obtain ⟨a', c', rfl⟩ : ∃ a' c', v' = .slice a' (n + m) c' := by
    rcases h2.2 with ⟨rfl, h0⟩ | ⟨g, cap, cur, rfl, -⟩
    · omega
    · exact ⟨_, _, rfl⟩
  unfold Oper.wpIn
  refine ⟨?_, ?_⟩
  · simp [Oper.about, ho, resolve, Target.leads, Sem.run_pure]
  · rw [Oper.semAt_plain F _ _ (by rw [ho]; intro c hc'; cases hc')]
    simp [execOp, ho, resolve, invoke, builtin, hs, hx, hr, Result.andThen]
    exact hK _ _ (h a' (n + m) c' w' rfl h2 (Fr.of_grown h3) h5)

/-- Only what is no cells has changed. -/
theorem Fr.of_own {B : Nat} {X Y : World} {row : Option Nat} (hg : X.grownBy Y row) (hr : ∀ r, row = some r → B ≤ r ∧ ∃ o : Obj, X.heap[r]? = some o ∧ o.isCells = false) : Fr (fun k => ∃ o : Obj, X.heap[k]? = some o ∧ o.isCells = false) X Y :=
  ⟨hg.os, hg.tape, hg.output, hg.size, fun k hk hs => hg.block k hk (fun e => hs (hr k e.symm).2)⟩
theorem cells_not {X : World} {k : Nat} {cs : Array Value} {t : TypeId} {fr : Nat × Nat} (h : X.heap[k]? = some (.cells cs t fr)) : ¬ ∃ o : Obj, X.heap[k]? = some o ∧ o.isCells = false := by
  rintro ⟨o, h1, h2⟩
  rw [h] at h1
  cases h1
  cases h2
theorem cell_not {X : World} {ad : Addr} {v : Value} (h : X.cell? ad = some v) : ¬ ∃ o : Obj, X.heap[ad.block]? = some o ∧ o.isCells = false := by
  rintro ⟨o, h1, h2⟩
  unfold World.cell? at h
  rw [h1] at h
  cases o <;> simp_all [Obj.isCells]

/-- Frames in a row of one's own, made since n0, each with its payload in a block of its own, and no settings. -/
structure Frs (n0 : Nat) (w : World) (v : Value) (ls : List FM) : Prop where
  row : w.ownsRow 0 34 12 v ls.length (frows ls)
  new : ∀ k, v.ownBlock = some k → n0 ≤ k
  pay : ∀ z ∈ ls, OwnAt w 5 (.slice z.2.1 z.1.X.length z.2.2.1) (bv z.1.X) ∧ z.2.2.2 = (none, 0) ∧ (∀ ad, z.2.1 = some ad → n0 ≤ ad.block)
theorem Frs.nil (n0 : Nat) (w : World) : Frs n0 w (.slice none 0 0) [] := ⟨⟨rfl, .inl ⟨rfl, rfl⟩⟩, fun k hk => by simp [Value.ownBlock] at hk, fun z hz => by cases hz⟩
theorem Frs.fr {n0 : Nat} {S : Nat → Prop} {w w' : World} {v : Value} {ls : List FM} (h : Frs n0 w v ls) (hf : Fr S w w') (hs : ∀ k cur t, n0 ≤ k → w.heap[k]? = some (.cells cur t (0, 0)) → t = 34 ∨ t = 5 → ¬ S k) : Frs n0 w' v ls := by
  refine ⟨row_fr h.row hf (fun k hk => ?_), h.new, fun z hz => ?_⟩
  · obtain ⟨-, cur, hc⟩ := row_lt h.row k hk
    exact hs k cur _ (h.new k hk) hc (.inl rfl)
  · obtain ⟨h1, h2, h3⟩ := h.pay z hz
    refine ⟨h1.fr hf (fun k hk => ?_), h2, h3⟩
    rcases h1 with ⟨e, -⟩ | ⟨g, off, cap, cur, e, hg, -⟩
    · rw [e] at hk; simp [Value.ownBlock] at hk
    · rw [e] at hk
      simp [Value.ownBlock] at hk
      subst hk
      exact hs _ cur _ (h3 _ (Value.slice.inj e).1) hg (.inr rfl)
theorem Frs.later {n0 : Nat} {w w' : World} {v : Value} {ls : List FM} (h : Frs n0 w v ls) (hf : Fr (fun _ => False) w w') : Frs n0 w' v ls := h.fr hf (fun _ _ _ _ _ _ => id)
theorem OwnAt.own3 {X Y : World} {e : TypeId} {v : Value} {xs : List Value} (h : OwnAt X e v xs) (hf : Fr (fun k => ∃ o : Obj, X.heap[k]? = some o ∧ o.isCells = false) X Y) : OwnAt Y e v xs := h.fr hf (fun k hk => by
  rcases h with ⟨rfl, -⟩ | ⟨g, off, cap, cur, rfl, hg, -⟩
  · simp [Value.ownBlock] at hk
  · simp [Value.ownBlock] at hk; subst hk; exact cells_not hg)
theorem SrcAt.own3 {X Y : World} {p : Option Addr} {b : List UInt8} (h : SrcAt X p b) (hf : Fr (fun k => ∃ o : Obj, X.heap[k]? = some o ∧ o.isCells = false) X Y) : SrcAt Y p b := h.fr hf (fun ad e hl => by
  obtain ⟨ad', e', hc⟩ := h 0 b[0] (by simp)
  rw [e] at e'
  cases e'
  have := cell_not hc
  have hb : (ad.add 0).block = ad.block := by unfold Addr.add; split <;> rfl
  rwa [hb] at this)
theorem fragZ.own3 {mb bb M : Nat} {p : Option Addr} {X : List UInt8} {c n0 : Nat} {W W' : World} (h : fragZ mb bb M p X c n0 W) (hf : Fr (fun k => ∃ o : Obj, W.heap[k]? = some o ∧ o.isCells = false) W W') : fragZ mb bb M p X c n0 W' := by
  obtain ⟨⟨t1, h1⟩, ⟨t2, h2⟩, h3, h4⟩ := h
  exact ⟨⟨t1, (hf.block _ (lt_of_heap h1) (cells_not h1)).trans h1⟩, ⟨t2, (hf.block _ (lt_of_heap h2) (cells_not h2)).trans h2⟩, h3.own3 hf, Nat.le_trans h4 hf.size⟩
theorem Frs.own3 {n0 : Nat} {X Y : World} {v : Value} {ls : List FM} (h : Frs n0 X v ls) (hf : Fr (fun k => ∃ o : Obj, X.heap[k]? = some o ∧ o.isCells = false) X Y) : Frs n0 Y v ls := h.fr hf (fun k cur t _ hk _ => cells_not hk)

/-- One frame more. -/
theorem Frs.add {n0 : Nat} {w w' : World} {v v' : Value} {ls : List FM} {z : FM} (h : Frs n0 w v ls) (hz : OwnAt w 5 (.slice z.2.1 z.1.X.length z.2.2.1) (bv z.1.X) ∧ z.2.2.2 = (none, 0) ∧ (∀ ad, z.2.1 = some ad → n0 ≤ ad.block))
    (hr : w'.ownsRow 0 34 12 v' (ls.length + 1) (frows ls ++ fcl z)) (hf : Fr (fun k => v.ownBlock = some k) w w') (ho : v'.ownBlock = v.ownBlock ∨ ∃ k, v'.ownBlock = some k ∧ n0 ≤ k) : Frs n0 w' v' (ls ++ [z]) := by
  have hne : ∀ (x : Value) (xs : List Value), OwnAt w 5 x xs → ∀ k, x.ownBlock = some k → ¬ v.ownBlock = some k := fun x xs hx k hk e => by
    obtain ⟨-, cur, hc⟩ := row_lt h.row k e
    rcases hx with ⟨rfl, -⟩ | ⟨g, off, cap, cur2, rfl, hg, -⟩
    · simp [Value.ownBlock] at hk
    · simp [Value.ownBlock] at hk; subst hk; rw [hc] at hg; simp at hg
  refine ⟨by rw [frows_snoc, List.length_append]; exact hr, fun k hk => ?_, fun y hy => ?_⟩
  · rcases ho with e | ⟨k', e, e2⟩
    · exact h.new k (by rw [← e]; exact hk)
    · rw [e] at hk; cases hk; exact e2
  · rcases List.mem_append.1 hy with h1 | h1
    · obtain ⟨a1, a2, a3⟩ := h.pay y h1
      exact ⟨a1.fr hf (hne _ _ a1), a2, a3⟩
    · rw [List.mem_singleton.1 h1]
      exact ⟨hz.1.fr hf (hne _ _ hz.1), hz.2⟩

/-- A cell of the row is stored. -/
theorem row_set {w : World} {e : TypeId} {s n g cap : Nat} {xs : List Value} (h : w.ownsRow 0 e s (.slice (some ⟨g, 0, none⟩) n cap) n xs) (j : Nat) (hj : j < n * s) (u : Value) : (w.setCell ⟨g, j, none⟩ u).ownsRow 0 e s (.slice (some ⟨g, 0, none⟩) n cap) n (xs.set j u) := by
  obtain ⟨h1, (⟨e1, -⟩ | ⟨g', cap', cur, e1, h2, h3, h4, h5, h6, h7⟩)⟩ := h
  · cases e1
  · cases e1
    refine ⟨by rw [List.length_set]; exact h1, .inr ⟨g, cap, cur.setIfInBounds j u, rfl, h2, ?_, h4, h5, by simpa using h6, ?_⟩⟩
    · rw [setCell_eq_setRow w g _ cur e _ _ h3]
      exact setRow_heap w g cur _ e _ h3
    · rw [Array.toList_setIfInBounds, ← h7, List.take_set]
theorem frows_set : ∀ {ls : List FM} {i j : Nat} {z z' : FM} {u : Value}, ls[i]? = some z → j < 12 → fcl z' = (fcl z).set j u → (frows ls).set (i * 12 + j) u = frows (ls.set i z')
  | [], i, j, z, z', u, h, _, _ => by simp at h
  | y :: l, 0, j, z, z', u, h, hj, hz => by
    simp at h
    subst h
    simp only [frows, List.map_cons, List.flatten_cons, Nat.zero_mul, Nat.zero_add, List.set_cons_zero, hz]
    rw [List.set_append_left _ _ (by simpa [fcl] using hj)]
  | y :: l, i + 1, j, z, z', u, h, hj, hz => by
    have ih := frows_set (ls := l) (i := i) (u := u) (z' := z') (by simpa using h) hj hz
    simp only [frows, List.map_cons, List.flatten_cons, List.set_cons_succ] at ih ⊢
    rw [List.set_append_right _ _ (by simp [fcl]; omega), ← ih]
    congr 2
    simp [fcl]
    omega
theorem frow_at : ∀ {ls : List FM} {i j : Nat} {z : FM} {u : Value}, ls[i]? = some z → (fcl z)[j]? = some u → (frows ls)[i * 12 + j]? = some u
  | [], i, j, z, u, h, _ => by simp at h
  | y :: l, 0, j, z, u, h, hz => by
    simp at h
    subst h
    simp only [frows, List.map_cons, List.flatten_cons, Nat.zero_mul, Nat.zero_add]
    rw [List.getElem?_append_left (List.getElem?_eq_some_iff.1 hz).1]
    exact hz
  | y :: l, i + 1, j, z, u, h, hz => by
    have ih := frow_at (ls := l) (i := i) (by simpa using h) hz
    simp only [frows, List.map_cons, List.flatten_cons] at ih ⊢
    rw [List.getElem?_append_right (by simp [fcl]; omega), ← ih]
    congr 1
    simp [fcl]
    omega
theorem row_at {w : World} {e : TypeId} {s n g cap : Nat} {xs : List Value} (h : w.ownsRow 0 e s (.slice (some ⟨g, 0, none⟩) n cap) n xs) {j : Nat} {u : Value} (hj : xs[j]? = some u) : w.cell? ⟨g, j, none⟩ = some u ∧ w.frozen? ⟨g, j, none⟩ = false := by
  obtain ⟨h1, (⟨e1, -⟩ | ⟨g', cap', cur, e1, h2, h3, h4, h5, h6, h7⟩)⟩ := h
  · cases e1
  · cases e1
    refine ⟨cell_of_heap h3 ?_, frozen_of_heap h3⟩
    rw [← h7, List.getElem?_take] at hj
    split at hj
    · rw [← Array.getElem?_toList]; exact hj
    · cases hj
theorem Frs.set {n0 : Nat} {w : World} {g n cap : Nat} {ls : List FM} (h : Frs n0 w (.slice (some ⟨g, 0, none⟩) n cap) ls) (hn : ls.length = n) {i j : Nat} {z z' : FM} {u : Value} (hz : ls[i]? = some z) (hj : j < 12) (hf : fcl z' = (fcl z).set j u) (h2 : z'.2 = z.2) (hX : z'.1.X = z.1.X) :
    Frs n0 (w.setCell ⟨g, i * 12 + j, none⟩ u) (.slice (some ⟨g, 0, none⟩) n cap) (ls.set i z') := by
  have hi := (List.getElem?_eq_some_iff.1 hz).1
  have hr : w.ownsRow 0 34 12 (.slice (some ⟨g, 0, none⟩) n cap) n (frows ls) := by have := h.row; rwa [hn] at this
  have hfr : Fr (fun k => k = g) w (w.setCell ⟨g, i * 12 + j, none⟩ u) := (Fr.refl _ _).setB _ _
  obtain ⟨-, cur, hc⟩ := row_lt hr g rfl
  refine ⟨?_, h.new, fun y hy => ?_⟩
  · rw [List.length_set, hn, ← frows_set hz hj hf]
    exact row_set hr _ (by omega) u
  · have hy' : (∃ y', y' ∈ ls ∧ y.2 = y'.2 ∧ y.1.X = y'.1.X) := by
      rcases List.mem_or_eq_of_mem_set hy with h1 | h1
      · exact ⟨y, h1, rfl, rfl⟩
      · exact ⟨z, List.mem_of_getElem? hz, by rw [h1, h2], by rw [h1, hX]⟩
    obtain ⟨y', h1, e1, e2⟩ := hy'
    obtain ⟨a1, a2, a3⟩ := h.pay y' h1
    rw [e1, e2]
    refine ⟨a1.fr hfr (fun k hk e => ?_), a2, a3⟩
    have e' : k = g := e
    subst e'
    rcases a1 with ⟨e3, -⟩ | ⟨g', off, cap', cur2, e3, hg, -⟩
    · rw [e3] at hk; simp [Value.ownBlock] at hk
    · rw [e3] at hk
      simp [Value.ownBlock] at hk
      subst hk
      rw [hc] at hg
      simp at hg
theorem Frs.cell {n0 : Nat} {w : World} {g n cap : Nat} {ls : List FM} (h : Frs n0 w (.slice (some ⟨g, 0, none⟩) n cap) ls) (hn : ls.length = n) {i j : Nat} {z : FM} {u : Value} (hz : ls[i]? = some z) (hj : (fcl z)[j]? = some u) : w.cell? ⟨g, i * 12 + j, none⟩ = some u ∧ w.frozen? ⟨g, i * 12 + j, none⟩ = false := by
  have hr : w.ownsRow 0 34 12 (.slice (some ⟨g, 0, none⟩) n cap) n (frows ls) := by have := h.row; rwa [hn] at this
  exact row_at hr (frow_at hz hj)
end Go.Proofs.Ytdndhidinbmpdaa
