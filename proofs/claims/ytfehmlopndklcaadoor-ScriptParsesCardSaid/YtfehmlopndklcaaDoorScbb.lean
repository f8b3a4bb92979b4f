/- Events gathered in a row of one's own; what a script is. -/
import Derived.Test.YtfehmlopndklcaaDoorAv
import Derived.Test.YtfehmlopndklcaaDoorBr
import Derived.Test.YtfehmlopndklcaaDoorScg
import Derived.Deep.DeepAppendWide
namespace Go.Proofs.YtfehmlopndklcaaDoor
open Go.RowKit
set_option linter.unusedVariables false
set_option maxRecDepth 100000
set_option maxHeartbeats 4000000

theorem rowE_fr {S : Nat → Prop} {w w' : World} {e : TypeId} {s n : Nat} {v : Value} {xs : List Value} (h : w.ownsRow 0 e s v n xs) (hf : Fr S w w') (hs : ∀ k, v.ownBlock = some k → ¬ S k) : w'.ownsRow 0 e s v n xs := by
  refine ⟨h.1, ?_⟩
  rcases h.2 with h2 | ⟨g, cap, cur, rfl, h3, h4, h5⟩
  · exact .inl h2
  · exact .inr ⟨g, cap, cur, rfl, h3, (hf.block g (lt_of_heap h4) (hs g rfl)).trans h4, h5⟩
theorem rowE_lt {w : World} {e : TypeId} {s n : Nat} {v : Value} {xs : List Value} (h : w.ownsRow 0 e s v n xs) : ∀ k, v.ownBlock = some k → k < w.heap.size ∧ ∃ cur, w.heap[k]? = some (.cells cur e (0, 0)) := by
  intro k hk
  rcases h.2 with ⟨rfl, -⟩ | ⟨g, cap, cur, rfl, h3, h4, h5⟩
  · simp [Value.ownBlock] at hk
  · simp [Value.ownBlock] at hk
    subst hk
    exact ⟨lt_of_heap h4, cur, h4⟩
theorem wpListIn_wide4 {F : Fence} {nn : Nat} {P : Program} {ops : Array Oper} {rest : List Oper} {o : Oper} {a : Act} {w : World} {Q : Exit → Act → World → Prop} (hgd : o.guard = none) (s x : Operand) (t : TypeId)
    (ho : o.op = .call { callee := .builtin .append, args := #[s, x], argTypes := #[t, t] })
    (e : TypeId) (i : TypeInfo) (z : Value) (size bytes : Nat) (ht : P.underlying t = some (.slice e)) (hi : P.info? e = some i) (hz : i.zero = some z)
    (hsize : i.size = size) (hby : i.bytes = bytes) (hzs : z.cells.size = size) (hsz : 0 < size)
    (v : Value) (n : Nat) (xs : List Value) (hs : a.eval s = v) (hown : w.ownsRow 0 e size v n xs)
    (ad : Addr) (m c : Nat) (news : List Value) (hx : a.eval x = .slice (some ad) m c) (hm : 0 < m) (hl : news.length = m * size) (hnews : ∀ j u, news[j]? = some u → w.cell? (ad.add j) = some u) (h1 : ∀ u ∈ news, u.oneCell' = true)
    (h63 : n + m ≤ maxLen) (hbytes : ((n + m) + (n + m) / 4 + 192) * bytes ≤ 281474976710656)
    (h : ∀ a' n' c' w', Hid (n' = n + m) → Hid (w'.ownsRow 0 e size (.slice a' n' c') (n + m) (xs ++ news)) → Hid (Fr (fun k => v.ownBlock = some k) w w') → Hid ((Value.slice a' n' c').ownBlock = v.ownBlock ∨ (Value.slice a' n' c').ownBlock = some w.heap.size) → wpListIn F nn P ops Q rest (a.put o.dst (.slice a' n' c')) w') : wpListIn F nn P ops Q (o :: rest) a w := by
  refine wpListIn_plain hgd fun K hK => ?_
  obtain ⟨v', w', hr, h2, h3, h4⟩ := run_append_own_wide (P := P) w 0 t o.type e i z size bytes ht hi hz hsize hby hzs hsz v n xs hown ad m c news hl hnews h1 h63 hbytes (Nat.zero_le _)
  subst hsize
  subst hby
  have h5 := append_where (P := P) w t o.type e i z ht hi hz v n xs hown ad m c news hl hnews h1 hm h63 hbytes v' w' hr
  obtain ⟨a', c', rfl⟩ : ∃ a' c', v' = .slice a' (n + m) c' := by
    rcases h2.2 with ⟨rfl, h0⟩ | ⟨g, cap, cur, rfl, -⟩
    · omega
    · exact ⟨_, _, rfl⟩
  unfold Oper.wpIn
  refine ⟨?_, ?_⟩
  · simp [Oper.about, ho, resolve, Target.leads, Sem.run_pure]
  · rw [Oper.semAt_plain F _ _ (by rw [ho]; intro c hc'; cases hc')]
    simp [execOp, ho, resolve, invoke, builtin, hs, hx, hr, Result.andThen]
    exact hK _ _ (h a' (n + m) c' w' rfl h2 (Fr.of_grown h3) h5)
/-- An event's cells. -/
def evP (p : Dr × Value) : List Value := [.int .i64 p.1.what, .int .i64 p.1.a, .int .i64 p.1.b, .int .i64 p.1.d, p.2]
def evC (L : List (Dr × Value)) : List Value := L.flatMap evP
theorem evC_len : ∀ L : List (Dr × Value), (evC L).length = 5 * L.length
  | [] => rfl
  | p :: r => by
    have := evC_len r
    unfold evC at this ⊢
    rw [List.flatMap_cons, List.length_append, this, List.length_cons]
    simp [evP]; omega
theorem evC_snoc (L : List (Dr × Value)) (p : Dr × Value) : evC (L ++ [p]) = evC L ++ evP p := by simp [evC]
theorem evC_at : ∀ (L : List (Dr × Value)) (i j : Nat) (p : Dr × Value) (u : Value), L[i]? = some p → (evP p)[j]? = some u → (evC L)[5 * i + j]? = some u
  | [], i, j, p, u, h, _ => by simp at h
  | q :: r, 0, j, p, u, h, hj => by
    simp at h
    subst h
    have hl : j < (evP q).length := (List.getElem?_eq_some_iff.1 hj).1
    unfold evC
    rw [List.flatMap_cons, List.getElem?_append_left (by omega), ← hj]
    simp
  | q :: r, i + 1, j, p, u, h, hj => by
    have ih := evC_at r i j p u (by simpa using h) hj
    unfold evC at ih ⊢
    have hl : (evP q).length = 5 := rfl
    rw [List.flatMap_cons, List.getElem?_append_right (by omega), hl, show 5 * (i + 1) + j - 5 = 5 * i + j by omega]
    exact ih
theorem info_ev : ∃ i, Tryd.prog.info? 24 = some i ∧ i.zero = some (.agg #[.int .i64 0, .int .i64 0, .int .i64 0, .int .i64 0, .slice none 0 0]) ∧ i.size = 5 ∧ i.bytes = 56 := ⟨(Tryd.prog.info? 24).get (by kernel_rfl), by kernel_rfl, by kernel_rfl, by kernel_rfl, by kernel_rfl⟩
/-- append(l, e) of events, inside a fence. -/
theorem wpListIn_addE {F : Fence} {nn : Nat} {ops : Array Oper} {rest : List Oper} {o : Oper} {a : Act} {w : World} {Q : Exit → Act → World → Prop} (hgd : o.guard = none) (s x : Operand)
    (ho : o.op = .call { callee := .builtin .append, args := #[s, x], argTypes := #[33, 33] })
    (v : Value) (L : List (Dr × Value)) (p : Dr × Value) (hs : a.eval s = v) (hp : p.2.oneCell' = true) (hown : w.ownsRow 0 24 5 v L.length (evC L)) (hx : a.eval x = .slice (some ⟨w.heap.size, 0, none⟩) 1 1) (hfew : L.length ≤ 100000)
    (hn : ∀ a' n' c' w', Hid (n' = L.length + 1) → Hid (w'.ownsRow 0 24 5 (.slice a' n' c') (L ++ [p]).length (evC (L ++ [p]))) → Hid (Fr (fun k => v.ownBlock = some k) w w') → Hid ((Value.slice a' n' c').ownBlock = v.ownBlock ∨ ∃ k, (Value.slice a' n' c').ownBlock = some k ∧ w.heap.size ≤ k) → wpListIn F nn Tryd.prog ops Q rest (a.put o.dst (.slice a' n' c')) w') : wpListIn F nn Tryd.prog ops Q (o :: rest) a (w.alloc (.cells #[.int .i64 p.1.what, .int .i64 p.1.a, .int .i64 p.1.b, .int .i64 p.1.d, p.2] 24)) := by
  obtain ⟨i, hi, hz0, hz1, hz2⟩ := info_ev
  have hal : Fr (fun _ => False) w (w.alloc (.cells #[.int .i64 p.1.what, .int .i64 p.1.a, .int .i64 p.1.b, .int .i64 p.1.d, p.2] 24)) := (Fr.refl _ _).alloc _
  refine wpListIn_wide4 hgd s x 33 ho 24 i (.agg #[.int .i64 0, .int .i64 0, .int .i64 0, .int .i64 0, .slice none 0 0]) 5 56 Tryd.underlying33 hi hz0 hz1 hz2 rfl (by decide) v L.length (evC L) hs (rowE_fr hown hal (fun _ _ => id)) ⟨w.heap.size, 0, none⟩ 1 1 (evP p) hx (by decide) rfl (fun j u hj => ?_) (fun u hu => by
    simp only [evP, List.mem_cons, List.not_mem_nil, or_false] at hu
    rcases hu with rfl | rfl | rfl | rfl | rfl
    · rfl
    · rfl
    · rfl
    · rfl
    · exact hp) (by unfold maxLen; omega) (by omega) ?_
  · rw [add_none, Nat.zero_add]
    refine cell_of_heap (heap_alloc_new w _) ?_
    rw [← Array.getElem?_toList]
    exact hj
  · intro a' n' c' w' N' O' F' K'
    refine hn a' n' c' w' N' (by rw [evC_snoc, List.length_append]; exact O'.out) ((hal.mono (fun _ _ e => e.elim)).trans F'.out) ?_
    rcases K'.out with e | e
    · exact .inl e
    · exact .inr ⟨_, e, by simp⟩
/-- append(l, e) of events. -/
theorem wpList_addE {ops : Array Oper} {rest : List Oper} {o : Oper} {a : Act} {w : World} {Q : Exit → Act → World → Prop} (hgd : o.guard = none) (s x : Operand)
    (ho : o.op = .call { callee := .builtin .append, args := #[s, x], argTypes := #[33, 33] })
    (v : Value) (L : List (Dr × Value)) (p : Dr × Value) (hs : a.eval s = v) (hp : p.2.oneCell' = true) (hown : w.ownsRow 0 24 5 v L.length (evC L)) (hx : a.eval x = .slice (some ⟨w.heap.size, 0, none⟩) 1 1) (hfew : L.length ≤ 100000)
    (hn : ∀ a' n' c' w', Hid (n' = L.length + 1) → Hid (w'.ownsRow 0 24 5 (.slice a' n' c') (L ++ [p]).length (evC (L ++ [p]))) → Hid (Fr (fun k => v.ownBlock = some k) w w') → Hid ((Value.slice a' n' c').ownBlock = v.ownBlock ∨ ∃ k, (Value.slice a' n' c').ownBlock = some k ∧ w.heap.size ≤ k) → wpList Tryd.prog ops Q rest (a.put o.dst (.slice a' n' c')) w') : wpList Tryd.prog ops Q (o :: rest) a (w.alloc (.cells #[.int .i64 p.1.what, .int .i64 p.1.a, .int .i64 p.1.b, .int .i64 p.1.d, p.2] 24)) := by
  obtain ⟨i, hi, hz0, hz1, hz2⟩ := info_ev
  have hal : Fr (fun _ => False) w (w.alloc (.cells #[.int .i64 p.1.what, .int .i64 p.1.a, .int .i64 p.1.b, .int .i64 p.1.d, p.2] 24)) := (Fr.refl _ _).alloc _
  refine wpList_append_wide2 hgd s x 33 ho 24 i (.agg #[.int .i64 0, .int .i64 0, .int .i64 0, .int .i64 0, .slice none 0 0]) 5 56 Tryd.underlying33 hi hz0 hz1 hz2 rfl (by decide) v L.length (evC L) hs (rowE_fr hown hal (fun _ _ => id)) ⟨w.heap.size, 0, none⟩ 1 1 (evP p) hx (by decide) rfl (fun j u hj => ?_) (fun u hu => by
    simp only [evP, List.mem_cons, List.not_mem_nil, or_false] at hu
    rcases hu with rfl | rfl | rfl | rfl | rfl
    · rfl
    · rfl
    · rfl
    · rfl
    · exact hp) (by unfold maxLen; omega) (by omega) ?_
  · rw [add_none, Nat.zero_add]
    refine cell_of_heap (heap_alloc_new w _) ?_
    rw [← Array.getElem?_toList]
    exact hj
  · intro a' n' c' w' N' O' F' K'
    refine hn a' n' c' w' N' (by rw [evC_snoc, List.length_append]; exact O'.out) ((hal.mono (fun _ _ e => e.elim)).trans F'.out) ?_
    rcases K'.out with e | e
    · exact .inl e
    · exact .inr ⟨_, e, by simp⟩
/-- A line that is no event. -/
def isSkip (p : List UInt8) : Bool := p.isEmpty || p.head? == some 35
/-- The lines of a script, one behind the other; n: how many are over. -/
def scGo : List (List UInt8) → Nat → List Dr → List Dr ⊕ (Nat × Int)
  | [], _, acc => .inl acc
  | p :: r, n, acc => if isSkip p = true then scGo r (n + 1) acc else match lineO p with
    | .inr _ => .inr (n + 1, 4)
    | .inl x => if acc.length = 4096 then .inr (n + 1, 2) else scGo r (n + 1) (acc ++ [x])
def scriptO (l : List UInt8) : List Dr ⊕ (Nat × Int) := scGo (cuts 10 l) 0 []
theorem scGo_step {L : List (List UInt8)} {k : Nat} {p : List UInt8} {acc : List Dr} (h : L[k]? = some p) : scGo (L.drop k) k acc = if isSkip p = true then scGo (L.drop (k + 1)) (k + 1) acc else match lineO p with
    | .inr _ => .inr (k + 1, 4)
    | .inl x => if acc.length = 4096 then .inr (k + 1, 2) else scGo (L.drop (k + 1)) (k + 1) (acc ++ [x]) := by
  obtain ⟨hl, rfl⟩ := List.getElem?_eq_some_iff.1 h
  rw [List.drop_eq_getElem_cons hl]
  rfl
/-- Events in memory: a row of one's own, each with its bytes. -/
structure EvAt (W : World) (v : Value) (L : List (Dr × Value)) : Prop where
  row : W.ownsRow 0 24 5 v L.length (evC L)
  dat : ∀ p ∈ L, BAt W p.2 p.1.dat
theorem EvAt.nil (W : World) : EvAt W (.slice none 0 0) [] := ⟨⟨rfl, .inl ⟨rfl, rfl⟩⟩, fun p h => by cases h⟩
theorem EvAt.fr {S : Nat → Prop} {W W' : World} {v : Value} {L : List (Dr × Value)} (h : EvAt W v L) (hf : Fr S W W') (hs : ∀ k, v.ownBlock = some k → ¬ S k) (h5 : ∀ k cs fr, W.heap[k]? = some (.cells cs 5 fr) → ¬ S k) : EvAt W' v L :=
  ⟨rowE_fr h.row hf hs, fun p hp => (h.dat p hp).fr hf h5⟩
theorem EvAt.old {W W' : World} {v : Value} {L : List (Dr × Value)} (h : EvAt W v L) (hf : Fr (fun _ => False) W W') : EvAt W' v L := h.fr hf (fun _ _ => id) (fun _ _ _ _ => id)
theorem EvAt.form {W : World} {v : Value} {L : List (Dr × Value)} (h : EvAt W v L) : ∃ q c, v = .slice q L.length c := by
  rcases h.row.2 with ⟨rfl, e⟩ | ⟨g, cap, cur, rfl, -⟩
  · exact ⟨none, 0, by rw [e]⟩
  · exact ⟨_, _, rfl⟩
/-- An event's cells in memory. -/
theorem EvAt.at_ {W : World} {q : Option Addr} {n c : Nat} {L : List (Dr × Value)} (h : EvAt W (.slice q n c) L) {i : Nat} {p : Dr × Value} (hp : L[i]? = some p) : ∃ g, q = some ⟨g, 0, none⟩ ∧ ∀ j u, (evP p)[j]? = some u → W.cell? ⟨g, 5 * i + j, none⟩ = some u := by
  rcases h.row.2 with ⟨e, e0⟩ | ⟨g, cap, cur, e, h3, h4, h5⟩
  · have := (List.getElem?_eq_some_iff.1 hp).1
    omega
  · injection e with e1 e2 e3
    refine ⟨g, e1, fun j u hj => cell_of_heap h4 ?_⟩
    have hh := evC_at L i j p u hp hj
    rw [← h5.2.2.2, List.getElem?_take] at hh
    split at hh
    · rw [← Array.getElem?_toList]; exact hh
    · cases hh
end Go.Proofs.YtfehmlopndklcaaDoor
