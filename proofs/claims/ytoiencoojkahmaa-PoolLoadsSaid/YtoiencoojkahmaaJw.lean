/- Rows of elements of several cells, in memory of one's own. -/
import Derived.Test.YtoiencoojkahmaaIv
import Derived.Test.YtoiencoojkahmaaAv
namespace Go.Proofs.Ytoiencoojkahmaa
open Go.RowKit
set_option linter.unusedVariables false
set_option maxRecDepth 100000
set_option maxHeartbeats 4000000

/-- What f tells of 0, 1, .. one behind the other. -/
def catL (f : Nat → List Value) : Nat → List Value
  | 0 => []
  | k + 1 => catL f k ++ f k
theorem catL_length {f : Nat → List Value} {q : Nat} (hf : ∀ i, (f i).length = q) : ∀ k, (catL f k).length = k * q
  | 0 => by simp [catL]
  | k + 1 => by rw [catL, List.length_append, catL_length hf k, hf, Nat.succ_mul]
theorem catL_at {f : Nat → List Value} {q : Nat} (hf : ∀ i, (f i).length = q) {i l : Nat} (hl : l < q) : ∀ {k : Nat}, i < k → (catL f k)[i * q + l]? = (f i)[l]?
  | 0, h => absurd h (by omega)
  | k + 1, h => by
    rw [catL]
    by_cases e : i = k
    · subst e
      rw [List.getElem?_append_right (by rw [catL_length hf]; omega), catL_length hf]
      congr 1
      omega
    · have hik : i < k := by omega
      have h1 : i * q + l < k * q := by
        have : (i + 1) * q ≤ k * q := Nat.mul_le_mul_right q hik
        rw [Nat.succ_mul] at this
        omega
      rw [List.getElem?_append_left (by rw [catL_length hf]; exact h1)]
      exact catL_at hf hl hik
theorem catL_congr {f f' : Nat → List Value} : ∀ {k : Nat}, (∀ i, i < k → f i = f' i) → catL f k = catL f' k
  | 0, _ => rfl
  | k + 1, h => by rw [catL, catL, catL_congr (fun i hi => h i (by omega)), h k (by omega)]
/-- A slice of n elements of q cells each. -/
def RowG (e : TypeId) (q : Nat) (w : World) (v : Value) (n : Nat) (xs : List Value) : Prop := w.ownsRow 0 e q v n xs
section
variable {e : TypeId} {q : Nat} {w w' : World} {v : Value} {n : Nat} {xs : List Value}
theorem RowG.nil (e : TypeId) (q : Nat) (w : World) : RowG e q w (.slice none 0 0) 0 [] := ⟨by simp, .inl ⟨rfl, rfl⟩⟩
theorem RowG.form (h : RowG e q w v n xs) : ∃ a c, v = .slice a n c ∧ n ≤ c := by
  rcases h.2 with ⟨rfl, h0⟩ | ⟨g, cap, cur, rfl, h1, h2, h3, h4⟩
  · rw [h0]; exact ⟨none, 0, rfl, Nat.le_refl _⟩
  · exact ⟨_, _, rfl, h3⟩
theorem RowG.lt (h : RowG e q w v n xs) (k : Nat) (hk : v.ownBlock = some k) : k < w.heap.size ∧ ∃ cur, w.heap[k]? = some (.cells cur e (0, 0)) := by
  rcases h.2 with ⟨rfl, h0⟩ | ⟨g, cap, cur, rfl, h1, h2, h3⟩
  · simp [Value.ownBlock] at hk
  · simp [Value.ownBlock] at hk
    subst hk
    exact ⟨lt_of_heap h2, _, h2⟩
theorem RowG.fr {S : Nat → Prop} (h : RowG e q w v n xs) (hf : Fr S w w') (hs : ∀ k, v.ownBlock = some k → ¬ S k) : RowG e q w' v n xs := by
  obtain ⟨h0, h⟩ := h
  refine ⟨h0, ?_⟩
  rcases h with h | ⟨g, cap, cur, rfl, h1, h2, h3⟩
  · exact .inl h
  · exact .inr ⟨g, cap, cur, rfl, h1, by rw [hf.block g (lt_of_heap h2) (hs g rfl)]; exact h2, h3⟩
theorem RowG.len (h : RowG e q w v n xs) : xs.length = n * q := h.1
/-- The row's block. -/
theorem RowG.blk (h : RowG e q w v n xs) (hn : 0 < n) : ∃ g cap cur, v = .slice (some ⟨g, 0, none⟩) n cap ∧ w.heap[g]? = some (.cells cur e (0, 0)) ∧ ∀ (j : Nat) u, xs[j]? = some u → cur[j]? = some u := by
  obtain ⟨hl, ⟨rfl, h0⟩ | ⟨g, cap, cur, rfl, h1, h2, h3, h4, h5, h6⟩⟩ := h
  · omega
  · refine ⟨g, cap, cur, rfl, h2, fun j u hj => ?_⟩
    have hjl := (List.getElem?_eq_some_iff.1 hj).1
    rw [← h6, List.getElem?_take, if_pos (by rw [← hl]; exact hjl)] at hj
    rw [← Array.getElem?_toList]
    exact hj
/-- append(l, x) of one element of several cells, behind the block in which it lies. -/
theorem run_addG {t : TypeId} {i : TypeInfo} {z : Value} {bytes : Nat} (ht : Try.prog.underlying t = some (.slice e)) (hi : Try.prog.info? e = some i) (hz0 : i.zero = some z) (hz1 : i.size = q) (hz2 : i.bytes = bytes) (hzs : z.cells.size = q) (hq : 0 < q) (hb : bytes ≤ 1000) (h : RowG e q w v n xs) (x : List Value) (hx : x.length = q) (h1 : ∀ u ∈ x, u.oneCell' = true) (hfew : n ≤ 4000) :
    ∃ a' n' c' w', (Builtin.append_ #[t, t] t #[v, .slice (some ⟨w.heap.size, 0, none⟩) 1 1]).run Try.prog (w.alloc (.cells x.toArray e)) = .ok (.slice a' n' c') w' ∧ n' = n + 1 ∧ RowG e q w' (.slice a' n' c') n' (xs ++ x) ∧ Fr (fun k => v.ownBlock = some k) w w' ∧ ((Value.slice a' n' c').ownBlock = v.ownBlock ∨ ∃ k, (Value.slice a' n' c').ownBlock = some k ∧ w.heap.size ≤ k) := by
  have hal : Fr (fun _ => False) w (w.alloc (.cells x.toArray e)) := (Fr.refl _ _).alloc _
  have h9 : RowG e q (w.alloc (.cells x.toArray e)) v n xs := h.fr hal (fun _ _ => id)
  have hnews : ∀ (j : Nat) u, x[j]? = some u → (w.alloc (.cells x.toArray e)).cell? ((⟨w.heap.size, 0, none⟩ : Addr).add j) = some u := fun j u hj => by
    rw [add_none]
    refine cell_of_heap (heap_alloc_new w _) ?_
    rw [Nat.zero_add]
    simpa using hj
  have hby : ((n + 1) + (n + 1) / 4 + 192) * bytes ≤ 281474976710656 := by
    have : ((n + 1) + (n + 1) / 4 + 192) * bytes ≤ ((n + 1) + (n + 1) / 4 + 192) * 1000 := Nat.mul_le_mul_left _ hb
    omega
  obtain ⟨v', w', hr, ho, hg, hiff⟩ := run_append_own_wide (P := Try.prog) (w.alloc (.cells x.toArray e)) 0 t t e i z q bytes ht hi hz0 hz1 hz2 hzs hq v n xs h9 _ 1 1 x (by rw [hx, Nat.one_mul]) hnews h1 (by simp only [maxLen]; omega) hby (Nat.zero_le _)
  have hw := append_where (P := Try.prog) (w.alloc (.cells x.toArray e)) t t e i z ht hi hz0 v n xs (by rw [hz1]; exact h9) _ 1 1 x (by rw [hx, hz1, Nat.one_mul]) hnews h1 (by omega) (by omega) (by rw [hz2]; exact hby) v' w' hr
  have hR : RowG e q w' v' (n + 1) (xs ++ x) := ho
  obtain ⟨a', c', rfl, -⟩ := hR.form
  refine ⟨a', n + 1, c', w', hr, rfl, hR, (hal.mono (fun _ _ e => e.elim)).trans (Fr.of_grown hg), ?_⟩
  rcases hw with e | e
  · exact .inl e
  · exact .inr ⟨_, e, by simp⟩
end
end Go.Proofs.Ytoiencoojkahmaa
