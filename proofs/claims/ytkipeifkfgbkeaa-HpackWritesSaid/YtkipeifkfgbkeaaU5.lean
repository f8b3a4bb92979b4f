/- Contract of Add. -/
import Derived.Test.YtkipeifkfgbkeaaU4
import Derived.Deep.RegionHeldLaw
namespace Go.Proofs.Ytkipeifkfgbkeaa
open Go.RowKit
set_option maxRecDepth 100000
set_option maxHeartbeats 8000000
set_option linter.unusedVariables false

/-- Behind Add: the oldest fell; the new one is the last, if it fits. -/
def added (m : Nat) (E : List (ByteArray × ByteArray)) (e : ByteArray × ByteArray) : List (ByteArray × ByteArray) :=
  if m < esz e then fallen ((m : Int) - esz e) E else fallen ((m : Int) - esz e) E ++ [e]
theorem fallen_le (n : Int) (E : List (ByteArray × ByteArray)) : total (fallen n E) ≤ total E := by
  induction E with
  | nil => exact Nat.le_refl _
  | cons e r ih =>
    simp only [fallen]
    split
    · simp only [total]; omega
    · exact Nat.le_refl _
theorem fallen_fits (n : Int) (E : List (ByteArray × ByteArray)) (h : 0 ≤ n) : ((total (fallen n E) : Nat) : Int) ≤ n := by
  induction E with
  | nil => simpa [fallen, total] using h
  | cons e r ih =>
    simp only [fallen]
    split
    · exact ih
    · omega
theorem fallen_neg (n : Int) (E : List (ByteArray × ByteArray)) (h : n < 0) : fallen n E = [] := by
  induction E with
  | nil => rfl
  | cons e r ih =>
    simp only [fallen]
    rw [if_pos (by omega)]
    exact ih
theorem added_fits (m : Nat) (E : List (ByteArray × ByteArray)) (e : ByteArray × ByteArray) : total (added m E e) ≤ m := by
  unfold added
  split
  · rw [fallen_neg _ _ (by omega)]; simp [total]
  · have h := fallen_fits ((m : Int) - esz e) E (by omega)
    rw [total_append]
    simp only [total]
    omega

/-- Where what append yields lies: where it lay, or in a new block. -/
theorem append_where {P : Program} (w : World) (t ty e : TypeId) (i : TypeInfo) (z : Value) (ht : P.underlying t = some (.slice e)) (hi : P.info? e = some i) (hz : i.zero = some z)
    (v : Value) (n : Nat) (xs : List Value) (hown : w.ownsRow 0 e i.size v n xs)
    (a : Addr) (m c : Nat) (news : List Value) (hl : news.length = m * i.size) (hnews : ∀ j u, news[j]? = some u → w.cell? (a.add j) = some u) (h1 : ∀ u ∈ news, u.oneCell' = true)
    (hm : 0 < m) (h63 : n + m ≤ 9223372036854775807) (hbytes : ((n + m) + (n + m) / 4 + 192) * i.bytes ≤ 281474976710656) (v' : Value) (w' : World)
    (hr : (Builtin.append_ #[t, t] ty #[v, .slice (some a) m c]).run P w = .ok v' w') : v'.ownBlock = v.ownBlock ∨ v'.ownBlock = some w.heap.size := by
  rcases hown.2 with ⟨rfl, rfl⟩ | ⟨g, cap, cur, rfl, hbg, hg, hnc, hcm, hcs, htake⟩
  · have h2 := run_append_nil (P := P) w t ty e i z ht hi hz a m c news hl hnews hm (by omega) (Nat.le_trans (Nat.mul_le_mul_right _ (by omega)) hbytes)
    rw [h2] at hr
    cases hr
    exact .inr rfl
  · by_cases hroom : n + m ≤ cap
    · have hfit : n * i.size + news.length ≤ cur.size := by rw [hl, hcs, ← Nat.add_mul]; exact Nat.mul_le_mul_right _ hroom
      have h2 := run_append_room (P := P) w t ty e i ht hi g n cap cur hg a m c news hl hnews h1 hroom hfit
      rw [h2] at hr
      cases hr
      exact .inl rfl
    · have h2 := run_append_grow (P := P) w t ty e i z ht hi hz ⟨g, 0, none⟩ n cap xs hown.1 (hown.cells (g := g) rfl) a m c news hl hnews (by omega) (by omega) (growslice_fits_wide (by omega) hbytes)
      rw [h2] at hr
      cases hr
      exact .inr rfl
/-- append as one step of a region that draws its order; elements of several cells. -/
theorem step_append_wide {P : Program} {ops : Array Oper} {o : Oper} {a : Act} {w : World} {K : Act → World → Prop} {Q : Exit → Act → World → Prop} {E : Prop} (hgd : o.guard = none) (s x : Operand) (t : TypeId)
    (ho : o.op = .call { callee := .builtin .append, args := #[s, x], argTypes := #[t, t] })
    (e : TypeId) (i : TypeInfo) (z : Value) (size bytes : Nat) (ht : P.underlying t = some (.slice e)) (hi : P.info? e = some i) (hz : i.zero = some z)
    (hsize : i.size = size) (hby : i.bytes = bytes) (hzs : z.cells.size = size) (hsz : 0 < size)
    (v : Value) (n : Nat) (xs : List Value) (hs : a.eval s = v) (hown : w.ownsRow 0 e size v n xs)
    (ad : Addr) (m c : Nat) (news : List Value) (hx : a.eval x = .slice (some ad) m c) (hm : 0 < m) (hl : news.length = m * size) (hnews : ∀ j u, news[j]? = some u → w.cell? (ad.add j) = some u) (h1 : ∀ u ∈ news, u.oneCell' = true)
    (h63 : n + m ≤ maxLen) (hbytes : ((n + m) + (n + m) / 4 + 192) * bytes ≤ 281474976710656)
    (h : ∀ v' w', Hid (w'.ownsRow 0 e size v' (n + m) (xs ++ news)) → Hid (w.grownBy w' v.ownBlock) → Hid (v'.ownBlock = v.ownBlock ∨ v'.ownBlock = some w.heap.size) → K (a.put o.dst v') w') : if Region.wanted o (yielded ops a.tmps) = true then Oper.wp P o a w K Q else E := by
  have hw : Region.wanted o (yielded ops a.tmps) = true := by simp [Region.wanted, hgd]
  rw [if_pos hw]
  obtain ⟨v', w', hr, h2, h3, h4⟩ := run_append_own_wide (P := P) w 0 t o.type e i z size bytes ht hi hz hsize hby hzs hsz v n xs hown ad m c news hl hnews h1 h63 hbytes (Nat.zero_le _)
  subst hsize
  subst hby
  have h5 := append_where (P := P) w t o.type e i z ht hi hz v n xs hown ad m c news hl hnews h1 hm h63 hbytes v' w' hr
  unfold Oper.wp execOp
  simp only [ho, resolve, invoke, builtin, Sem.run_bind, Sem.run_pure, Result.andThen_ok, List.map_toArray, List.map_cons, List.map_nil, hs, hx, hr]
  exact h v' w' h2 h3 h5
theorem info_hdr : (Try.prog.info? 59).map (fun i => (i.zero, i.size, i.bytes)) = some (some (.agg #[.string ⟨#[]⟩, .string ⟨#[]⟩, .bool false]), 3, 40) := by kernel_rfl

/-- What Add leaves. -/
def AddPost (t m : Nat) (v : Value) (E : List (ByteArray × ByteArray)) (w w' : World) : Prop :=
  ∃ v', TabIs w' t v' m E ∧ (∀ k, v'.ownBlock = some k → v.ownBlock = some k ∨ w.heap.size ≤ k) ∧ Fr (fun k => k = t ∨ v.ownBlock = some k) w w'
/-- On the way: the table, the header's box, what was left alone. -/
structure AddSt (t m : Nat) (v v' : Value) (E : List (ByteArray × ByteArray)) (n u : ByteArray) (s : Bool) (w w' : World) : Prop where
  tab : TabIs w' t v' m E
  own : v'.ownBlock = v.ownBlock
  box : w'.heap[w.heap.size]? = some (.cells #[.string n, .string u, .bool s] 59)
  fr : Fr (fun k => k = t ∨ v.ownBlock = some k) w w'
theorem TabIs.own_lt {w : World} {t : Nat} {v : Value} {m : Nat} {E : List (ByteArray × ByteArray)} (h : TabIs w t v m E) {k : Nat} (hk : k = t ∨ v.ownBlock = some k) : k < w.heap.size := by
  rcases hk with rfl | hk
  · exact h.at_.lt
  · rcases h.row.2 with ⟨rfl, _⟩ | ⟨g, cap, cur, rfl, _, h2, _⟩
    · cases hk
    · cases hk; exact lt_of_heap h2
theorem AddSt.below {t m : Nat} {v v' : Value} {E : List (ByteArray × ByteArray)} {n u : ByteArray} {s : Bool} {w w1 w2 : World} (h : AddSt t m v v' E n u s w w1) (b : Below w1.heap.size w1 w2) : AddSt t m v v' E n u s w w2 :=
  ⟨h.tab.kept (S := fun _ => False) (Fr.of_below b) (fun _ _ => id), h.own, heap_below b (lt_of_heap h.box) h.box, h.fr.trans (Fr.of_below b)⟩
theorem AddSt.fell {t m : Nat} {v v' v2 : Value} {E F : List (ByteArray × ByteArray)} {n u : ByteArray} {s : Bool} {w w1 w2 : World} (h0 : TabIs w t v m E) (h : AddSt t m v v' E n u s w w1) (h2 : TabIs w2 t v2 m F) (ho : v2.ownBlock = v'.ownBlock) (f : Fr (fun k => k = t ∨ v'.ownBlock = some k) w1 w2) : AddSt t m v v2 F n u s w w2 := by
  rw [h.own] at f ho
  refine ⟨h2, ho, (f.block _ (lt_of_heap h.box) (fun hk => ?_)).trans h.box, h.fr.trans f⟩
  have := h0.own_lt hk
  omega
theorem AddSt.start {t m : Nat} {v : Value} {E : List (ByteArray × ByteArray)} {w : World} (h : TabIs w t v m E) (n u : ByteArray) (s : Bool) : AddSt t m v v E n u s w (w.alloc (.cells #[.string n, .string u, .bool s] 59)) :=
  ⟨h.kept (S := fun _ => False) ((Fr.refl _ w).alloc _) (fun _ _ => id), rfl, heap_alloc_new w _, (Fr.refl _ w).alloc _⟩

theorem Fr.of_grown {w w' : World} {row : Option Nat} (h : w.grownBy w' row) : Fr (fun k => row = some k) w w' := ⟨h.os, h.tape, h.output, h.size, fun k hk hs => h.block k hk (fun e => hs e.symm)⟩
theorem row_alloc {w : World} {v : Value} {n : Nat} {xs : List Value} (h : w.ownsRow 0 59 3 v n xs) (o : Obj) : (w.alloc o).ownsRow 0 59 3 v n xs := by
  refine ⟨h.1, ?_⟩
  rcases h.2 with hn | ⟨g, cap, cur, rfl, h1, h2, h3⟩
  · exact .inl hn
  · exact .inr ⟨g, cap, cur, rfl, h1, heap_of_alloc h2 o, h3⟩
theorem TabIs.not_own {w : World} {t : Nat} {v : Value} {m : Nat} {E : List (ByteArray × ByteArray)} (h : TabIs w t v m E) : v.ownBlock ≠ some t := by
  rcases h.row.2 with ⟨rfl, _⟩ | ⟨g, cap, cur, rfl, h1, h2, h3⟩
  · intro e; cases e
  · intro e
    exact h.at_.ne h2 (by simpa [Value.ownBlock] using e)
theorem grown_drew {w w' : World} {row : Option Nat} (h : w.drew.grownBy w' row) : w.grownBy w' row := ⟨h.os, h.tape, h.output, h.size, h.block⟩
/-- The row has grown by an entry: the table's fields lie as they lay. -/
theorem add_mid {t m : Nat} {v v3 : Value} {F : List (ByteArray × ByteArray)} {n u : ByteArray} {s : Bool} {w w6 w7 : World} {o : Obj} (h : AddSt t m v v3 F n u s w w6) (hg : (w6.alloc o).grownBy w7 v3.ownBlock) : TabAt w7 t true m (total F) v3 :=
  ((Fr.of_grown hg).block t (by have := h.tab.at_.lt; simp; omega) h.tab.not_own).trans (h.tab.at_.laid o)
theorem add_end {t m g7 cap7 sz : Nat} {v v3 : Value} {E0 F : List (ByteArray × ByteArray)} {n u : ByteArray} {s : Bool} {w w6 w7 : World} {o : Obj} (h0 : TabIs w t v m E0) (h : AddSt t m v v3 F n u s w w6) (hg : (w6.alloc o).grownBy w7 v3.ownBlock)
    (ho : w7.ownsRow 0 59 3 (.slice (some ⟨g7, 0, none⟩) (F.length + 1) cap7) (F.length + 1) (cellsE F ++ [.string n, .string u, .bool false])) (hwh : (Value.slice (some ⟨g7, 0, none⟩) (F.length + 1) cap7).ownBlock = v3.ownBlock ∨ (Value.slice (some ⟨g7, 0, none⟩) (F.length + 1) cap7).ownBlock = some (w6.alloc o).heap.size) (hsz : esz (n, u) = sz) :
    AddPost t m v (F ++ [(n, u)]) w ((w7.setCell ⟨t, 3, none⟩ (.slice (some ⟨g7, 0, none⟩) (F.length + 1) cap7)).setCell ⟨t, 2, none⟩ (.int .i64 ((total F + sz : Nat) : Int))) := by
  have h7 := add_mid h hg
  rcases ho.2 with ⟨hn, _⟩ | ⟨g, cap, cur, hv, a1, a2, a3⟩
  · cases hn
  · cases hv
    have hgt : g7 ≠ t := h7.ne a2
    have f7 : Fr (fun k => v3.ownBlock = some k) w6 w7 := Fr.trans ((Fr.refl _ w6).alloc o) (Fr.of_grown hg)
    rw [h.own] at f7
    refine ⟨.slice (some ⟨g7, 0, none⟩) (F.length + 1) cap7, ⟨?_, ?_, ?_⟩, ?_, ?_⟩
    · have e1 := heap_set (i := 2) (.int .i64 ((total F + sz : Nat) : Int)) (heap_set (i := 3) (.slice (some ⟨g7, 0, none⟩) (F.length + 1) cap7) h7)
      rw [show total (F ++ [(n, u)]) = total F + sz by rw [total_append]; simp only [total]; omega]
      exact e1
    · rw [cellsE_length]
    · rw [show (F ++ [(n, u)]).length = F.length + 1 by simp, show cellsE (F ++ [(n, u)]) = cellsE F ++ [.string n, .string u, .bool false] by rw [cellsE_append]; rfl]
      exact .inr ⟨g7, cap7, cur, rfl, a1, ((heap_set_other hgt _).trans (heap_set_other hgt _)).trans a2, a3⟩
    · intro k hk
      rcases hwh with e | e
      · rw [hk, h.own] at e; exact .inl e.symm
      · rw [hk] at e
        have := h.fr.size
        cases e
        exact .inr (by simp; omega)
    · exact ((h.fr.trans (f7.mono (fun k _ hk => .inr hk))).setCell ⟨t, 3, none⟩ (fun _ => .inl rfl) _).setCell ⟨t, 2, none⟩ (fun _ => .inl rfl) _
end Go.Proofs.Ytkipeifkfgbkeaa
