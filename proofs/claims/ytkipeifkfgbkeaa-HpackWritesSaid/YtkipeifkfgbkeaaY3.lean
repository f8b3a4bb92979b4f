/- The document's Add, Resize, Get. -/
import Derived.Test.YtkipeifkfgbkeaaY2
import Derived.Test.YtkipeifkfgbkeaaX5
import Derived.Deep.RegionHeldLaw
import Derived.Deep.Upon
import Derived.Laws.OwnMore
namespace Go.Proofs.Ytkipeifkfgbkeaa
open Go.RowKit
set_option maxRecDepth 100000
set_option maxHeartbeats 8000000
set_option linter.unusedVariables false

/-- append as one step of a region that draws its order, what it comes to being known. -/
theorem step_append_run {P : Program} {ops : Array Oper} {o : Oper} {a : Act} {w w' : World} {K : Act → World → Prop} {Q : Exit → Act → World → Prop} {E : Prop} (hgd : o.guard = none) (s x : Operand) (t : TypeId)
    (ho : o.op = .call { callee := .builtin .append, args := #[s, x], argTypes := #[t, t] }) (vs vx v' : Value) (hs : a.eval s = vs) (hx : a.eval x = vx)
    (hr : (Builtin.append_ #[t, t] o.type #[vs, vx]).run P w = .ok v' w') (h : K (a.put o.dst v') w') : if Region.wanted o (yielded ops a.tmps) = true then Oper.wp P o a w K Q else E := by
  have hw : Region.wanted o (yielded ops a.tmps) = true := by simp [Region.wanted, hgd]
  rw [if_pos hw]
  unfold Oper.wp execOp
  simp only [ho, resolve, invoke, builtin, Sem.run_bind, Sem.run_pure, Result.andThen_ok, List.map_toArray, List.map_cons, List.map_nil, hs, hx, hr]
  exact h
/-- A header ahead of some entries: append, of a slice written out. -/
theorem lit_append {w : World} {v3 : Value} {F : List (ByteArray × ByteArray)} (n u : ByteArray) (hrow : w.ownsRow 0 59 3 v3 F.length (cellsE F)) (hF : F.length ≤ 2048) :
    ∃ (g cap : Nat) (w' : World), (Builtin.append_ #[30, 30] 30 #[.slice (some ⟨w.heap.size, 0, none⟩) 1 1, v3]).run Try.prog (w.drew.alloc (.cells #[.string n, .string u, .bool false] 59)) = .ok (.slice (some ⟨g, 0, none⟩) (F.length + 1) cap) w' ∧
      w'.ownsRow 0 59 3 (.slice (some ⟨g, 0, none⟩) (F.length + 1) cap) (F.length + 1) (cellsE ((n, u) :: F)) ∧ w.heap.size ≤ g ∧ Below w.heap.size w w' := by
  obtain ⟨i, hi, hz0, hz1, hz2⟩ := info_parts info_hdr
  have hb0 : Below w.heap.size w (w.drew.alloc (.cells #[.string n, .string u, .bool false] 59)) := (Below.refl _ w).drew.alloc (Nat.le_refl _) _
  have hlit := World.ownsRow_lit (base := 0) (e := 59) (size := 3) w.drew #[.string n, .string u, .bool false] 1 (Nat.zero_le _) (by decide) rfl
  have hsz : (w.drew.alloc (.cells #[.string n, .string u, .bool false] 59)).heap.size = w.heap.size + 1 := by simp
  have hold : ∀ k, k < w.heap.size → (w.drew.alloc (.cells #[.string n, .string u, .bool false] 59)).heap[k]? = w.heap[k]? := fun k hk => hb0.block k hk
  have hnone : ∀ (q : Option Addr) (c : Nat), v3 = .slice q 0 c → F = [] → Src Try.prog i.size 30 v3 0 [] (w.drew.alloc (.cells #[.string n, .string u, .bool false] 59)) → ∃ (g cap : Nat) (w' : World), (Builtin.append_ #[30, 30] 30 #[.slice (some ⟨w.heap.size, 0, none⟩) 1 1, v3]).run Try.prog (w.drew.alloc (.cells #[.string n, .string u, .bool false] 59)) = .ok (.slice (some ⟨g, 0, none⟩) (F.length + 1) cap) w' ∧
      w'.ownsRow 0 59 3 (.slice (some ⟨g, 0, none⟩) (F.length + 1) cap) (F.length + 1) (cellsE ((n, u) :: F)) ∧ w.heap.size ≤ g ∧ Below w.heap.size w w' := fun q c hv hF hs => by
    subst hF
    exact ⟨w.heap.size, 1, _, run_append_nothing _ 30 30 30 59 i Try.underlying30 hi _ 1 1 (Nat.le_refl _) v3 hs, hlit, Nat.le_refl _, hb0⟩
  rcases hrow.2 with ⟨rfl, h0⟩ | ⟨g, cap, cur, rfl, h1, h2, h3, h4, h5, h6⟩
  · exact hnone _ _ rfl (List.eq_nil_of_length_eq_zero h0) (Src.ofNil _ Try.underlying30 0)
  · by_cases hF0 : F = []
    · subst hF0
      exact hnone _ _ rfl rfl (Src.ofSlice _ Try.underlying30 ⟨g, 0, none⟩ 0 cap [] (by simp) (fun j u hj => by simp at hj) (fun u hu => by cases hu))
    · have hpos : 0 < F.length := List.length_pos_iff.2 hF0
      have hnews : ∀ (j : Nat) (x : Value), (cellsE F)[j]? = some x → (w.drew.alloc (.cells #[.string n, .string u, .bool false] 59)).cell? ((⟨g, 0, none⟩ : Addr).add j) = some x := fun j x hj => by
        rw [add_none, Nat.zero_add]
        have hjl := (List.getElem?_eq_some_iff.1 hj).1
        rw [cellsE_length] at hjl
        refine cell_of_heap ((hold g (lt_of_heap h2)).trans h2) ?_
        rw [← h6, List.getElem?_take, if_pos hjl] at hj
        rw [← Array.getElem?_toList]
        exact hj
      have hcell := cellsE_one F
      have hby : ((1 + F.length) + (1 + F.length) / 4 + 192) * 40 ≤ 281474976710656 := by omega
      obtain ⟨v', w', hr, ho, hg, hiff⟩ := run_append_own_wide (P := Try.prog) _ 0 30 30 59 i (.agg #[.string ⟨#[]⟩, .string ⟨#[]⟩, .bool false]) 3 40 Try.underlying30 hi hz0 hz1 hz2 rfl (by decide) _ 1 _ hlit ⟨g, 0, none⟩ F.length cap (cellsE F) (by rw [cellsE_length]) hnews hcell (by simp only [maxLen]; omega) hby (Nat.zero_le _)
      have hlit' := hlit
      rw [← hz1] at hlit'
      have hwh := append_where (P := Try.prog) _ 30 30 59 i (.agg #[.string ⟨#[]⟩, .string ⟨#[]⟩, .bool false]) Try.underlying30 hi hz0 _ 1 _ hlit' ⟨g, 0, none⟩ F.length cap (cellsE F) (by rw [cellsE_length, hz1]) hnews hcell hpos (by omega) (by rw [hz2]; exact hby) v' w' hr
      rw [Nat.add_comm] at ho
      obtain ⟨g7, cap7, rfl⟩ := ownsRow_succ ho
      refine ⟨g7, cap7, w', hr, ho, ?_, hb0.grown hg (by omega) (fun k e => by cases e; exact Nat.le_refl _)⟩
      rcases hwh with e | e
      · cases e; exact Nat.le_refl _
      · cases e; simp
/-- On the way through Add. -/
structure RSt (t m : Nat) (v v' : Value) (E : List (ByteArray × ByteArray)) (n u : ByteArray) (w w' : World) : Prop where
  tab : RIs w' t v' m E.reverse
  own : ∀ k, v'.ownBlock = some k → v.ownBlock = some k
  box : w'.heap[w.heap.size]? = some (.cells #[.string n, .string u, .bool false] 59)
  fr : Fr (fun k => k = t) w w'
theorem RSt.below {t m : Nat} {v v' : Value} {E : List (ByteArray × ByteArray)} {n u : ByteArray} {w w1 w2 : World} (h : RSt t m v v' E n u w w1) (b : Below w1.heap.size w1 w2) : RSt t m v v' E n u w w2 :=
  ⟨h.tab.below b, h.own, heap_below b (lt_of_heap h.box) h.box, h.fr.trans (Fr.of_below0 b)⟩
def RPost (t m : Nat) (v : Value) (E : List (ByteArray × ByteArray)) (w w' : World) : Prop :=
  ∃ v', RIs w' t v' m E.reverse ∧ (∀ k, v'.ownBlock = some k → v.ownBlock = some k ∨ w.heap.size ≤ k) ∧ Fr (fun k => k = t) w w'
theorem rAdd_end {t m g7 cap7 L : Nat} {v v3 : Value} {F : List (ByteArray × ByteArray)} {n u : ByteArray} {w w4 w7 : World} (h : RSt t m v v3 F n u w w4)
    (h7 : w7.ownsRow 0 59 3 (.slice (some ⟨g7, 0, none⟩) (L + 1) cap7) (L + 1) (cellsE ((n, u) :: F.reverse)) ∧ w4.heap.size ≤ g7 ∧ Below w4.heap.size w4 w7) (ht : w7.heap[t]? = some (.cells #[.int .i64 (m : Int), v3] 62)) (hL : F.reverse.length = L) :
    RPost t m v (F ++ [(n, u)]) w (w7.setCell ⟨t, 1, none⟩ (.slice (some ⟨g7, 0, none⟩) (L + 1) cap7)) := by
  have hlt := lt_of_heap h.tab.at_
  refine ⟨.slice (some ⟨g7, 0, none⟩) (L + 1) cap7, ⟨heap_set (i := 1) _ ht, ?_⟩, fun k hk => ?_, (h.fr.trans (Fr.of_below0 h7.2.2)).setCell ⟨t, 1, none⟩ (fun _ => rfl) _⟩
  · rw [show (F ++ [(n, u)]).reverse = (n, u) :: F.reverse by simp, show ((n, u) :: F.reverse).length = L + 1 by simp [← hL]]
    refine ⟨h7.1.1, ?_⟩
    rcases h7.1.2 with ⟨e, _⟩ | ⟨g, cap, cur, hv, a1, a2, a3⟩
    · cases e
    · cases hv
      exact .inr ⟨g7, cap7, cur, rfl, a1, (heap_set_other (by have := h7.2.1; omega) _).trans a2, a3⟩
  · cases hk
    have := h.fr.size
    exact .inr (Nat.le_trans this h7.2.1)
theorem rAdd_in (t m : Nat) (v : Value) (E : List (ByteArray × ByteArray)) (n u : ByteArray) (s : Bool) (w : World) (h : RIs w t v m E.reverse) (hm : m ≤ 65536) (hT : total E ≤ 65536) (hn : n.size < 2 ^ 47) (hu : u.size < 2 ^ 47) :
    Calls Try.prog 37 #[.pointer (some ⟨t, 0, none⟩), .agg #[.string n, .string u, .bool s]] w fun e w' => e = .returned (.tuple #[]) ∧ RPost t m v (added m E (n, u)) w w' := by
  obtain ⟨sz, hsz⟩ : ∃ sz, n.size + u.size + 32 = sz := ⟨_, rfl⟩
  have hesz : esz (n, u) = sz := hsz
  have hszb : sz < 2 ^ 49 := by omega
  have KS : Hid (∀ (v' : Value) (F : List (ByteArray × ByteArray)) (w' : World), RSt t m v v' F n u w w' → Calls Try.prog 24 #[.agg #[.string n, .string u, .bool false]] w' fun e w2 => e = .returned (.int .i64 (sz : Int)) ∧ Hid (RSt t m v v' F n u w w2)) := fun v' F w' h' => by
    refine (rSize_in n u false w' (by omega) (by omega)).mono ?_
    rintro e w2 ⟨rfl, rfl⟩
    rw [hsz]
    exact ⟨rfl, h'.below ((Below.refl _ _).alloc (Nat.le_refl _) _)⟩
  have HH : Hid (RIs w t v m E.reverse) := h
  have KF : Hid (∀ w2, RSt t m v v E n u w w2 → Calls Try.prog 27 #[.pointer (some ⟨t, 0, none⟩), .int .i64 (sz : Int)] w2 fun e w3 => e = .returned (.tuple #[]) ∧ ∃ v3, Hid (RSt t m v v3 (fallen ((m : Int) - (sz : Int)) E) n u w w3)) := fun w2 h2 => by
    refine (rfall_in t m v E sz w2 h2.tab hm hT (by omega)).mono ?_
    rintro e w3 ⟨rfl, v3, a1, a2, a3⟩
    refine ⟨rfl, v3, a1, a2, (a3.block _ (lt_of_heap h2.box) (fun e => ?_)).trans h2.box, h2.fr.trans a3⟩
    have := lt_of_heap h.at_
    omega
  have hadd : added m E (n, u) = if m < sz then fallen ((m : Int) - (sz : Int)) E else fallen ((m : Int) - (sz : Int)) E ++ [(n, u)] := by rw [added, hesz]
  rw [hadd]
  have hFt : total (fallen ((m : Int) - (sz : Int)) E) ≤ 65536 := Nat.le_trans (fallen_le _ _) hT
  generalize fallen ((m : Int) - (sz : Int)) E = F at KF hFt ⊢
  have HS0 : Hid (RSt t m v v E n u w (w.alloc (.cells #[.string n, .string u, .bool false] 59))) := ⟨h.laid _, fun _ => id, heap_alloc_new w _, (Fr.refl _ w).alloc _⟩
  have hmx : Try.prog.follows .mixedOrders = true := by kernel_rfl
  clear hadd h hsz
  go_enter Try.func37, Try.ntmps37
  go_wp2_with (first
    | (go_at_call 24; refine (KS.out v E _ HS0.out).mono ?_; clear HS0; rintro e w2 ⟨rfl, H2⟩)
    | (go_at_call 27; refine (KF.out w2 H2.out).mono ?_; clear KF; rintro e w3 ⟨rfl, v3, H3⟩; have c0 : w3.cell? ⟨t, 0, none⟩ = some (.int .i64 (m : Int)) := cell_of_heap H3.out.tab.at_ rfl; have x0 := cell_of_heap H3.out.box (i := 0) rfl; have x1 := cell_of_heap H3.out.box (i := 1) rfl; have x2 := cell_of_heap H3.out.box (i := 2) rfl))
  have HC : Hid (∀ w', RSt t m v v3 F n u w w' → w'.cell? ⟨t, 0, none⟩ = some (.int .i64 (m : Int)) ∧ w'.cell? ⟨w.heap.size, 0, none⟩ = some (.string n) ∧ w'.cell? ⟨w.heap.size, 1, none⟩ = some (.string u) ∧ w'.cell? ⟨w.heap.size, 2, none⟩ = some (.bool false)) := fun w' h' => ⟨cell_of_heap h'.tab.at_ rfl, cell_of_heap h'.box rfl, cell_of_heap h'.box rfl, cell_of_heap h'.box rfl⟩
  have H3d : Hid (RSt t m v v3 F n u w w3.drew) := H3.out.below (Below.refl _ w3).drew
  by_cases hms : m < sz
  case' pos =>
    have hgt : (m : Int) < (sz : Int) := by omega
    have HMS : Hid (m < sz) := hms
  case' neg =>
    have hgt : ¬ (m : Int) < (sz : Int) := by omega
    have HMS : Hid (¬ m < sz) := hms
  all_goals clear hms
  all_goals go_region_held_law (fun w' => w'.cell? ⟨t, 0, none⟩ = some (.int .i64 (m : Int)) ∧ w'.cell? ⟨w.heap.size, 0, none⟩ = some (.string n) ∧ w'.cell? ⟨w.heap.size, 1, none⟩ = some (.string u) ∧ w'.cell? ⟨w.heap.size, 2, none⟩ = some (.bool false)) (first | exact ⟨c0, x0, x1, x2⟩ | exact ⟨y0, y1, y2, y3⟩ | go_keep)
    (first | (go_at_call 24; refine (KS.out v3 F _ H3d.out).mono ?_; rintro e w4 ⟨rfl, H4⟩; obtain ⟨y0, y1, y2, y3⟩ := HC.out w4 H4.out))
  all_goals go_wp2_with (fail)
  · have HL : Hid (F.reverse.length ≤ 2048) := by have := total_len F; show _ ≤ _; rw [List.length_reverse]; omega
    obtain ⟨g7, cap7, w7, hr7, ho7, hg7, hb7⟩ := lit_append n u H4.out.tab.row HL.out
    have HR7 : Hid ((Builtin.append_ #[30, 30] 30 #[.slice (some ⟨w4.heap.size, 0, none⟩) 1 1, v3]).run Try.prog (w4.drew.alloc (.cells #[.string n, .string u, .bool false] 59)) = .ok (.slice (some ⟨g7, 0, none⟩) (F.reverse.length + 1) cap7) w7) := hr7
    have HO7 : Hid (w7.ownsRow 0 59 3 (.slice (some ⟨g7, 0, none⟩) (F.reverse.length + 1) cap7) (F.reverse.length + 1) (cellsE ((n, u) :: F.reverse)) ∧ w4.heap.size ≤ g7 ∧ Below w4.heap.size w4 w7) := ⟨ho7, hg7, hb7⟩
    have HT7 : Hid (w7.heap[t]? = some (.cells #[.int .i64 (m : Int), v3] 62)) := heap_below hb7 (lt_of_heap H4.out.tab.at_) H4.out.tab.at_
    obtain ⟨q3, cap3, hv3⟩ := H4.out.tab.form
    obtain ⟨L, hLL⟩ : ∃ L, F.reverse.length = L := ⟨_, rfl⟩
    rw [hLL] at HR7 HO7 hv3
    have HLL : Hid (F.reverse.length = L) := hLL
    subst hv3
    have c1 : w4.cell? ⟨t, 1, none⟩ = some (.slice q3 L cap3) := cell_of_heap H4.out.tab.at_ rfl
    have c1' : ∀ o, (w4.alloc o).cell? ⟨t, 1, none⟩ = some (.slice q3 L cap3) := fun o => cell_of_heap (H4.out.tab.laid o).at_ rfl
    have c17 : w7.cell? ⟨t, 1, none⟩ = some (.slice q3 L cap3) := cell_of_heap HT7.out rfl
    have z17 : w7.frozen? ⟨t, 1, none⟩ = false := frozen_of_heap HT7.out
    clear hr7 ho7 hg7 hb7 hLL
    go_region_law (refine step_append_run rfl (.tmp 18) (.tmp 22) 30 rfl (.slice (some ⟨w4.heap.size, 0, none⟩) 1 1) (.slice q3 L cap3) (.slice (some ⟨g7, 0, none⟩) (L + 1) cap7) (by go_simp) (by go_simp) HR7.out ?_)
    all_goals go_wp2_with (fail)
    all_goals go_end0
    all_goals exact ⟨rfl, rAdd_end H4.out HO7.out HT7.out HLL.out⟩
  · refine bodyPost_ret (results_none rfl _ _ _) rfl ⟨rfl, v3, H4.out.tab, fun k hk => .inl (H4.out.own k hk), H4.out.fr⟩
theorem rResize_bad (t : Nat) (n : Int) (w : World) (hn : ¬ (0 ≤ n ∧ n ≤ 65536)) :
    Calls Try.prog 17 #[.pointer (some ⟨t, 0, none⟩), .int .i64 n] w fun e w' => e = .returned (.int .i64 1) ∧ w' = w := by
  by_cases h0 : n < 0
  · have hd : decide (n < 0) = true := decide_eq_true h0
    go_enter Try.func17, Try.ntmps17
    go_wp2_with (fail)
    go_ret
    exact ⟨rfl, rfl⟩
  · have hd : (65536 : Int) < n := by omega
    go_enter Try.func17, Try.ntmps17
    go_wp2_with (fail)
    go_ret
    exact ⟨rfl, rfl⟩
theorem rResize_in (t m k : Nat) (v : Value) (E : List (ByteArray × ByteArray)) (w : World) (h : RIs w t v m E.reverse) (hk : k ≤ 65536) (hT : total E ≤ 65536) :
    Calls Try.prog 17 #[.pointer (some ⟨t, 0, none⟩), .int .i64 (k : Int)] w fun e w' => e = .returned (.int .i64 0) ∧ RPost t k v (fallen (k : Int) E) w w' := by
  have hne : v.ownBlock ≠ some t := by
    rcases h.row.2 with ⟨rfl, _⟩ | ⟨g, cap, cur, rfl, _, h2, _⟩
    · intro e; cases e
    · intro e
      cases e
      rw [h.at_] at h2
      cases h2
  have H1 : RIs (w.setCell ⟨t, 0, none⟩ (.int .i64 (k : Int))) t v k E.reverse := by
    refine ⟨heap_set (i := 0) _ h.at_, h.row.1, ?_⟩
    rcases h.row.2 with hn | ⟨g, cap, cur, rfl, a1, a2, a3⟩
    · exact .inl hn
    · exact .inr ⟨g, cap, cur, rfl, a1, (heap_set_other (fun e => hne (by subst e; rfl)) _).trans a2, a3⟩
  have KF := rfall_in t k v E 0 _ H1 hk hT (by omega)
  rw [show ((0 : Nat) : Int) = 0 from rfl, Int.sub_zero] at KF
  have c0 : w.cell? ⟨t, 0, none⟩ = some (.int .i64 (m : Int)) := cell_of_heap h.at_ rfl
  have z0 : w.frozen? ⟨t, 0, none⟩ = false := frozen_of_heap h.at_
  have hd0 : ¬ (k : Int) < 0 := by omega
  have hd1 : ¬ (65536 : Int) < (k : Int) := by omega
  have hf0 : Hid (Fr (fun k => k = t) w (w.setCell ⟨t, 0, none⟩ (.int .i64 (k : Int)))) := Fr.setCell (S := fun k => k = t) (Fr.refl _ w) ⟨t, 0, none⟩ (fun _ => rfl) _
  generalize fallen (k : Int) E = F at KF ⊢
  clear h H1 hne
  go_enter Try.func17, Try.ntmps17
  go_wp2_with (go_at_call 27; refine KF.mono ?_; clear KF; rintro e w3 ⟨rfl, v3, a1, a2, a3⟩; have HA : Hid (RIs w3 t v3 k F.reverse ∧ (∀ k, v3.ownBlock = some k → v.ownBlock = some k) ∧ Fr (fun k => k = t) (w.setCell ⟨t, 0, none⟩ (.int .i64 (k : Int))) w3) := ⟨a1, a2, a3⟩; clear a1 a2 a3)
  go_ret
  exact ⟨rfl, v3, HA.out.1, fun k hk => .inl (HA.out.2.1 k hk), hf0.out.trans HA.out.2.2⟩
end Go.Proofs.Ytkipeifkfgbkeaa
