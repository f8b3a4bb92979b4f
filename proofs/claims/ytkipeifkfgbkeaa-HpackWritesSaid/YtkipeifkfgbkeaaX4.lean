/- Contract of (Table).Find. -/
import Derived.Test.YtkipeifkfgbkeaaX3
import Derived.Lib.SlicesS
namespace Go.Proofs.Ytkipeifkfgbkeaa
open Go.RowKit Go.Shelf Go.BigFrame
set_option maxRecDepth 100000
set_option maxHeartbeats 8000000
set_option linter.unusedVariables false
attribute [local go_sem] Oper.semAt_some

theorem TabIs.laid {w : World} {t : Nat} {v : Value} {m : Nat} {E : List (ByteArray × ByteArray)} (h : TabIs w t v m E) (o : Obj) : TabIs (w.alloc o) t v m E :=
  h.kept (S := fun _ => False) (Fr.of_below ((Below.refl _ w).alloc (Nat.le_refl _) o)) (fun _ _ => id)
/-- The least index of a name among the first k entries; 0: none. -/
def nameAt (E : List (ByteArray × ByteArray)) (n : ByteArray) : Nat → Nat
  | 0 => 0
  | k + 1 => if nameAt E n k = 0 ∧ (entAt E k).1 = n then k + 1 else nameAt E n k
/-- What Find answers. -/
def FindOut (E : List (ByteArray × ByteArray)) (n u : ByteArray) (at_ : Nat) (b : Bool) : Prop :=
  (b = true ∧ (0 < at_ ∧ at_ ≤ 61 + E.length ∧ entAt E (at_ - 1) = (n, u) ∧ ∀ j, j < at_ - 1 → entAt E j ≠ (n, u))) ∨ (b = false ∧ at_ = nameAt E n (61 + E.length) ∧ ∀ j, j < 61 + E.length → entAt E j ≠ (n, u))
theorem boxes5 (w : World) (A B C D F : Obj) : ((((((w.alloc A).alloc B).alloc C).alloc D).alloc F).heap[w.heap.size + 1]? = some B ∧ (((((w.alloc A).alloc B).alloc C).alloc D).alloc F).heap[w.heap.size + 1 + 1]? = some C) ∧
    (((((w.alloc A).alloc B).alloc C).alloc D).alloc F).heap[w.heap.size + 1 + 1 + 1]? = some D ∧ (((((w.alloc A).alloc B).alloc C).alloc D).alloc F).heap[w.heap.size + 1 + 1 + 1 + 1]? = some F ∧ (((((w.alloc A).alloc B).alloc C).alloc D).alloc F).heap.size = w.heap.size + 5 ∧ Below w.heap.size w (((((w.alloc A).alloc B).alloc C).alloc D).alloc F) := by
  have h1 := heap_alloc_new (w.alloc A) B
  have h2 := heap_alloc_new ((w.alloc A).alloc B) C
  have h3 := heap_alloc_new (((w.alloc A).alloc B).alloc C) D
  have h4 := heap_alloc_new ((((w.alloc A).alloc B).alloc C).alloc D) F
  simp only [World.size_alloc] at h1 h2 h3 h4
  exact ⟨⟨heap_of_alloc (heap_of_alloc (heap_of_alloc h1 _) _) _, heap_of_alloc (heap_of_alloc h2 _) _⟩, heap_of_alloc h3 _, h4, by simp, (((((Below.refl _ w).alloc (Nat.le_refl _) _).alloc (by simp) _).alloc (by simp; omega) _).alloc (by simp; omega) _).alloc (by simp; omega) _⟩

theorem toList_inj {x y : ByteArray} (h : x.toList = y.toList) : x = y := (Lib.bytes_beq_iff x y).1 (beq_iff_eq.2 h)
theorem named_hit {E : List (ByteArray × ByteArray)} {n : ByteArray} {k : Nat} (h0 : nameAt E n k = 0) (he : (entAt E k).1 = n) : ((nameAt E n (k + 1) : Nat) : Int) = (k : Int) + 1 := by rw [nameAt, if_pos ⟨h0, he⟩]; rfl
theorem named_miss {E : List (ByteArray × ByteArray)} {n : ByteArray} {k : Nat} (h : ¬ (nameAt E n k = 0 ∧ (entAt E k).1 = n)) : nameAt E n (k + 1) = nameAt E n k := by rw [nameAt, if_neg h]
theorem no_hit {E : List (ByteArray × ByteArray)} {n u : ByteArray} {k : Nat} (h : ∀ j, j < k → entAt E j ≠ (n, u)) (hk : entAt E k ≠ (n, u)) : ∀ j, j < k + 1 → entAt E j ≠ (n, u) := fun j hj => by
  rcases Nat.lt_or_ge j k with h1 | h1
  · exact h j h1
  · obtain rfl : j = k := by omega
    exact hk
theorem Find_in (t m : Nat) (v : Value) (E : List (ByteArray × ByteArray)) (n u : ByteArray) (s : Bool) (w : World) (h : TabIs w t v m E) (hL : E.length ≤ 2048) :
    Calls Try.prog 30 #[.pointer (some ⟨t, 0, none⟩), .agg #[.string n, .string u, .bool s]] w fun e w' => (∃ (at_ : Nat) (b : Bool), e = .returned (.tuple #[.int .i64 (at_ : Int), .bool b]) ∧ FindOut E n u at_ b) ∧ Below w.heap.size w w' := by
  refine (callsIn_wide (n := 0)).1 ?_
  have HT : Hid (TabIs w t v m E) := h
  have KN := fun w' (b : TabIs w' t v m E) => (callsIn_wide (n := 0)).2 (none_in t true m _ v w' b.at_)
  clear h
  refine callsIn_of_wp_marks Try.func30 rfl trivial ?_ rfl
  simp only [Try.ntmps30, List.size_toArray, List.length_cons, List.length_nil, Nat.reduceAdd, Nat.reduceSub, Array.replicate_succ, Array.replicate_zero, List.push_toArray, List.append_toArray, List.nil_append, List.cons_append]
  gi_wp2
  refine ⟨trivial, rfl, CallsIn.mono (KN _ (((HT.out.laid _).laid _).laid _)) ?_⟩
  rintro e w' ⟨rfl, rfl⟩
  gi_wp2
  clear KN
  obtain ⟨⟨g1, g2⟩, g3, g4, hsz, hB0⟩ := boxes5 w (.cells #[.string n, .string u, .bool s] 59) (.cells #[.int .i64 0] 3) (.cells #[.bool false] 4) (.cells #[.string n, .string u, .bool false] 59) (.cells #[.int .i64 0] 3)
  have HT0 := ((((HT.out.laid (.cells #[.string n, .string u, .bool s] 59)).laid (.cells #[.int .i64 0] 3)).laid (.cells #[.bool false] 4)).laid (.cells #[.string n, .string u, .bool false] 59)).laid (.cells #[.int .i64 0] 3)
  have hlt : ∀ k, (k = t ∨ v.ownBlock = some k) → k < w.heap.size := fun k hk => HT.out.own_lt hk
  generalize ((((w.alloc (.cells #[.string n, .string u, .bool s] 59)).alloc (.cells #[.int .i64 0] 3)).alloc (.cells #[.bool false] 4)).alloc (.cells #[.string n, .string u, .bool false] 59)).alloc (.cells #[.int .i64 0] 3) = W0 at g1 g2 g3 g4 hsz hB0 HT0 ⊢
  refine range_law2 (gf := 41) (fs := #[.pointer (some ⟨t, 0, none⟩)]) (lb := #[]) rfl (enters_of Try.func41 (by kernel_rfl) rfl) (all_tells t m v E w.heap.size W0 HT0 (by omega) hlt hL) (by omega) (Below.refl _ _) (fun _ => rfl)
    (fun k W => (∀ j, j < k → entAt E j ≠ (n, u)) ∧ (W.heap[w.heap.size + 1]? = some (.cells #[.int .i64 0] 3) ∧ W.heap[w.heap.size + 1 + 1]? = some (.cells #[.bool false] 4)) ∧ (W.heap[w.heap.size + 1 + 1 + 1]? = some (.cells #[.string n, .string u, .bool false] 59) ∧ W.heap[w.heap.size + 1 + 1 + 1 + 1]? = some (.cells #[.int .i64 (nameAt E n k : Int)] 3)) ∧ Below w.heap.size w W)
    (fun c k W => (c = .ret ∧ (0 < k ∧ k ≤ 61 + E.length ∧ entAt E (k - 1) = (n, u) ∧ ∀ j, j < k - 1 → entAt E j ≠ (n, u))) ∧ (W.heap[w.heap.size + 1]? = some (.cells #[.int .i64 (k : Int)] 3) ∧ W.heap[w.heap.size + 1 + 1]? = some (.cells #[.bool true] 4)) ∧ Below w.heap.size w W)
    (OwnFrom.and (ownFrom_pure _ _) (OwnFrom.and (OwnFrom.and (own_cells _ _ _ (fun _ => rfl)) (own_cells _ _ _ (fun _ => rfl))) (OwnFrom.and (OwnFrom.and (own_cells _ _ _ (fun _ => rfl)) (own_cells _ _ (fun k => .cells #[.int .i64 (nameAt E n k : Int)] 3) (fun _ => rfl))) (ownFrom_below (Nat.le_refl _) (by omega)))))
    (fun c => OwnFrom.and (ownFrom_pure _ _) (OwnFrom.and (OwnFrom.and (own_cells _ _ (fun k : Nat => .cells #[.int .i64 (k : Int)] 3) (fun _ => rfl)) (own_cells _ _ _ (fun _ => rfl))) (ownFrom_below (Nat.le_refl _) (by omega))))
    ⟨(fun j hj => absurd hj (Nat.not_lt_zero _)), ⟨g1, g2⟩, ⟨g3, g4⟩, hB0⟩
    (fun k a' W => ∃ Bx, (W0.heap.size ≤ Bx ∧ W.heap[Bx]? = some (.cells #[.string (entAt E k).1, .string (entAt E k).2, .bool false] 59)) ∧ a' = { tmps := #[.pointer (some ⟨t, 0, none⟩), .agg #[.string n, .string u, .bool s], undef, .pointer (some ⟨w.heap.size, 0, none⟩), .pointer (some ⟨w.heap.size + 1, 0, none⟩), .pointer (some ⟨w.heap.size + 1 + 1, 0, none⟩), .pointer (some ⟨w.heap.size + 1 + 1 + 1, 0, none⟩), .pointer (some ⟨w.heap.size + 1 + 1 + 1 + 1, 0, none⟩), .int .i64 ((k : Int) + 1), .pointer (some ⟨Bx, 0, none⟩), .pointer (some ⟨t, 0, none⟩), .bool false, .pointer (some ⟨w.heap.size, 0, none⟩), .string n, .pointer (some ⟨w.heap.size, 1, none⟩), .string u, .agg #[.string n, .string u, .bool false], .pointer (some ⟨t, 0, none⟩), .func (.func 41) #[.pointer (some ⟨t, 0, none⟩)] #[], .int .i64 ((k : Int) + 1), .agg #[.string (entAt E k).1, .string (entAt E k).2, .bool false], undef, undef, undef, undef, undef, undef, undef, undef, undef, undef, undef, undef, undef, undef, undef], defers := [] })
    (fun k a' _ X Y row hs hg hr => by
      obtain ⟨Bx, ⟨e1, e2⟩, e3⟩ := hs
      exact ⟨Bx, ⟨e1, own_cells (β := Unit) W0.heap.size Bx (fun _ => .cells #[.string (entAt E k).1, .string (entAt E k).2, .bool false] 59) (fun _ => rfl) () X Y row e2 hg hr⟩, e3⟩)
    ?assign ?body ?done ?stop
  case assign =>
    rintro l k W K hk ⟨hne, ⟨f1, f2⟩, ⟨f3, f4⟩, hB⟩ hK
    dsimp only [allEnc]
    have h5 := lt_of_heap f4
    gi_wp2
    exact hK _ _ (AllFrom.alloc _ _ _) ((Below.refl _ W).alloc hB.size _) ⟨hne, ⟨heap_of_alloc f1 _, heap_of_alloc f2 _⟩, ⟨heap_of_alloc f3 _, heap_of_alloc f4 _⟩, hB.alloc hB.size _⟩ ⟨W.heap.size, ⟨by omega, heap_alloc_new W _⟩, rfl⟩
  case body =>
    rintro l k a' W hl hk ⟨hne, ⟨f1, f2⟩, ⟨f3, f4⟩, hB⟩ ⟨Bx, ⟨hBx, fx⟩, rfl⟩
    have qx0 : W.cell? ⟨Bx, 0, none⟩ = some (.string (entAt E k).1) := cell_of_heap fx rfl
    have qx1 : W.cell? ⟨Bx, 1, none⟩ = some (.string (entAt E k).2) := cell_of_heap fx rfl
    have qx2 : W.cell? ⟨Bx, 2, none⟩ = some (.bool false) := cell_of_heap fx rfl
    have q30 : W.cell? ⟨w.heap.size + 1 + 1 + 1, 0, none⟩ = some (.string n) := cell_of_heap f3 rfl
    have q31 : W.cell? ⟨w.heap.size + 1 + 1 + 1, 1, none⟩ = some (.string u) := cell_of_heap f3 rfl
    have q32 : W.cell? ⟨w.heap.size + 1 + 1 + 1, 2, none⟩ = some (.bool false) := cell_of_heap f3 rfl
    have q4 : W.cell? ⟨w.heap.size + 1 + 1 + 1 + 1, 0, none⟩ = some (.int .i64 (nameAt E n k : Int)) := cell_of_heap f4 rfl
    have q1 : W.cell? ⟨w.heap.size + 1, 0, none⟩ = some (.int .i64 0) := cell_of_heap f1 rfl
    have q2 : W.cell? ⟨w.heap.size + 1 + 1, 0, none⟩ = some (.bool false) := cell_of_heap f2 rfl
    have z1 : W.frozen? ⟨w.heap.size + 1, 0, none⟩ = false := frozen_of_heap f1
    have z2 : W.frozen? ⟨w.heap.size + 1 + 1, 0, none⟩ = false := frozen_of_heap f2
    have z4 : W.frozen? ⟨w.heap.size + 1 + 1 + 1 + 1, 0, none⟩ = false := frozen_of_heap f4
    have HF : Hid (W.heap[w.heap.size + 1]? = some (.cells #[.int .i64 0] 3) ∧ W.heap[w.heap.size + 1 + 1]? = some (.cells #[.bool false] 4) ∧ W.heap[w.heap.size + 1 + 1 + 1]? = some (.cells #[.string n, .string u, .bool false] 59) ∧ W.heap[w.heap.size + 1 + 1 + 1 + 1]? = some (.cells #[.int .i64 (nameAt E n k : Int)] 3)) := ⟨f1, f2, f3, f4⟩
    have HN : Hid (∀ j, j < k → entAt E j ≠ (n, u)) := hne
    have HK : Hid (w.heap.size + 5 = W0.heap.size ∧ k < 61 + E.length) := ⟨hsz.symm, hk⟩
    have HB : Hid (Below w.heap.size w W) := hB
    clear f1 f2 f3 f4 hne hB hk hl hBx fx HT0 hsz hB0 g1 g2 g3 g4 hlt hL HT
    obtain ⟨en, hen⟩ : ∃ en, (entAt E k).1 = en := ⟨_, rfl⟩
    obtain ⟨eu, heu⟩ : ∃ eu, (entAt E k).2 = eu := ⟨_, rfl⟩
    have HEn : Hid ((entAt E k).1 = en ∧ (entAt E k).2 = eu) := ⟨hen, heu⟩
    rw [hen] at qx0
    rw [heu] at qx1
    obtain ⟨nk, hnk⟩ : ∃ nk, nameAt E n k = nk := ⟨_, rfl⟩
    have HNk : Hid (nameAt E n k = nk) := hnk
    rw [hnk] at q4
    clear hen heu hnk
    by_cases hen : en = n
    · subst hen
      by_cases heu : eu = u
      · subst heu
        gi_wp2
        refine ⟨(AllFrom.setCell _ (by have := HK.out.1; omega) _).trans (AllFrom.setCell _ (by have := HK.out.1; omega) _), ⟨rfl, Nat.succ_pos _, HK.out.2, Prod.ext HEn.out.1 HEn.out.2, HN.out⟩, ⟨(heap_set_other (by omega) _).trans (heap_set _ HF.out.1), heap_set _ ((heap_set_other (by omega) _).trans HF.out.2.1)⟩, (HB.out.setCell (p := ⟨w.heap.size + 1, 0, none⟩) (by simp) _).setCell (p := ⟨w.heap.size + 1 + 1, 0, none⟩) (by simp; omega) _⟩
      · have hu2 : ¬ eu.toList = u.toList := fun e => heu (toList_inj e)
        have HU : Hid (¬ eu = u) := heu
        clear heu
        by_cases h0 : nk = 0
        · subst h0
          have q4' : W.cell? ⟨w.heap.size + 1 + 1 + 1 + 1, 0, none⟩ = some (.int .i64 0) := q4
          clear q4
          gi_wp2
          refine ⟨AllFrom.setCell _ (by have := HK.out.1; omega) _, (Below.refl _ W).setCell (p := ⟨w.heap.size + 1 + 1 + 1 + 1, 0, none⟩) (by simp; omega) _, no_hit HN.out (fun e => HU.out (HEn.out.2.symm.trans (congrArg Prod.snd e))), ⟨(heap_set_other (by omega) _).trans HF.out.1, (heap_set_other (by omega) _).trans HF.out.2.1⟩, ⟨(heap_set_other (by omega) _).trans HF.out.2.2.1, ?_⟩, HB.out.setCell (p := ⟨w.heap.size + 1 + 1 + 1 + 1, 0, none⟩) (by simp; omega) _⟩
          rw [named_hit HNk.out HEn.out.1]
          exact heap_set _ HF.out.2.2.2
        · have h02 : ¬ (nk : Int) = 0 := by omega
          have H0 : Hid (¬ nk = 0) := h0
          clear h0
          gi_wp2
          exact ⟨AllFrom.refl _ _, Below.refl _ _, no_hit HN.out (fun e => HU.out (HEn.out.2.symm.trans (congrArg Prod.snd e))), ⟨HF.out.1, HF.out.2.1⟩, ⟨HF.out.2.2.1, by rw [named_miss (fun e => H0.out (HNk.out.symm.trans e.1))]; exact HF.out.2.2.2⟩, HB.out⟩
    · have hn2 : ¬ en.toList = n.toList := fun e => hen (toList_inj e)
      have hn3 : (en.toList == n.toList) = false := beq_eq_false_iff_ne.2 hn2
      have HN2 : Hid (¬ en = n) := hen
      clear hen
      by_cases h0 : nk = 0
      · subst h0
        have q4' : W.cell? ⟨w.heap.size + 1 + 1 + 1 + 1, 0, none⟩ = some (.int .i64 0) := q4
        clear q4
        gi_wp2
        exact ⟨AllFrom.refl _ _, Below.refl _ _, no_hit HN.out (fun e => HN2.out (HEn.out.1.symm.trans (congrArg Prod.fst e))), ⟨HF.out.1, HF.out.2.1⟩, ⟨HF.out.2.2.1, by rw [named_miss (fun e => HN2.out (HEn.out.1.symm.trans e.2))]; exact HF.out.2.2.2⟩, HB.out⟩
      · have h02 : ¬ (nk : Int) = 0 := by omega
        have H0 : Hid (¬ nk = 0) := h0
        clear h0
        gi_wp2
        exact ⟨AllFrom.refl _ _, Below.refl _ _, no_hit HN.out (fun e => HN2.out (HEn.out.1.symm.trans (congrArg Prod.fst e))), ⟨HF.out.1, HF.out.2.1⟩, ⟨HF.out.2.2.1, by rw [named_miss (fun e => H0.out (HNk.out.symm.trans e.1))]; exact HF.out.2.2.2⟩, HB.out⟩
  case done =>
    rintro D W hD ⟨hne, ⟨f1, f2⟩, ⟨f3, f4⟩, hB⟩ hK
    have q4 : W.cell? ⟨w.heap.size + 1 + 1 + 1 + 1, 0, none⟩ = some (.int .i64 (nameAt E n (61 + E.length) : Int)) := cell_of_heap f4 rfl
    have q1 : W.cell? ⟨w.heap.size + 1, 0, none⟩ = some (.int .i64 0) := cell_of_heap f1 rfl
    have q2 : W.cell? ⟨w.heap.size + 1 + 1, 0, none⟩ = some (.bool false) := cell_of_heap f2 rfl
    have z1 : W.frozen? ⟨w.heap.size + 1, 0, none⟩ = false := frozen_of_heap f1
    have z2 : W.frozen? ⟨w.heap.size + 1 + 1, 0, none⟩ = false := frozen_of_heap f2
    have hB5 := (hB.setCell (p := ⟨w.heap.size + 1, 0, none⟩) (by simp) (.int .i64 (nameAt E n (61 + E.length) : Int))).setCell (p := ⟨w.heap.size + 1 + 1, 0, none⟩) (by simp; omega) (.bool false)
    have hK5 := ((KeepsOthers.setCell W ⟨w.heap.size + 1, 0, none⟩ (.int .i64 (nameAt E n (61 + E.length) : Int))).trans (KeepsOthers.setCell _ ⟨w.heap.size + 1 + 1, 0, none⟩ (.bool false))).same D _ hK rfl
    have e1 : ((W.setCell ⟨w.heap.size + 1, 0, none⟩ (.int .i64 (nameAt E n (61 + E.length) : Int))).setCell ⟨w.heap.size + 1 + 1, 0, none⟩ (.bool false)).heap[w.heap.size + 1]? = some (.cells #[.int .i64 (nameAt E n (61 + E.length) : Int)] 3) := (heap_set_other (by omega) _).trans (heap_set _ f1)
    have e2 : ((W.setCell ⟨w.heap.size + 1, 0, none⟩ (.int .i64 (nameAt E n (61 + E.length) : Int))).setCell ⟨w.heap.size + 1 + 1, 0, none⟩ (.bool false)).heap[w.heap.size + 1 + 1]? = some (.cells #[.bool false] 4) := heap_set _ ((heap_set_other (by omega) _).trans f2)
    gi_wp2
    generalize (W.setCell ⟨w.heap.size + 1, 0, none⟩ (.int .i64 (nameAt E n (61 + E.length) : Int))).setCell ⟨w.heap.size + 1 + 1, 0, none⟩ (.bool false) = W5 at e1 e2 hB5 hK5 ⊢
    have f1' := heap_of_put (.deferred none) e1 hK5 rfl rfl
    have f2' := heap_of_put (.deferred none) e2 hK5 rfl rfl
    have r1 : (W5.putObj D (.deferred none)).cell? ⟨w.heap.size + 1, 0, none⟩ = some (.int .i64 (nameAt E n (61 + E.length) : Int)) := cell_of_heap f1' rfl
    have r2 : (W5.putObj D (.deferred none)).cell? ⟨w.heap.size + 1 + 1, 0, none⟩ = some (.bool false) := cell_of_heap f2' rfl
    refine ⟨by simp, .inl ⟨_, _, rfl, run_takeDeferred hK5, ?_⟩⟩
    refine ⟨.tuple #[.int .i64 (nameAt E n (61 + E.length) : Int), .bool false], ?_, ⟨_, false, rfl, .inr ⟨rfl, rfl, hne⟩⟩, hB5.trans (belowK_b (w := w) (Nat.le_refl _) W5 D _ _ (by omega) hK5 rfl rfl)⟩
    simp [results, Try.f30, go_sem, r1, r2]
  case stop =>
    rintro D c k W hD hk ⟨⟨rfl, hp⟩, ⟨f1, f2⟩, hB⟩ hK
    gi_wp2
    have f1' := heap_of_put (.deferred none) f1 hK rfl rfl
    have f2' := heap_of_put (.deferred none) f2 hK rfl rfl
    have q10 : (W.putObj D (.deferred none)).cell? ⟨w.heap.size + 1, 0, none⟩ = some (.int .i64 (k : Int)) := cell_of_heap f1' rfl
    have q11 : (W.putObj D (.deferred none)).cell? ⟨w.heap.size + 1 + 1, 0, none⟩ = some (.bool true) := cell_of_heap f2' rfl
    refine ⟨by simp, .inl ⟨_, _, rfl, run_takeDeferred hK, ?_⟩⟩
    refine ⟨.tuple #[.int .i64 (k : Int), .bool true], ?_, ⟨k, true, rfl, .inl ⟨rfl, hp⟩⟩, hB.trans (belowK_b (w := w) (Nat.le_refl _) W D _ _ (by omega) hK rfl rfl)⟩
    simp [results, Try.f30, go_sem, q10, q11]
end Go.Proofs.Ytkipeifkfgbkeaa
