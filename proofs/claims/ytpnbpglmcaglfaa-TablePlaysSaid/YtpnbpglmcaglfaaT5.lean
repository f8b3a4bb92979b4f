/- Contracts of table.Static and of awake. -/
import Derived.Test.YtpnbpglmcaglfaaT4
namespace Go.Proofs.Ytpnbpglmcaglfaa
open Go.RowKit
set_option maxRecDepth 100000
set_option maxHeartbeats 4000000
set_option linter.unusedVariables false
attribute [local go_sem] Oper.semAt_some

theorem own_cells {β : Type} (B b : Nat) (o : β → Obj) (ho : ∀ s, (o s).isCells = true) : OwnFrom B (fun s W => W.heap[b]? = some (o s)) := fun s X Y row hs hg hr =>
  (hg.block b (Array.getElem?_eq_some_iff.1 hs).1 (fun e => by obtain ⟨_, o', h1, h2⟩ := hr b e.symm; rw [hs] at h1; cases h1; rw [ho s] at h2; cases h2)).trans hs
theorem heap_set {w : World} {b i : Nat} {cs : Array Value} {t : TypeId} {f : Nat × Nat} (v : Value) (h : w.heap[b]? = some (.cells cs t f)) : (w.setCell ⟨b, i, none⟩ v).heap[b]? = some (.cells (cs.setIfInBounds i v) t f) := by
  obtain ⟨hlt, he⟩ := Array.getElem?_eq_some_iff.1 h
  have hlt2 : b < (w.setCell ⟨b, i, none⟩ v).heap.size := by simpa [World.setCell] using hlt
  rw [Array.getElem?_eq_getElem hlt2]
  congr 1
  simp [World.setCell, Array.getElem_modify, he]
theorem heap_set_other {w : World} {b c i : Nat} (hne : b ≠ c) (v : Value) : (w.setCell ⟨c, i, none⟩ v).heap[b]? = w.heap[b]? := Below.heap_setCell _ _ _ _ hne
theorem heap_of_alloc {w : World} {b : Nat} {o : Obj} (h : w.heap[b]? = some o) (o' : Obj) : (w.alloc o').heap[b]? = some o := (Below.heap_alloc w o' b (Array.getElem?_eq_some_iff.1 h).1).trans h
theorem heap_of_put {w : World} {b D : Nat} {o o1 : Obj} (o' : Obj) (h : w.heap[b]? = some o) (hD : w.heap[D]? = some o1) (hc : o.isCells = true) (h1 : o1.isCells = false) : (w.putObj D o').heap[b]? = some o :=
  (World.putObj_heap_other (fun e => by subst e; rw [h] at hD; cases hD; rw [hc] at h1; cases h1)).trans h

theorem set4 {W : World} {b c : Nat} {a0 a1 a2 d : Value} {t t' : TypeId} (x y z u : Value) (f1 : W.heap[b]? = some (.cells #[a0, a1, a2] t (0, 0))) (f2 : W.heap[c]? = some (.cells #[d] t' (0, 0))) (hne : b ≠ c) :
    ((((W.setCell ⟨b, 0, none⟩ x).setCell ⟨b, 1, none⟩ y).setCell ⟨b, 2, none⟩ z).setCell ⟨c, 0, none⟩ u).heap[b]? = some (.cells #[x, y, z] t (0, 0)) ∧
    ((((W.setCell ⟨b, 0, none⟩ x).setCell ⟨b, 1, none⟩ y).setCell ⟨b, 2, none⟩ z).setCell ⟨c, 0, none⟩ u).heap[c]? = some (.cells #[u] t' (0, 0)) := by
  refine ⟨?_, ?_⟩
  · rw [heap_set_other hne]
    exact heap_set _ (heap_set _ (heap_set _ f1))
  · exact heap_set u (((heap_set_other hne.symm z).trans ((heap_set_other hne.symm y).trans (heap_set_other hne.symm x))).trans f2)
/-- What Static answers: the name, the value, the error. -/
def statIn (i : Int) : Bool := decide (1 ≤ i ∧ i ≤ 61)
def stN (i : Int) : ByteArray := if statIn i then sName (i.toNat - 1) else ⟨#[]⟩
def stV (i : Int) : ByteArray := if statIn i then sValue (i.toNat - 1) else ⟨#[]⟩
def stE (i : Int) : Int := if statIn i then 0 else 50

theorem Static_in (i : Int) (w : World) :
    Calls Try.prog 9 #[.int .i64 i] w fun e w' => e = .returned (.tuple #[.agg #[.string (stN i), .string (stV i), .bool false], .int .i64 (stE i)]) ∧ Below w.heap.size w w' := by
  refine (callsIn_wide (n := 0)).1 ?_
  refine callsIn_of_wp_marks Try.func9 rfl trivial ?_ rfl
  simp only [Try.ntmps9, List.size_toArray, List.length_cons, List.length_nil, Nat.reduceAdd, Nat.reduceSub, Array.replicate_succ, Array.replicate_zero, List.push_toArray, List.append_toArray, List.nil_append, List.cons_append]
  gi_wp2
  have g0 : (((w.alloc (.cells #[.int .i64 i] 3)).alloc (.cells #[.string ⟨#[]⟩, .string ⟨#[]⟩, .bool false] 23)).alloc (.cells #[.int .i64 0] 24)).heap[w.heap.size]? = some (.cells #[.int .i64 i] 3) := heap_of_alloc (heap_of_alloc (heap_alloc_new _ _) _) _
  have g1 : (((w.alloc (.cells #[.int .i64 i] 3)).alloc (.cells #[.string ⟨#[]⟩, .string ⟨#[]⟩, .bool false] 23)).alloc (.cells #[.int .i64 0] 24)).heap[w.heap.size + 1]? = some (.cells #[.string ⟨#[]⟩, .string ⟨#[]⟩, .bool false] 23) := by
    have := heap_alloc_new (w.alloc (.cells #[.int .i64 i] 3)) (.cells #[.string ⟨#[]⟩, .string ⟨#[]⟩, .bool false] 23)
    rw [World.size_alloc] at this
    exact heap_of_alloc this _
  have g2 : (((w.alloc (.cells #[.int .i64 i] 3)).alloc (.cells #[.string ⟨#[]⟩, .string ⟨#[]⟩, .bool false] 23)).alloc (.cells #[.int .i64 0] 24)).heap[w.heap.size + 1 + 1]? = some (.cells #[.int .i64 0] 24) := by
    have := heap_alloc_new ((w.alloc (.cells #[.int .i64 i] 3)).alloc (.cells #[.string ⟨#[]⟩, .string ⟨#[]⟩, .bool false] 23)) (.cells #[.int .i64 0] 24)
    rwa [World.size_alloc, World.size_alloc] at this
  have hB0 : Below w.heap.size w (((w.alloc (.cells #[.int .i64 i] 3)).alloc (.cells #[.string ⟨#[]⟩, .string ⟨#[]⟩, .bool false] 23)).alloc (.cells #[.int .i64 0] 24)) := (((Below.refl _ w).alloc (Nat.le_refl _) _).alloc (by simp) _).alloc (by simp; omega) _
  have hsz : (((w.alloc (.cells #[.int .i64 i] 3)).alloc (.cells #[.string ⟨#[]⟩, .string ⟨#[]⟩, .bool false] 23)).alloc (.cells #[.int .i64 0] 24)).heap.size = w.heap.size + 3 := by simp
  generalize ((w.alloc (.cells #[.int .i64 i] 3)).alloc (.cells #[.string ⟨#[]⟩, .string ⟨#[]⟩, .bool false] 23)).alloc (.cells #[.int .i64 0] 24) = W0 at g0 g1 g2 hB0 hsz ⊢
  refine range_law (gf := 25) (fs := #[]) (lb := #[]) rfl (enters_of Try.func25 (by kernel_rfl) rfl) (static_tells w.heap.size W0) (by omega) (Below.refl _ _) (fun _ => rfl)
    (fun k W => (¬ (1 ≤ i ∧ i ≤ k) ∧ W.heap[w.heap.size]? = some (.cells #[.int .i64 i] 3)) ∧ (W.heap[w.heap.size + 1]? = some (.cells #[.string ⟨#[]⟩, .string ⟨#[]⟩, .bool false] 23) ∧ W.heap[w.heap.size + 1 + 1]? = some (.cells #[.int .i64 0] 24)) ∧ Below w.heap.size w W)
    (fun c k W => (c = .ret ∧ 1 ≤ i ∧ i ≤ 61) ∧ (W.heap[w.heap.size + 1]? = some (.cells #[.string (sName (i.toNat - 1)), .string (sValue (i.toNat - 1)), .bool false] 23) ∧ W.heap[w.heap.size + 1 + 1]? = some (.cells #[.int .i64 0] 24)) ∧ Below w.heap.size w W)
    (OwnFrom.and (OwnFrom.and (ownFrom_pure _ _) (own_cells _ _ _ (fun _ => rfl))) (OwnFrom.and (OwnFrom.and (own_cells _ _ _ (fun _ => rfl)) (own_cells _ _ _ (fun _ => rfl))) (ownFrom_below (Nat.le_refl _) (by omega))))
    (fun c => OwnFrom.and (ownFrom_pure _ _) (OwnFrom.and (OwnFrom.and (own_cells _ _ _ (fun _ => rfl)) (own_cells _ _ _ (fun _ => rfl))) (ownFrom_below (Nat.le_refl _) (by omega))))
    ⟨⟨by omega, g0⟩, ⟨g1, g2⟩, hB0⟩
    (fun k a' W => ∃ Bx, (w.heap.size + 1 + 1 < Bx ∧ W.heap[Bx]? = some (.cells #[.string (sName k), .string (sValue k), .bool false] 23)) ∧ a' = { tmps := #[.int .i64 i, .pointer (some ⟨w.heap.size, 0, none⟩), .pointer (some ⟨w.heap.size + 1, 0, none⟩), .pointer (some ⟨w.heap.size + 1 + 1, 0, none⟩), .int .i64 ((k : Int) + 1), .pointer (some ⟨Bx, 0, none⟩), .int .i64 ((k : Int) + 1), .agg #[.string (sName k), .string (sValue k), .bool false], undef, undef, undef, undef, undef], defers := [] })
    (fun k a' _ X Y row hs hg hr => by
      obtain ⟨Bx, ⟨e1, e2⟩, e3⟩ := hs
      exact ⟨Bx, ⟨e1, own_cells (β := Unit) W0.heap.size Bx (fun _ => .cells #[.string (sName k), .string (sValue k), .bool false] 23) (fun _ => rfl) () X Y row e2 hg hr⟩, e3⟩)
    ?assign ?body ?done ?stop
  case assign =>
    rintro l k W K hk ⟨⟨hne, f0⟩, ⟨f1, f2⟩, hB⟩ hK
    dsimp only [statEnc]
    gi_wp2
    exact hK _ _ ((KeepsOthers.alloc _ _).from _) ⟨(Below.refl _ W).alloc hB.size _, KeepsWalks.alloc _ _⟩ ⟨⟨hne, heap_of_alloc f0 _⟩, ⟨heap_of_alloc f1 _, heap_of_alloc f2 _⟩, hB.alloc hB.size _⟩ ⟨W.heap.size, ⟨lt_of_heap f2, heap_alloc_new W _⟩, rfl⟩
  case body =>
    rintro l k a' W hl hk ⟨⟨hne, f0⟩, ⟨f1, f2⟩, hB⟩ ⟨Bx, ⟨hBx, fx⟩, rfl⟩
    have q0 : W.cell? ⟨w.heap.size, 0, none⟩ = some (.int .i64 i) := cell_of_heap f0 rfl
    have qx0 : W.cell? ⟨Bx, 0, none⟩ = some (.string (sName k)) := cell_of_heap fx rfl
    have qx1 : W.cell? ⟨Bx, 1, none⟩ = some (.string (sValue k)) := cell_of_heap fx rfl
    have qx2 : W.cell? ⟨Bx, 2, none⟩ = some (.bool false) := cell_of_heap fx rfl
    have q10 : W.cell? ⟨w.heap.size + 1, 0, none⟩ = some (.string ⟨#[]⟩) := cell_of_heap f1 rfl
    have q11 : W.cell? ⟨w.heap.size + 1, 1, none⟩ = some (.string ⟨#[]⟩) := cell_of_heap f1 rfl
    have q12 : W.cell? ⟨w.heap.size + 1, 2, none⟩ = some (.bool false) := cell_of_heap f1 rfl
    have q2 : W.cell? ⟨w.heap.size + 1 + 1, 0, none⟩ = some (.int .i64 0) := cell_of_heap f2 rfl
    have z1 : W.frozen? ⟨w.heap.size + 1, 0, none⟩ = false := frozen_of_heap f1
    have z11 : W.frozen? ⟨w.heap.size + 1, 1, none⟩ = false := frozen_of_heap f1
    have z12 : W.frozen? ⟨w.heap.size + 1, 2, none⟩ = false := frozen_of_heap f1
    have z2 : W.frozen? ⟨w.heap.size + 1 + 1, 0, none⟩ = false := frozen_of_heap f2
    gi_wp2
    · rename_i hki
      have hki' : (k : Int) + 1 = i := eq_of_beq hki
      have hkn : i.toNat - 1 = k := by omega
      refine ⟨((((KeepsOthers.setCell _ _ _).trans (KeepsOthers.setCell _ _ _)).trans (KeepsOthers.setCell _ _ _)).trans (KeepsOthers.setCell _ _ _)).from _, ⟨rfl, by omega, by omega⟩, ⟨?_, ?_⟩, ?_⟩
      · rw [hkn]; exact (set4 _ _ _ _ f1 f2 (by omega)).1
      · exact (set4 _ _ _ _ f1 f2 (by omega)).2
      · exact (((hB.setCell (p := ⟨w.heap.size + 1, 0, none⟩) (by simp) _).setCell (p := ⟨w.heap.size + 1, 1, none⟩) (by simp) _).setCell (p := ⟨w.heap.size + 1, 2, none⟩) (by simp) _).setCell (p := ⟨w.heap.size + 1 + 1, 0, none⟩) (by simp; omega) _
    · rename_i hki
      have hki' : ¬ (k : Int) + 1 = i := fun e => by rw [e, beq_self_eq_true] at hki; cases hki
      exact ⟨KeepsFrom.refl _ _, Keeps.refl _ _, ⟨by omega, f0⟩, ⟨f1, f2⟩, hB⟩
  case done =>
    rintro D W hD ⟨⟨hne, f0⟩, ⟨f1, f2⟩, hB⟩ hK
    have q10 : W.cell? ⟨w.heap.size + 1, 0, none⟩ = some (.string ⟨#[]⟩) := cell_of_heap f1 rfl
    have q11 : W.cell? ⟨w.heap.size + 1, 1, none⟩ = some (.string ⟨#[]⟩) := cell_of_heap f1 rfl
    have q12 : W.cell? ⟨w.heap.size + 1, 2, none⟩ = some (.bool false) := cell_of_heap f1 rfl
    have q2 : W.cell? ⟨w.heap.size + 1 + 1, 0, none⟩ = some (.int .i64 0) := cell_of_heap f2 rfl
    have z1 : W.frozen? ⟨w.heap.size + 1, 0, none⟩ = false := frozen_of_heap f1
    have z11 : W.frozen? ⟨w.heap.size + 1, 1, none⟩ = false := frozen_of_heap f1
    have z12 : W.frozen? ⟨w.heap.size + 1, 2, none⟩ = false := frozen_of_heap f1
    have z2 : W.frozen? ⟨w.heap.size + 1 + 1, 0, none⟩ = false := frozen_of_heap f2
    gi_wp2
    have hst : statIn i = false := decide_eq_false (by omega)
    obtain ⟨e1, e2⟩ := set4 (W := W) (.string ⟨#[]⟩) (.string ⟨#[]⟩) (.bool false) (.int .i64 50) f1 f2 (by omega)
    have hB5 := (((hB.setCell (p := ⟨w.heap.size + 1, 0, none⟩) (by simp) (.string ⟨#[]⟩)).setCell (p := ⟨w.heap.size + 1, 1, none⟩) (by simp) (.string ⟨#[]⟩)).setCell (p := ⟨w.heap.size + 1, 2, none⟩) (by simp) (.bool false)).setCell (p := ⟨w.heap.size + 1 + 1, 0, none⟩) (by simp; omega) (.int .i64 50)
    have hK5 := ((((KeepsOthers.setCell W ⟨w.heap.size + 1, 0, none⟩ (.string ⟨#[]⟩)).trans (KeepsOthers.setCell _ ⟨w.heap.size + 1, 1, none⟩ (.string ⟨#[]⟩))).trans (KeepsOthers.setCell _ ⟨w.heap.size + 1, 2, none⟩ (.bool false))).trans (KeepsOthers.setCell _ ⟨w.heap.size + 1 + 1, 0, none⟩ (.int .i64 50))).same D _ hK rfl
    generalize (((W.setCell ⟨w.heap.size + 1, 0, none⟩ (.string ⟨#[]⟩)).setCell ⟨w.heap.size + 1, 1, none⟩ (.string ⟨#[]⟩)).setCell ⟨w.heap.size + 1, 2, none⟩ (.bool false)).setCell ⟨w.heap.size + 1 + 1, 0, none⟩ (.int .i64 50) = W5 at e1 e2 hB5 hK5 ⊢
    have f1' := heap_of_put (.deferred none) e1 hK5 rfl rfl
    have f2' := heap_of_put (.deferred none) e2 hK5 rfl rfl
    have r10 : (W5.putObj D (.deferred none)).cell? ⟨w.heap.size + 1, 0, none⟩ = some (.string ⟨#[]⟩) := cell_of_heap f1' rfl
    have r11 : (W5.putObj D (.deferred none)).cell? ⟨w.heap.size + 1, 1, none⟩ = some (.string ⟨#[]⟩) := cell_of_heap f1' rfl
    have r12 : (W5.putObj D (.deferred none)).cell? ⟨w.heap.size + 1, 2, none⟩ = some (.bool false) := cell_of_heap f1' rfl
    have r2 : (W5.putObj D (.deferred none)).cell? ⟨w.heap.size + 1 + 1, 0, none⟩ = some (.int .i64 50) := cell_of_heap f2' rfl
    refine ⟨by simp, .inl ⟨_, _, rfl, run_takeDeferred hK5, ?_⟩⟩
    refine ⟨.tuple #[.agg #[.string ⟨#[]⟩, .string ⟨#[]⟩, .bool false], .int .i64 50], ?_, ?_, hB5.trans (belowK_b (w := w) (Nat.le_refl _) W5 D _ _ (by omega) hK5 rfl rfl)⟩
    · simp [results, Try.f9, go_sem, r10, r11, r12, r2]
    · simp [stN, stV, stE, hst]
  case stop =>
    rintro D c k W hD hk ⟨⟨rfl, h1, h61⟩, ⟨f1, f2⟩, hB⟩ hK
    gi_wp2
    have hst : statIn i = true := decide_eq_true ⟨h1, h61⟩
    have f1' := heap_of_put (.deferred none) f1 hK rfl rfl
    have f2' := heap_of_put (.deferred none) f2 hK rfl rfl
    have q10 : (W.putObj D (.deferred none)).cell? ⟨w.heap.size + 1, 0, none⟩ = some (.string (sName (i.toNat - 1))) := cell_of_heap f1' rfl
    have q11 : (W.putObj D (.deferred none)).cell? ⟨w.heap.size + 1, 1, none⟩ = some (.string (sValue (i.toNat - 1))) := cell_of_heap f1' rfl
    have q12 : (W.putObj D (.deferred none)).cell? ⟨w.heap.size + 1, 2, none⟩ = some (.bool false) := cell_of_heap f1' rfl
    have q2 : (W.putObj D (.deferred none)).cell? ⟨w.heap.size + 1 + 1, 0, none⟩ = some (.int .i64 0) := cell_of_heap f2' rfl
    refine ⟨by simp, .inl ⟨_, _, rfl, run_takeDeferred hK, ?_⟩⟩
    refine ⟨.tuple #[.agg #[.string (sName (i.toNat - 1)), .string (sValue (i.toNat - 1)), .bool false], .int .i64 0], ?_, ?_, hB.trans (belowK_b (w := w) (Nat.le_refl _) W D _ _ (by omega) hK rfl rfl)⟩
    · simp [results, Try.f9, go_sem, q10, q11, q12, q2]
    · simp [stN, stV, stE, hst]

end Go.Proofs.Ytpnbpglmcaglfaa
