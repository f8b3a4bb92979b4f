/- A range over a function whose body the iterator's own memory does not concern: the law for an iterator that keeps things in memory. -/
import Derived.Test.YtkipeifkfgbkeaaV1
namespace Go.Proofs.Ytkipeifkfgbkeaa
open Go.RowKit
set_option maxRecDepth 100000
set_option maxHeartbeats 4000000
set_option linter.unusedVariables false
attribute [local go_sem] Oper.semAt_some

/-- All blocks from B on are as they were. -/
structure AllFrom (B : Nat) (W W' : World) : Prop where
  size : W.heap.size ≤ W'.heap.size
  same : ∀ (k : Nat) (o : Obj), B ≤ k → W.heap[k]? = some o → W'.heap[k]? = some o
theorem AllFrom.refl (B : Nat) (W : World) : AllFrom B W W := ⟨Nat.le_refl _, fun _ _ _ h => h⟩
theorem AllFrom.trans {B : Nat} {X Y Z : World} (h : AllFrom B X Y) (k : AllFrom B Y Z) : AllFrom B X Z := ⟨Nat.le_trans h.size k.size, fun i o hB hi => k.same i o hB (h.same i o hB hi)⟩
theorem AllFrom.mono {B B' : Nat} {X Y : World} (h : AllFrom B X Y) (hB : B ≤ B') : AllFrom B' X Y := ⟨h.size, fun i o hi => h.same i o (Nat.le_trans hB hi)⟩
theorem AllFrom.alloc (B : Nat) (W : World) (o : Obj) : AllFrom B W (W.alloc o) := ⟨by simp, fun k o' _ hk => heap_of_alloc hk o⟩
theorem AllFrom.setCell {B : Nat} (W : World) {b i : Nat} (hb : b < B) (v : Value) : AllFrom B W (W.setCell ⟨b, i, none⟩ v) := ⟨by simp [World.setCell], fun k o hk h => (heap_set_other (by omega) v).trans h⟩
theorem AllFrom.putObj {B l : Nat} {W : World} (o : Obj) (hl : l < B) : AllFrom B W (W.putObj l o) := ⟨by simp [World.putObj], fun k o' hk h => (World.putObj_heap_other (by omega)).trans h⟩
theorem AllFrom.drewN (B : Nat) (W : World) (n : Nat) : AllFrom B W (W.drewN n) := ⟨Nat.le_refl _, fun _ _ _ h => h⟩
/-- What a round that goes on keeps. -/
structure Keeps2 (n₀ B : Nat) (W W' : World) : Prop where
  below : Below n₀ W W'
  all : AllFrom B W W'
theorem below_put {n₀ l : Nat} {W : World} {o : Obj} (o' : Obj) (hn : n₀ ≤ l) (h : W.heap[l]? = some o) : Below n₀ W (W.putObj l o') :=
  (Below.refl n₀ W).grown (grownBy_putObj' W l o') (by have := (Array.getElem?_eq_some_iff.1 h).1; omega) (fun k e => by cases e; omega)

/-- An iterator: it tells enc 0, enc 1 .. to whatever it is handed, all N of them or until it is told to stop. -/
def Tells2 (P : Program) (gf : Nat) (fs lb : Array Value) (N : Nat) (enc : Nat → Array Value) (n₀ : Nat) (w0 : World) : Prop :=
  ∀ (l : Nat) (J Jx : Nat → World → Prop) (W : World), Below w0.heap.size w0 W → OwnFrom W.heap.size J → OwnFrom W.heap.size Jx →
    (∀ k W1, J k W1 → k < N → YieldAt Fence.wide 0 P l (enc k) W1 fun e W' => (e = .returned (.bool true) ∧ J (k + 1) W' ∧ Keeps2 n₀ W.heap.size W1 W') ∨ (e = .returned (.bool false) ∧ Jx (k + 1) W' ∧ AllFrom W.heap.size W1 W')) →
    J 0 W → CallsIn Fence.wide 0 P gf (fs ++ #[.func (.yield l) #[] #[]] ++ lb) W fun e W' => (∃ v, e = .returned v) ∧ (J N W' ∨ ∃ k, k ≤ N ∧ Jx k W')

/-- How a round's body is left. -/
def Went2 (B n₀ : Nat) (I : Nat → World → Prop) (Ix : Code → Nat → World → Prop) (k : Nat) (W : World) : Exit → Act → World → Prop
  | .normal, _, W' => AllFrom B W W' ∧ Below n₀ W W' ∧ I k W'
  | .ret, _, W' => AllFrom B W W' ∧ Ix .ret k W'
  | .exit id, _, W' => AllFrom B W W' ∧ Ix (.exit id) k W'
  | .goto t, _, W' => AllFrom B W W' ∧ Ix (.goto t) k W'
  | .panic _, _, _ => False
  | .outgrown, _, _ => False

theorem range_law2 {P : Program} {g : Operand} {ps : Array Tmp} {assign body : Code} {Q : Exit → Act → World → Prop} {a : Act} {w : World}
    {gf : Nat} {fs lb : Array Value} (hg : a.eval g = .func (.func gf) fs lb) (eg : ∀ args w, (callFunc gf args).run P w = .ok (.enter gf args) w)
    {N : Nat} {enc : Nat → Array Value} {n₀ : Nat} {w0 : World} (hseq : Tells2 P gf fs lb N enc n₀ w0) (hn₀ : n₀ ≤ w.heap.size) (hb0 : Below w0.heap.size w0 w) (hps : ∀ k, (enc k).size = ps.size)
    (I : Nat → World → Prop) (Ix : Code → Nat → World → Prop) (hI : OwnFrom w.heap.size I) (hIx : ∀ c, OwnFrom w.heap.size (Ix c)) (h0 : I 0 w)
    (Ax : Nat → Act → World → Prop) (hAx : ∀ k a', OwnFrom w.heap.size (fun (_ : Unit) W => Ax k a' W))
    (hassign : ∀ (l k : Nat) (W : World) (K : Act → World → Prop), k < N → I k W → (∀ a' W', AllFrom w.heap.size W W' → Below n₀ W W' → I k W' → Ax k a' W' → K a' W') →
      assign.wpIn (Fence.wide.inRound l) 0 P (Exit.then K (fun _ _ _ => False)) { tmps := (ps.zip (enc k)).foldl (fun t (p, v) => t.setIfInBounds p v) a.tmps, defers := [] } W)
    (hbody : ∀ (l k : Nat) (a' : Act) (W : World), w.heap.size ≤ l → k < N → I k W → Ax k a' W → body.wpIn (Fence.wide.inRound l) 0 P (Went2 w.heap.size n₀ I Ix (k + 1) W) a' W)
    (hdone : ∀ (D : Nat) (W : World), w.heap.size ≤ D → I N W → W.heap[D]? = some (.deferred (some [])) → Q .normal { a with defers := { target := .collected D, args := #[] } :: a.defers } W)
    (hstop : ∀ (D : Nat) (c : Code) (k : Nat) (W : World), w.heap.size ≤ D → k ≤ N → Ix c k W → W.heap[D]? = some (.deferred (some [])) → c.wpIn Fence.wide 0 P Q { a with defers := { target := .collected D, args := #[] } :: a.defers } W) :
    (Code.rangeFunc g ps assign body).wpIn Fence.wide 0 P Q a w := by
  refine wpIn_rangeFunc fun fn hfn => ?_
  show ∃ (l : Nat) (mark : List Deferred) (w₁ : World) (d : Deferred) (w₁' : World) (f : FuncId) (args : Array Value) (w₂ : World), (Instr.enterLoop fn a.tmps ps assign body none).run P w = .ok (l, mark) w₁ ∧ _
  obtain ⟨rc, hrc⟩ : ∃ rc : LoopState → Option Code → Loop, rc = fun st pe => { state := st, pending := pe, fn := fn, tmps := a.tmps, params := ps, assign := assign, body := body, defers := w.heap.size } := ⟨_, rfl⟩
  have hps' : ∀ k, (enc k).size = (rc .ready none).params.size := fun k => by rw [hrc]; exact hps k
  obtain ⟨V, hV⟩ : ∃ V, (w.alloc (.deferred (some []))).alloc (.loop (rc .ready none)) = V := ⟨_, rfl⟩
  have hVs : V.heap.size = w.heap.size + 2 := by rw [← hV]; simp
  have hVl : V.heap[w.heap.size + 1]? = some (.loop (rc .ready none)) := by
    rw [← hV]; have := heap_alloc_new (w.alloc (.deferred (some []))) (.loop (rc .ready none)); rwa [World.size_alloc] at this
  have hVd : V.heap[w.heap.size]? = some (.deferred (some [])) := by
    rw [← hV]; exact (Below.heap_alloc _ _ _ (by simp)).trans (heap_alloc_new w _)
  have hVb : Below w0.heap.size w0 V := by
    rw [← hV]; exact hb0.trans ((((Below.refl _ w).alloc (Nat.le_refl _) _).alloc (by simp) _).mono hb0.size)
  have hVI : I 0 V := by rw [← hV]; exact hI.alloc _ (hI.alloc _ h0)
  refine ⟨w.heap.size + 1, [{ target := .collected w.heap.size, args := #[] }], V, { target := .fn (.func gf) lb, args := fs ++ #[.func (.yield (w.heap.size + 1)) #[] #[]] }, V, gf, fs ++ #[.func (.yield (w.heap.size + 1)) #[] #[]] ++ lb, V, ?_, ?_, fun _ _ => trivial, ?_, (fun h => by cases h), ?_⟩
  · rw [← hV, hrc]; exact run_enterLoop_outer _ _ _ _ _
  · simp only [resolve, hg]
    simp [go_sem]
  · simp [invoke, go_sem, eg]
  · have hfix : ∀ {β : Type} {J : β → World → Prop}, OwnFrom w.heap.size J → OwnFrom V.heap.size J := fun h s A B row hs hg' hr => h s A B row hs hg' (fun r e => ⟨by have := (hr r e).1; omega, (hr r e).2⟩)
    have hat : ∀ {X Y : World} {row : Option Nat} {b : Nat} {o : Obj}, b < V.heap.size → X.grownBy Y row → (∀ r, row = some r → V.heap.size ≤ r ∧ ∃ o : Obj, X.heap[r]? = some o ∧ o.isCells = false) → X.heap[b]? = some o → Y.heap[b]? = some o := fun {X Y row b o} hb hg' hr hx => by
      refine (hg'.block b (Array.getElem?_eq_some_iff.1 hx).1 (fun e => ?_)).trans hx
      have := (hr b e.symm).1
      omega
    refine (hseq (w.heap.size + 1)
      (fun k W => I k W ∧ W.heap[w.heap.size + 1]? = some (.loop (rc .ready none)) ∧ W.heap[w.heap.size]? = some (.deferred (some [])))
      (fun k W => ∃ c, Ix c k W ∧ W.heap[w.heap.size + 1]? = some (.loop (rc .done (some c))) ∧ W.heap[w.heap.size]? = some (.deferred (some [])))
      V hVb
      (fun s X Y row hs hg' hr => ⟨hfix hI s X Y row hs.1 hg' hr, hat (by omega) hg' hr hs.2.1, hat (by omega) hg' hr hs.2.2⟩)
      (fun s X Y row hs hg' hr => by
        obtain ⟨c, h1, h2, h3⟩ := hs
        exact ⟨c, hfix (hIx c) s X Y row h1 hg' hr, hat (by omega) hg' hr h2, hat (by omega) hg' hr h3⟩)
      ?_ ⟨hVI, hVl, hVd⟩).mono ?_
    · rintro k W ⟨hi, hl, hd⟩ hk
      have hy := run_yield (P := P) (args := enc k) hl (hps' k)
      rw [hrc] at hy
      refine ⟨fn, _, assign, body, hy, roundIn_of_wpIn hfn (hassign _ k W _ hk hi ?_)⟩
      clear hy
      intro a' Wa hkf hkp hia hax
      have hl1 := hkf.same _ _ (by omega) hl
      have hd1 := hkf.same _ _ (Nat.le_refl _) hd
      refine ⟨_, run_beginRound hl1 (by rw [hrc]), ?_⟩
      obtain ⟨Wb, hWb⟩ : ∃ Wb, Wa.putObj (w.heap.size + 1) (.loop { rc .ready none with state := .busy }) = Wb := ⟨_, rfl⟩
      have hl2 : Wb.heap[w.heap.size + 1]? = some (.loop { rc .ready none with state := .busy }) := by rw [← hWb]; exact World.putObj_heap_same (Array.getElem?_eq_some_iff.1 hl1).1
      have hd2 : Wb.heap[w.heap.size]? = some (.deferred (some [])) := by rw [← hWb]; exact (World.putObj_heap_other (by omega)).trans hd1
      have hk2 : Below n₀ W Wb := by rw [← hWb]; exact hkp.trans (below_put _ (by omega) hl1)
      have ha3 : AllFrom V.heap.size W Wb := by rw [← hWb]; exact (hkf.mono (by omega)).trans (AllFrom.putObj _ (by omega))
      have hi2 : I k Wb := by rw [← hWb]; exact hI.putObj _ hia (by omega) hl1 rfl
      have ha2 : Ax k a' Wb := by rw [← hWb]; exact (hAx k a').putObj (s := ()) _ hax (by omega) hl1 rfl
      rw [hWb]
      refine wpIn_mono (hbody _ k a' Wb (by omega) hk hi2 ha2) ?_
      have fin : ∀ (jump : Option Code) (W3 : World), AllFrom w.heap.size Wb W3 →
          (Instr.endRound (w.heap.size + 1) jump).run P W3 = .ok (.bool jump.isNone) (W3.putObj (w.heap.size + 1) (.loop (rc (if jump.isNone then .ready else .done) jump))) ∧
          W3.heap[w.heap.size + 1]? = some (.loop { rc .ready none with state := .busy }) ∧
          (W3.putObj (w.heap.size + 1) (.loop (rc (if jump.isNone then .ready else .done) jump))).heap[w.heap.size + 1]? = some (.loop (rc (if jump.isNone then .ready else .done) jump)) ∧
          (W3.putObj (w.heap.size + 1) (.loop (rc (if jump.isNone then .ready else .done) jump))).heap[w.heap.size]? = some (.deferred (some [])) := fun jump W3 hk3 => by
        have hl3 := hk3.same _ _ (by omega) hl2
        have hr := run_endRound (P := P) jump hl3
        refine ⟨?_, hl3, World.putObj_heap_same (Array.getElem?_eq_some_iff.1 hl3).1, (World.putObj_heap_other (by omega)).trans (hk3.same _ _ (Nat.le_refl _) hd2)⟩
        rw [hr, hrc]
      rintro e a3 W3 hp
      cases e with
      | normal =>
        obtain ⟨h1, h2, h3⟩ := hp
        obtain ⟨hr, hl3, hl4, hd4⟩ := fin none W3 h1
        exact ⟨_, _, hr, .inl ⟨rfl, ⟨hI.putObj _ h3 (by omega) hl3 rfl, hl4, hd4⟩, (hk2.trans h2).trans (below_put _ (by omega) hl3), (ha3.trans (h1.mono (by omega))).trans (AllFrom.putObj _ (by omega))⟩⟩
      | ret =>
        obtain ⟨h1, h3⟩ := hp
        obtain ⟨hr, hl3, hl4, hd4⟩ := fin (some .ret) W3 h1
        exact ⟨_, _, hr, .inr ⟨rfl, ⟨_, (hIx _).putObj _ h3 (by omega) hl3 rfl, hl4, hd4⟩, (ha3.trans (h1.mono (by omega))).trans (AllFrom.putObj _ (by omega))⟩⟩
      | exit id =>
        obtain ⟨h1, h3⟩ := hp
        obtain ⟨hr, hl3, hl4, hd4⟩ := fin (some (.exit id)) W3 h1
        exact ⟨_, _, hr, .inr ⟨rfl, ⟨_, (hIx _).putObj _ h3 (by omega) hl3 rfl, hl4, hd4⟩, (ha3.trans (h1.mono (by omega))).trans (AllFrom.putObj _ (by omega))⟩⟩
      | goto t =>
        obtain ⟨h1, h3⟩ := hp
        obtain ⟨hr, hl3, hl4, hd4⟩ := fin (some (.goto t)) W3 h1
        exact ⟨_, _, hr, .inr ⟨rfl, ⟨_, (hIx _).putObj _ h3 (by omega) hl3 rfl, hl4, hd4⟩, (ha3.trans (h1.mono (by omega))).trans (AllFrom.putObj _ (by omega))⟩⟩
      | panic ch => exact hp.elim
      | outgrown => exact hp.elim
    · rintro e W2 ⟨⟨v, rfl⟩, (⟨hi, hl, hd⟩ | ⟨k, hk, c, hi, hl, hd⟩)⟩
      · have hr := run_endLoop (P := P) hl (by rw [hrc]; simp)
        exact ⟨_, _, hr, by rw [hrc]; exact hdone _ _ (Nat.le_refl _) (hI.putObj _ hi (by omega) hl rfl) ((World.putObj_heap_other (by omega)).trans hd)⟩
      · have hr := run_endLoop (P := P) hl (by rw [hrc]; simp)
        exact ⟨_, _, hr, by rw [hrc]; exact hstop _ c k _ (Nat.le_refl _) hk ((hIx c).putObj _ hi (by omega) hl rfl) ((World.putObj_heap_other (by omega)).trans hd)⟩

theorem static_tells2 (n₀ : Nat) (w0 : World) : Tells2 Try.prog 47 #[] #[] 61 statEnc n₀ w0 := by
  intro l J Jx W hW hJ hJx hY h0
  show CallsIn Fence.wide 0 Try.prog 47 #[.func (.yield l) #[] #[]] W _
  refine callsIn_of_wp Try.func47 rfl trivial ?_ rfl
  simp only [Try.ntmps47, List.size_toArray, List.length_cons, List.length_nil, Nat.reduceAdd, Nat.reduceSub, Array.replicate_succ, Array.replicate_zero, List.push_toArray, List.append_toArray, List.nil_append, List.cons_append]
  gi_wp2
  generalize hR0 : (⟨#[58, 97, 117, 116, 104, 111, 114, 105, 116, 121, 59, 58, 109, 101, 116, 104, 111, 100, 61, 71, 69, 84, 59, 58, 109, 101, 116, 104, 111, 100, 61, 80, 79, 83, 84, 59, 58, 112, 97, 116, 104, 61, 47, 59, 58, 112, 97, 116, 104, 61, 47, 105, 110, 100, 101, 120, 46, 104, 116, 109, 108, 59, 58, 115, 99, 104, 101, 109, 101, 61, 104, 116, 116, 112, 59, 58, 115, 99, 104, 101, 109, 101, 61, 104, 116, 116, 112, 115, 59]⟩ : ByteArray) = R0
  generalize hR1 : (⟨#[58, 115, 116, 97, 116, 117, 115, 61, 50, 48, 48, 59, 58, 115, 116, 97, 116, 117, 115, 61, 50, 48, 52, 59, 58, 115, 116, 97, 116, 117, 115, 61, 50, 48, 54, 59, 58, 115, 116, 97, 116, 117, 115, 61, 51, 48, 52, 59, 58, 115, 116, 97, 116, 117, 115, 61, 52, 48, 48, 59, 58, 115, 116, 97, 116, 117, 115, 61, 52, 48, 52, 59, 58, 115, 116, 97, 116, 117, 115, 61, 53, 48, 48, 59]⟩ : ByteArray) = R1
  generalize hR2 : (⟨#[97, 99, 99, 101, 112, 116, 45, 99, 104, 97, 114, 115, 101, 116, 59, 97, 99, 99, 101, 112, 116, 45, 101, 110, 99, 111, 100, 105, 110, 103, 61, 103, 122, 105, 112, 44, 32, 100, 101, 102, 108, 97, 116, 101, 59, 97, 99, 99, 101, 112, 116, 45, 108, 97, 110, 103, 117, 97, 103, 101, 59, 97, 99, 99, 101, 112, 116, 45, 114, 97, 110, 103, 101, 115, 59, 97, 99, 99, 101, 112, 116, 59, 97, 99, 99, 101, 115, 115, 45, 99, 111, 110, 116, 114, 111, 108, 45, 97, 108, 108, 111, 119, 45, 111, 114, 105, 103, 105, 110, 59, 97, 103, 101, 59, 97, 108, 108, 111, 119, 59, 97, 117, 116, 104, 111, 114, 105, 122, 97, 116, 105, 111, 110, 59, 99, 97, 99, 104, 101, 45, 99, 111, 110, 116, 114, 111, 108, 59]⟩ : ByteArray) = R2
  generalize hR3 : (⟨#[99, 111, 110, 116, 101, 110, 116, 45, 100, 105, 115, 112, 111, 115, 105, 116, 105, 111, 110, 59, 99, 111, 110, 116, 101, 110, 116, 45, 101, 110, 99, 111, 100, 105, 110, 103, 59, 99, 111, 110, 116, 101, 110, 116, 45, 108, 97, 110, 103, 117, 97, 103, 101, 59, 99, 111, 110, 116, 101, 110, 116, 45, 108, 101, 110, 103, 116, 104, 59, 99, 111, 110, 116, 101, 110, 116, 45, 108, 111, 99, 97, 116, 105, 111, 110, 59, 99, 111, 110, 116, 101, 110, 116, 45, 114, 97, 110, 103, 101, 59, 99, 111, 110, 116, 101, 110, 116, 45, 116, 121, 112, 101, 59, 99, 111, 111, 107, 105, 101, 59, 100, 97, 116, 101, 59, 101, 116, 97, 103, 59, 101, 120, 112, 101, 99, 116, 59, 101, 120, 112, 105, 114, 101, 115, 59, 102, 114, 111, 109, 59, 104, 111, 115, 116, 59]⟩ : ByteArray) = R3
  generalize hR4 : (⟨#[105, 102, 45, 109, 97, 116, 99, 104, 59, 105, 102, 45, 109, 111, 100, 105, 102, 105, 101, 100, 45, 115, 105, 110, 99, 101, 59, 105, 102, 45, 110, 111, 110, 101, 45, 109, 97, 116, 99, 104, 59, 105, 102, 45, 114, 97, 110, 103, 101, 59, 105, 102, 45, 117, 110, 109, 111, 100, 105, 102, 105, 101, 100, 45, 115, 105, 110, 99, 101, 59, 108, 97, 115, 116, 45, 109, 111, 100, 105, 102, 105, 101, 100, 59, 108, 105, 110, 107, 59, 108, 111, 99, 97, 116, 105, 111, 110, 59, 109, 97, 120, 45, 102, 111, 114, 119, 97, 114, 100, 115, 59, 112, 114, 111, 120, 121, 45, 97, 117, 116, 104, 101, 110, 116, 105, 99, 97, 116, 101, 59, 112, 114, 111, 120, 121, 45, 97, 117, 116, 104, 111, 114, 105, 122, 97, 116, 105, 111, 110, 59, 114, 97, 110, 103, 101, 59, 114, 101, 102, 101, 114, 101, 114, 59, 114, 101, 102, 114, 101, 115, 104, 59]⟩ : ByteArray) = R4
  generalize hR5 : (⟨#[114, 101, 116, 114, 121, 45, 97, 102, 116, 101, 114, 59, 115, 101, 114, 118, 101, 114, 59, 115, 101, 116, 45, 99, 111, 111, 107, 105, 101, 59, 115, 116, 114, 105, 99, 116, 45, 116, 114, 97, 110, 115, 112, 111, 114, 116, 45, 115, 101, 99, 117, 114, 105, 116, 121, 59, 116, 114, 97, 110, 115, 102, 101, 114, 45, 101, 110, 99, 111, 100, 105, 110, 103, 59, 117, 115, 101, 114, 45, 97, 103, 101, 110, 116, 59, 118, 97, 114, 121, 59, 118, 105, 97, 59, 119, 119, 119, 45, 97, 117, 116, 104, 101, 110, 116, 105, 99, 97, 116, 101, 59]⟩ : ByteArray) = R5
  have hRow : ∀ r < 6, [R0, R1, R2, R3, R4, R5].getD r R0 = rowAt r := by
    subst hR0 hR1 hR2 hR3 hR4 hR5
    intro r hr
    rfl
  clear hR0 hR1 hR2 hR3 hR4 hR5
  have h0' : J 0 (W.alloc (.cells #[.string R0, .string R1, .string R2, .string R3, .string R4, .string R5] 87)) := hJ.alloc _ h0
  gi_loopw [3, 14] (fun x3 x14 wr => ∃ r c : Nat, x3 = .int .i64 (c : Int) ∧ x14 = .int .i64 (r : Int) ∧ r ≤ 6 ∧ c = rowBase r ∧ J c wr ∧ W.heap.size ≤ wr.heap.size)
    (fun x3 x14 wr => 6 - (intOf x14).toNat)
  case atStart => exact ⟨0, 0, rfl, rfl, by omega, rfl, h0', by simp⟩
  case round =>
    obtain ⟨r, c, rfl, rfl, hr, hc, hJr, hsz⟩ := hrel
    by_cases hr6 : r < 6
    · have hix := index6 R0 R1 R2 R3 R4 R5 r hr6
      rw [hRow r hr6] at hix
      obtain ⟨R, hR⟩ : ∃ R, rowAt r = R := ⟨_, rfl⟩
      have hok := rowAt_ok r hr6
      rw [hR] at hix hok
      have hlt : ((r : Int) < 6) := by omega
      gi_wp2
      rename World => wo
      obtain ⟨it, hit⟩ : ∃ it, it = wo.heap.size := ⟨_, rfl⟩
      have hJ0 : J c (wo.iter R 0) := hJ.alloc _ hJr
      have hi0 : (wo.iter R 0).heap[it]? = some (.stringIter R 0) := by rw [hit]; exact heap_alloc_new wo _
      have hs0 : W.heap.size ≤ (wo.iter R 0).heap.size := by show W.heap.size ≤ (wo.alloc (.stringIter R 0)).heap.size; simp; omega
      have hWi : W.heap.size ≤ it := by omega
      rw [← hit]
      generalize wo.iter R 0 = wi at hJ0 hi0 hs0 ⊢
      clear hit hJr
      gi_loopw [3, 6] (fun x3 x6 wr => ∃ p : Nat, x3 = .int .i64 ((c + (scan R.data.toList p).2 : Nat) : Int) ∧ x6 = .int .i64 (((scan R.data.toList p).1 : Nat) : Int) ∧ p ≤ R.size ∧ wr.heap[it]? = some (.stringIter R p) ∧ J (c + (scan R.data.toList p).2) wr ∧ W.heap.size ≤ wr.heap.size)
        (fun x3 x6 wr => R.size - wr.iterPos it)
      case atStart => exact ⟨0, by simp [scan], by simp [scan], by omega, hi0, by simpa [scan] using hJ0, hs0⟩
      case round =>
        obtain ⟨p, rfl, rfl, hp, hi, hJp, hsz2⟩ := hrel
        obtain ⟨k, hk⟩ : ∃ k, c + (scan R.data.toList p).2 = k := ⟨_, rfl⟩
        obtain ⟨st, hst⟩ : ∃ st, (scan R.data.toList p).1 = st := ⟨_, rfl⟩
        have hstp : st ≤ p := by rw [← hst]; exact scan_le _ _
        rw [hk] at hJp ⊢
        rw [hst]
        by_cases hlt2 : p < R.size
        · obtain ⟨b, hb⟩ : ∃ b : Nat, (R[p]'hlt2).toNat = b := ⟨_, rfl⟩
          have ha := hok.ascii p hlt2
          rw [hb] at ha
          have hnx : ∀ ty, (Instr.next (.pointer (some ⟨it, 0, none⟩)) true ty).run Try.prog wr = .ok (.tuple #[.bool true, .int .i64 (p : Int), .int .i32 (b : Int)]) (wr.iterAt it R (p + 1)) := fun ty => by
            rw [Lib.run_next_ascii_at wr it R p ty hi hlt2 (by rw [hb]; exact ha), hb]
          have hget : R.data.toList[p]? = some (R[p]'hlt2) := by
            rw [List.getElem?_eq_getElem (by rw [Array.length_toList]; exact hlt2)]; rfl
          have hi2 := Lib.iterAt_heap wr it R p (p + 1) hi
          have hJ2 : J k (wr.iterAt it R (p + 1)) := OwnFrom.iterAt hJ hJp hi hWi (p + 1)
          have hsz3 : W.heap.size ≤ (wr.iterAt it R (p + 1)).heap.size := by rw [Lib.iterAt_size]; exact hsz2
          generalize wr.iterAt it R (p + 1) = w2 at hnx hi2 hJ2 hsz3
          by_cases hb9 : b = 59
          · have hsc : scan R.data.toList (p + 1) = (p + 1, (scan R.data.toList p).2 + 1) := by
              simp only [scan, hget]
              rw [if_pos]
              have : R[p].toNat = 59 := by omega
              congr 1
              exact UInt8.toNat_inj.1 (by simpa using this)
            obtain ⟨hk61, hcut⟩ := hok.told p (by rw [hget]; congr 1; exact UInt8.toNat_inj.1 (by simpa using (show R[p].toNat = 59 by omega)))
            subst hb9
            have c1 : (st : Int) ≤ p := by omega
            have hsmall : (R.extract st p).size < 2 ^ 60 := by have := hok.size; rw [ByteArray.size_extract]; omega
            have c2 : (p : Int) ≤ R.size := by omega
            rw [hst, show rowBase r + (scan R.data.toList p).2 = k by omega] at hcut
            rw [show rowBase r + (scan R.data.toList p).2 = k by omega] at hk61
            have hC : Calls Try.prog 52 #[.string (R.extract st p), .string ⟨#[61]⟩] w2 fun e w' => (∃ b, e = .returned (.tuple #[.string (sName k), .string (sValue k), .bool b])) ∧ ∃ n, w' = w2.drewN n := by
              have := Cut_in (R.extract st p) w2 hsmall
              rwa [hcut] at this
            have hsz9 := hok.size
            gi_wp2_with (refine ⟨trivial, rfl, ?_⟩; refine (callsIn_wide.2 hC).mono ?_; clear hC; rintro e w' ⟨⟨b', rfl⟩, n, rfl⟩; obtain ⟨fn, tmps, assign, body, hy, hRd⟩ := hY k (w2.drewN n) (OwnFrom.drewN hJ hJ2 n) hk61; dsimp only [statEnc] at hy)
            refine ⟨rfl, hRd.mono ?_⟩
            rintro e W3 (⟨rfl, hJ3, hk3⟩ | ⟨rfl, hJx3, _⟩)
            · have hi3 : W3.heap[it]? = some (.stringIter R (p + 1)) := hk3.all.same it _ hWi hi2
              have hs3 : W.heap.size ≤ W3.heap.size := Nat.le_trans hsz3 hk3.all.size
              gi_wp2
              go_roundw
              case rel => exact ⟨p + 1, (rel_hit hsc hk).1, (rel_hit hsc hk).2, hlt2, hi3, rel_J hsc hk hJ3, hs3⟩
              case measure => rw [iterPos_of hi3, iterPos_of hi]; exact Nat.sub_lt_sub_left hlt2 (Nat.lt_succ_self p)
            · gi_wp2
              refine bodyPost_ret (results_none rfl _ _ _) rfl ?_
              exact ⟨⟨_, rfl⟩, .inr ⟨k + 1, by omega, hJx3⟩⟩
          · have hne : ((b : Int) != 59) = true := by simp; omega
            have hsc : scan R.data.toList (p + 1) = scan R.data.toList p := by
              simp only [scan, hget]
              rw [if_neg]
              intro e
              have h5 : R[p] = 59 := by simpa using e
              rw [h5] at hb
              exact hb9 hb.symm
            gi_wp2
            go_roundw
            case rel => exact ⟨p + 1, by rw [hsc, hk], by rw [hsc, hst], by omega, hi2, by rw [hsc, hk]; exact hJ2, hsz3⟩
            case measure => rw [iterPos_of hi2, iterPos_of hi]; omega
        · obtain rfl : p = R.size := by omega
          have hnx : ∀ ty, (Instr.next (.pointer (some ⟨it, 0, none⟩)) true ty).run Try.prog wr = .ok (.tuple #[.bool false]) wr := fun ty => Lib.run_next_end_at wr it R R.size ty hi hlt2
          have hlast := hok.last
          gi_wp2
          go_roundw
          case rel => exact ⟨r + 1, k, rfl, rfl, by omega, by omega, hJp, hsz2⟩
          case measure => simp [intOf]; omega
    · obtain rfl : r = 6 := by omega
      gi_wp2
      go_end0
      exact ⟨⟨_, rfl⟩, .inl (by subst hc; exact hJr)⟩
end Go.Proofs.Ytkipeifkfgbkeaa
