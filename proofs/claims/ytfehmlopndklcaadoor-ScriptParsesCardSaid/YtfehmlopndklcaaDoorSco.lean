/- A line is read. -/
import Derived.Test.YtfehmlopndklcaaDoorScn
import Derived.Test.YtfehmlopndklcaaDoorScj
import Derived.Test.YtfehmlopndklcaaDoorScl
namespace Go.Proofs.YtfehmlopndklcaaDoor
open Go.RowKit
set_option maxRecDepth 100000
set_option maxHeartbeats 8000000
set_option linter.unusedVariables false
attribute [local go_sem] Oper.semAt_some

def inV (x : Dr) (v : Value) : Value := .agg #[.int .i64 x.what, .int .i64 x.a, .int .i64 x.b, .int .i64 x.d, v]
def zeroIn : Value := .agg #[.int .i64 0, .int .i64 0, .int .i64 0, .int .i64 0, .slice none 0 0]
def errAt (p : Nat) (n : Int) : Value := .iface 61 (.agg #[.int .i64 (p : Int), .iface 25 (.int .i64 n)])
def RLAs (s : ByteArray) (w : World) (e : Ending) (w' : World) : Prop := Fr (fun _ => False) w w' ∧
  ((65536 < s.size ∧ e = .returned (.tuple #[zeroIn, errAt 0 2])) ∨ (s.size ≤ 65536 ∧
    ((∃ p, lineO (tx s) = .inr p ∧ e = .returned (.tuple #[zeroIn, errAt p 4])) ∨ ∃ x v, lineO (tx s) = .inl x ∧ e = .returned (.tuple #[inV x v, .nilIface]) ∧ BAt w' v x.dat)))
theorem pieces_in (s : ByteArray) (g : Int) (w : World) : Calls Tryd.prog 23 #[.string s, .int .i32 g] w fun e w' => e = .returned (.func (.func 33) #[] #[.pointer (some ⟨w.heap.size, 0, none⟩), .pointer (some ⟨w.heap.size + 1, 0, none⟩)]) ∧ (w.alloc (.cells #[.string s] 9)).alloc (.cells #[.int .i32 g] 21) = w' := by
  go_enter Tryd.func23, Tryd.ntmps23
  go_wp2
  go_ret
  exact ⟨rfl, rfl⟩
theorem Fr.of_own4 {B : Nat} {X Y : World} {row : Option Nat} (hg : X.grownBy Y row) (hr : ∀ r, row = some r → B ≤ r ∧ ∃ o : Obj, X.heap[r]? = some o ∧ o.isCells = false) : Fr (fun k => B ≤ k ∧ ∃ o : Obj, X.heap[k]? = some o ∧ o.isCells = false) X Y :=
  ⟨hg.os, hg.tape, hg.output, hg.size, fun k hk hs => hg.block k hk (fun e => hs (hr k e.symm))⟩
theorem cells_not4 {B : Nat} {X : World} {k : Nat} {cs : Array Value} {t : TypeId} {fr : Nat × Nat} (h : X.heap[k]? = some (.cells cs t fr)) : ¬ (B ≤ k ∧ ∃ o : Obj, X.heap[k]? = some o ∧ o.isCells = false) := by
  rintro ⟨-, o, h1, h2⟩
  rw [h] at h1
  cases h1
  cases h2
theorem fr_new {S : Nat → Prop} {w X Y : World} (h : Fr (fun _ => False) w X) (k : Fr S X Y) (hs : ∀ j, j < w.heap.size → ¬ S j) : Fr (fun _ => False) w Y :=
  ⟨k.os.trans h.os, k.tape.trans h.tape, k.output.trans h.output, Nat.le_trans h.size k.size, fun i hi _ => (k.block i (Nat.lt_of_lt_of_le hi h.size) (hs i hi)).trans (h.block i hi id)⟩
theorem DAt.fr {S : Nat → Prop} {W W' : World} {db : Nat} {x : Dr} {v : Value} (h : DAt W db x v) (hf : Fr S W W') (hs : ∀ k cs t fr, W.heap[k]? = some (.cells cs t fr) → ¬ S k) : DAt W' db x v :=
  ⟨(hf.block _ (lt_of_heap h.at_) (hs _ _ _ _ h.at_)).trans h.at_, h.dat.fr hf (fun k cs fr hk => hs k cs 5 fr hk), h.nx⟩
/-- Where the words of a line stand. -/
structure LI (s : ByteArray) (w : World) (k : Nat) (W : World) : Prop where
  d : ∃ x v, DAt W (w.heap.size + 2) x v ∧ lineO (tx s) = lineGo ((cuts 32 (tx s)).drop k) (cutAt (cuts 32 (tx s)) k) x
  r0 : W.heap[w.heap.size]? = some (.cells #[.int .i64 0, .int .i64 0, .int .i64 0, .int .i64 0, .slice none 0 0] 24 (0, 0))
  r1 : W.heap[w.heap.size + 1]? = some (.cells #[.nilIface] 42 (0, 0))
  b0 : W.heap[w.heap.size + 3]? = some (.cells #[.string s] 9 (0, 0))
  b1 : W.heap[w.heap.size + 4]? = some (.cells #[.int .i32 32] 21 (0, 0))
  fr : Fr (fun _ => False) w W
theorem LI.keep {s : ByteArray} {w W W' : World} {k : Nat} {S : Nat → Prop} (h : LI s w k W) (hf : Fr S W W') (hs : ∀ k cs t fr, W.heap[k]? = some (.cells cs t fr) → ¬ S k) (hn : ∀ j, j < w.heap.size → ¬ S j) : LI s w k W' := by
  obtain ⟨⟨x, v, h1, h2⟩, h3, h4, h5, h6, h7⟩ := h
  exact ⟨⟨x, v, h1.fr hf hs, h2⟩, (hf.block _ (lt_of_heap h3) (hs _ _ _ _ h3)).trans h3, (hf.block _ (lt_of_heap h4) (hs _ _ _ _ h4)).trans h4, (hf.block _ (lt_of_heap h5) (hs _ _ _ _ h5)).trans h5, (hf.block _ (lt_of_heap h6) (hs _ _ _ _ h6)).trans h6, fr_new h7 hf hn⟩
theorem LI.old {s : ByteArray} {w W W' : World} {k : Nat} (h : LI s w k W) (hf : Fr (fun _ => False) W W') : LI s w k W' := h.keep hf (fun _ _ _ _ _ => id) (fun _ _ => id)
structure LX (s : ByteArray) (w : World) (W : World) : Prop where
  d : ∃ p, lineO (tx s) = .inr p ∧ W.heap[w.heap.size + 1]? = some (.cells #[errAt p 4] 42 (0, 0))
  r0 : W.heap[w.heap.size]? = some (.cells #[.int .i64 0, .int .i64 0, .int .i64 0, .int .i64 0, .slice none 0 0] 24 (0, 0))
  fr : Fr (fun _ => False) w W
theorem LX.keep {s : ByteArray} {w W W' : World} {S : Nat → Prop} (h : LX s w W) (hf : Fr S W W') (hs : ∀ k cs t fr, W.heap[k]? = some (.cells cs t fr) → ¬ S k) (hn : ∀ j, j < w.heap.size → ¬ S j) : LX s w W' := by
  obtain ⟨⟨p, h1, h2⟩, h3, h4⟩ := h
  exact ⟨⟨p, h1, (hf.block _ (lt_of_heap h2) (hs _ _ _ _ h2)).trans h2⟩, (hf.block _ (lt_of_heap h3) (hs _ _ _ _ h3)).trans h3, fr_new h4 hf hn⟩
theorem LI.own (s : ByteArray) (w : World) {B : Nat} (hB : w.heap.size ≤ B) : OwnFrom B (fun k W => LI s w k W) := fun k X Y row hs hg hr =>
  hs.keep (Fr.of_own4 hg hr) (fun _ _ _ _ h => cells_not4 h) (fun j hj e => by have := e.1; omega)
theorem LX.own (s : ByteArray) (w : World) (c : Code) {B : Nat} (hB : w.heap.size ≤ B) : OwnFrom B (fun (_ : Nat) W => c = .ret ∧ LX s w W) := fun k X Y row hs hg hr =>
  ⟨hs.1, hs.2.keep (Fr.of_own4 hg hr) (fun _ _ _ _ h => cells_not4 h) (fun j hj e => by have := e.1; omega)⟩
theorem keeps4 {B : Nat} {S : Nat → Prop} {X Y : World} (hf : Fr S X Y) (hs : ∀ k o, S k → X.heap[k]? = some o → o.isCells = true) : KeepsFrom B X Y :=
  ⟨hf.size, fun k o _ hk ho => (hf.block k (lt_of_heap hk) (fun s => by have := hs k o s hk; rw [ho] at this; cases this)).trans hk⟩
theorem lineGo_step {L : List (List UInt8)} {k : Nat} {p : List UInt8} {x : Dr} (h : L[k]? = some p) : lineGo (L.drop k) (cutAt L k) x = match stepW x p with | some y => lineGo (L.drop (k + 1)) (cutAt L (k + 1)) y | none => .inr (cutAt L k) := by
  have e : L.drop k = p :: L.drop (k + 1) := by
    obtain ⟨hl, he⟩ := List.getElem?_eq_some_iff.1 h
    rw [List.drop_eq_getElem_cons hl, he]
  rw [e, cutAt_step h]
  rfl
/-- Five cells stored one behind the other. -/
def put5 (W : World) (b : Nat) (v0 v1 v2 v3 v4 : Value) : World := ((((W.setCell ⟨b, 0, none⟩ v0).setCell ⟨b, 1, none⟩ v1).setCell ⟨b, 2, none⟩ v2).setCell ⟨b, 3, none⟩ v3).setCell ⟨b, 4, none⟩ v4
theorem put5_at {W : World} {b : Nat} {c0 c1 c2 c3 c4 : Value} {t : TypeId} (v0 v1 v2 v3 v4 : Value) (h : W.heap[b]? = some (.cells #[c0, c1, c2, c3, c4] t (0, 0))) : (put5 W b v0 v1 v2 v3 v4).heap[b]? = some (.cells #[v0, v1, v2, v3, v4] t (0, 0)) :=
  set_at (j := 4) v4 (set_at (j := 3) v3 (set_at (j := 2) v2 (set_at (j := 1) v1 (set_at (j := 0) v0 h))))
theorem put5_fr (W : World) (b : Nat) (v0 v1 v2 v3 v4 : Value) : Fr (fun k => k = b) W (put5 W b v0 v1 v2 v3 v4) := (((((Fr.refl _ _).setB 0 _).setB 1 _).setB 2 _).setB 3 _).setB 4 _
theorem fr_put4 (w : World) (D : Nat) (o : Obj) : Fr (fun k => k = D) w (w.putObj D o) := ⟨rfl, rfl, rfl, by simp [World.putObj], fun i hi hs => World.putObj_heap_other hs⟩
theorem readLine_in (s : ByteArray) (w : World) : Calls Tryd.prog 13 #[.string s] w (RLAs s w) := by
  by_cases hs : 65536 < s.size
  · have hsi : (65536 : Int) < (s.size : Int) := by omega
    have HS : Hid (65536 < s.size) := hs
    clear hs
    go_enter Tryd.func13, Tryd.ntmps13
    go_wp2
    refine bodyPost_ret (v := .tuple #[zeroIn, errAt 0 2]) (by simp [zeroIn, errAt, results, Tryd.results13, go_sem]) rfl ?_
    exact ⟨((Fr.refl _ _).alloc _).alloc _, .inl ⟨HS.out, rfl⟩⟩
  · have hsi : ¬ (65536 : Int) < (s.size : Int) := by omega
    have HS : Hid (s.size ≤ 65536) := by show _ ≤ _; omega
    have HT := pieces_tells (w.heap.size + 3) (w.heap.size + 4) s 32 (by decide) (by omega)
    clear hs
    refine (callsIn_wide (n := 0)).1 ?_
    refine callsIn_of_wp_marks Tryd.func13 rfl trivial ?_ rfl
    simp only [Tryd.ntmps13, List.size_toArray, List.length_cons, List.length_nil, Nat.reduceAdd, Nat.reduceSub, Array.replicate_succ, Array.replicate_zero, List.push_toArray, List.append_toArray, List.nil_append, List.cons_append]
    gi_wp2
    refine ⟨trivial, rfl, (callsIn_wide.2 (pieces_in s 32 _)).mono ?_⟩
    rintro e W0 ⟨rfl, hW0⟩
    have H0 : Hid (LI s w 0 W0) := by
      have s1 : ∀ o : Obj, (w.alloc o).heap.size = w.heap.size + 1 := fun o => by simp
      subst hW0
      refine ⟨⟨Dr0, .slice none 0 0, ⟨?_, .nil _, by decide⟩, rfl⟩, ?_, ?_, ?_, ?_, (((((Fr.refl _ _).alloc _).alloc _).alloc _).alloc _).alloc _⟩
      · exact past_at _ (past_at _ (last_at _ (by simp)))
      · exact past_at _ (past_at _ (past_at _ (past_at _ (last_at _ rfl))))
      · exact past_at _ (past_at _ (past_at _ (last_at _ (by simp))))
      · exact past_at _ (last_at _ (by simp))
      · exact last_at _ (by simp)
    have hsz : w.heap.size + 5 = W0.heap.size := by rw [← hW0]; simp
    have HSZ : Hid (w.heap.size + 5 = W0.heap.size) := hsz
    simp only [World.size_alloc]
    clear hW0 hsz
    gi_wp2
    refine range_law4 (gf := 33) (fs := #[]) (lb := #[.pointer (some ⟨w.heap.size + 3, 0, none⟩), .pointer (some ⟨w.heap.size + 4, 0, none⟩)]) rfl (enters_of Tryd.func33 (by kernel_rfl) rfl) HT (fun k args W h => by obtain ⟨p, -, rfl⟩ := h; rfl)
      (fun k W => LI s w k W) (fun c _ W => c = .ret ∧ LX s w W) (LI.own s w (by have := HSZ.out; omega)) (fun c => LX.own s w c (by have := HSZ.out; omega)) (fun k W h => ⟨⟨_, h.b0⟩, ⟨_, h.b1⟩⟩) H0.out
      (fun k a' W => ∃ p, (cuts 32 (tx s))[k]? = some p ∧ a' = { tmps := #[.string s, undef, .pointer (some ⟨w.heap.size, 0, none⟩), .pointer (some ⟨w.heap.size + 1, 0, none⟩), .pointer (some ⟨w.heap.size + 1 + 1, 0, none⟩), .int .i64 (cutAt (cuts 32 (tx s)) k : Int), .string ⟨p.toArray⟩, undef, undef, .string s, .int .i64 (s.size : Int), .bool false, undef, undef, undef, undef, .string s, .func (.func 33) #[] #[.pointer (some ⟨w.heap.size + 3, 0, none⟩), .pointer (some ⟨w.heap.size + 4, 0, none⟩)], .int .i64 (cutAt (cuts 32 (tx s)) k : Int), .string ⟨p.toArray⟩, undef, undef, undef, undef, undef, undef, undef, undef, undef, undef, undef, undef, undef, undef, undef, undef, undef, undef], defers := [] })
      (fun k a' _ X Y row hs hg hr => hs) ?assign ?body ?done ?stop
    case assign =>
      rintro ll k W args K hk hI ⟨p, hp, rfl⟩ hK
      gi_wp2
      exact hK _ _ (KeepsFrom.refl _ _) hI ⟨p, hp, rfl⟩
    case body =>
      rintro ll k a' W hl hk hI ⟨p, hp, rfl⟩
      have HI : Hid (LI s w k W) := hI
      have HP : Hid ((cuts 32 (tx s))[k]? = some p) := hp
      obtain ⟨u, hu⟩ : ∃ u : ByteArray, (⟨p.toArray⟩ : ByteArray) = u := ⟨_, rfl⟩
      have HU : Hid (tx u = p) := by show _ = _; rw [← hu]; exact tx_mk p
      have hus : u.size ≤ 100000 := by
        have h1 := cuts_len 32 (tx s) p (List.mem_of_getElem? hp)
        rw [← HU.out, tx_len, tx_len] at h1
        have := HS.out
        omega
      rw [hu]
      have K := readWord_in u W hus
      obtain ⟨pat, hpat⟩ : ∃ pat, cutAt (cuts 32 (tx s)) k = pat := ⟨_, rfl⟩
      clear hI hp hu hus hpat hk hl H0 HT
      gi_wp2
      refine ⟨trivial, rfl, (callsIn_wide.2 K).mono ?_⟩
      clear K
      rintro e W2 ⟨hf2, (⟨hno, rfl⟩ | ⟨wd, v, hwd, rfl, hv⟩)⟩
      · have HI2 : Hid (LI s w k W2) := HI.out.old hf2
        have HBAD : Hid (lineO (tx s) = .inr (cutAt (cuts 32 (tx s)) k)) := by
          obtain ⟨x, v, -, hx⟩ := HI.out.d
          show _ = _
          rw [hx, lineGo_step HP.out]
          unfold stepW
          rw [← HU.out, hno]
          rfl
        have HK2 : Hid (KeepsFrom W0.heap.size W W2) := keeps4 hf2 (fun _ _ e _ => e.elim)
        clear hno hf2 HI
        have c0 : W2.cell? ⟨w.heap.size, 0, none⟩ = some (.int .i64 0) := cell_of_heap HI2.out.r0 rfl
        have c1 : W2.cell? ⟨w.heap.size, 1, none⟩ = some (.int .i64 0) := cell_of_heap HI2.out.r0 rfl
        have c2 : W2.cell? ⟨w.heap.size, 2, none⟩ = some (.int .i64 0) := cell_of_heap HI2.out.r0 rfl
        have c3 : W2.cell? ⟨w.heap.size, 3, none⟩ = some (.int .i64 0) := cell_of_heap HI2.out.r0 rfl
        have c4 : W2.cell? ⟨w.heap.size, 4, none⟩ = some (.slice none 0 0) := cell_of_heap HI2.out.r0 rfl
        have c5 : W2.cell? ⟨w.heap.size + 1, 0, none⟩ = some .nilIface := cell_of_heap HI2.out.r1 rfl
        have z0 : W2.frozen? ⟨w.heap.size, 0, none⟩ = false := frozen_of_heap HI2.out.r0
        have z1 : W2.frozen? ⟨w.heap.size, 1, none⟩ = false := frozen_of_heap HI2.out.r0
        have z2 : W2.frozen? ⟨w.heap.size, 2, none⟩ = false := frozen_of_heap HI2.out.r0
        have z3 : W2.frozen? ⟨w.heap.size, 3, none⟩ = false := frozen_of_heap HI2.out.r0
        have z4 : W2.frozen? ⟨w.heap.size, 4, none⟩ = false := frozen_of_heap HI2.out.r0
        have z5 : W2.frozen? ⟨w.heap.size + 1, 0, none⟩ = false := frozen_of_heap HI2.out.r1
        obtain ⟨W5, hW5⟩ : ∃ W5, (put5 W2 w.heap.size (.int .i64 0) (.int .i64 0) (.int .i64 0) (.int .i64 0) (.slice none 0 0)).setCell ⟨w.heap.size + 1, 0, none⟩ (errAt (cutAt (cuts 32 (tx s)) k) 4) = W5 := ⟨_, rfl⟩
        have q0 := put5_at (.int .i64 0) (.int .i64 0) (.int .i64 0) (.int .i64 0) (.slice none 0 0) HI2.out.r0
        have qf := put5_fr W2 w.heap.size (.int .i64 0) (.int .i64 0) (.int .i64 0) (.int .i64 0) (.slice none 0 0)
        have q1 := (qf.block _ (lt_of_heap HI2.out.r1) (fun e => by have e' : w.heap.size + 1 = w.heap.size := e; omega)).trans HI2.out.r1
        have HX : Hid (LX s w W5) := by
          refine ⟨⟨_, HBAD.out, by rw [← hW5]; exact set_at _ q1⟩, ?_, ?_⟩
          · rw [← hW5]; exact ((Fr.setB (Fr.refl _ _) 0 _).block _ (lt_of_heap q0) (fun e => by have e' : w.heap.size = w.heap.size + 1 := e; omega)).trans q0
          · rw [← hW5]
            refine fr_new (fr_new HI2.out.fr qf (fun j hj e => ?_)) (Fr.setB (Fr.refl _ _) 0 _) (fun j hj e => ?_)
            · have e' : j = w.heap.size := e
              omega
            · have e' : j = w.heap.size + 1 := e
              omega
        have HKF : Hid (KeepsFrom W0.heap.size W W5) := by
          refine HK2.out.trans ?_
          rw [← hW5]
          refine (keeps4 qf (fun j o e ho => ?_)).trans (keeps4 (Fr.setB (Fr.refl _ _) 0 _) (fun j o e ho => ?_))
          · have e' : j = w.heap.size := e
            rw [e', HI2.out.r0] at ho
            cases ho
            rfl
          · have e' : j = w.heap.size + 1 := e
            rw [e', q1] at ho
            cases ho
            rfl
        unfold put5 errAt at hW5
        clear q0 qf q1
        gi_wp2
        exact ⟨HKF.out, rfl, HX.out⟩
      · have HI2 : Hid (LI s w k W2) := HI.out.old hf2
        obtain ⟨x, dv, hD, hx⟩ := HI2.out.d
        have HK2 : Hid (KeepsFrom W0.heap.size W W2) := keeps4 hf2 (fun _ _ e _ => e.elim)
        have KA := add_in W2 (w.heap.size + 2) x wd dv v hD hv
        have HD : Hid (DAt W2 (w.heap.size + 2) x dv) := hD
        have HXX : Hid (lineO (tx s) = match addW x wd with | some y => lineGo ((cuts 32 (tx s)).drop (k + 1)) (cutAt (cuts 32 (tx s)) (k + 1)) y | none => .inr (cutAt (cuts 32 (tx s)) k)) := by
          show _ = _
          rw [hx, lineGo_step HP.out]
          unfold stepW
          rw [← HU.out, hwd]
          rfl
        have HX0 : Hid (lineO (tx s) = lineGo ((cuts 32 (tx s)).drop k) (cutAt (cuts 32 (tx s)) k) x) := hx
        clear hwd hf2 HI hD hv hx
        gi_wp2
        refine ⟨trivial, rfl, (callsIn_wide.2 KA).mono ?_⟩
        clear KA
        rintro e W3 ⟨hf3, (⟨hno, rfl, hD3⟩ | ⟨y, u3, hy, rfl, hD3⟩)⟩
        · have HI3 : Hid (LI s w k W3) := by
            obtain ⟨⟨x', v', h1, h2⟩, h3, h4, h5, h6, h7⟩ := HI2.out
            have hb : ∀ j, j ≠ w.heap.size + 2 → ∀ o, W2.heap[j]? = some o → W3.heap[j]? = some o := fun j hj o ho => (hf3.block j (lt_of_heap ho) hj).trans ho
            exact ⟨⟨x, dv, hD3, HX0.out⟩, hb _ (by omega) _ h3, hb _ (by omega) _ h4, hb _ (by omega) _ h5, hb _ (by omega) _ h6, fr_new h7 hf3 (fun j hj e => by have e' : j = w.heap.size + 2 := e; omega)⟩
          have HBAD : Hid (lineO (tx s) = .inr (cutAt (cuts 32 (tx s)) k)) := by
            show _ = _
            rw [HXX.out, hno]
          have HK3 : Hid (KeepsFrom W0.heap.size W W3) := HK2.out.trans (keeps4 hf3 (fun j o e ho => by
            have e' : j = w.heap.size + 2 := e
            rw [e', HD.out.at_] at ho
            cases ho
            rfl))
          clear hno hf3 hD3 HI2
          have c0 : W3.cell? ⟨w.heap.size, 0, none⟩ = some (.int .i64 0) := cell_of_heap HI3.out.r0 rfl
          have c1 : W3.cell? ⟨w.heap.size, 1, none⟩ = some (.int .i64 0) := cell_of_heap HI3.out.r0 rfl
          have c2 : W3.cell? ⟨w.heap.size, 2, none⟩ = some (.int .i64 0) := cell_of_heap HI3.out.r0 rfl
          have c3 : W3.cell? ⟨w.heap.size, 3, none⟩ = some (.int .i64 0) := cell_of_heap HI3.out.r0 rfl
          have c4 : W3.cell? ⟨w.heap.size, 4, none⟩ = some (.slice none 0 0) := cell_of_heap HI3.out.r0 rfl
          have c5 : W3.cell? ⟨w.heap.size + 1, 0, none⟩ = some .nilIface := cell_of_heap HI3.out.r1 rfl
          have z0 : W3.frozen? ⟨w.heap.size, 0, none⟩ = false := frozen_of_heap HI3.out.r0
          have z1 : W3.frozen? ⟨w.heap.size, 1, none⟩ = false := frozen_of_heap HI3.out.r0
          have z2 : W3.frozen? ⟨w.heap.size, 2, none⟩ = false := frozen_of_heap HI3.out.r0
          have z3 : W3.frozen? ⟨w.heap.size, 3, none⟩ = false := frozen_of_heap HI3.out.r0
          have z4 : W3.frozen? ⟨w.heap.size, 4, none⟩ = false := frozen_of_heap HI3.out.r0
          have z5 : W3.frozen? ⟨w.heap.size + 1, 0, none⟩ = false := frozen_of_heap HI3.out.r1
          obtain ⟨W5, hW5⟩ : ∃ W5, (put5 W3 w.heap.size (.int .i64 0) (.int .i64 0) (.int .i64 0) (.int .i64 0) (.slice none 0 0)).setCell ⟨w.heap.size + 1, 0, none⟩ (errAt (cutAt (cuts 32 (tx s)) k) 4) = W5 := ⟨_, rfl⟩
          have q0 := put5_at (.int .i64 0) (.int .i64 0) (.int .i64 0) (.int .i64 0) (.slice none 0 0) HI3.out.r0
          have qf := put5_fr W3 w.heap.size (.int .i64 0) (.int .i64 0) (.int .i64 0) (.int .i64 0) (.slice none 0 0)
          have q1 := (qf.block _ (lt_of_heap HI3.out.r1) (fun e => by have e' : w.heap.size + 1 = w.heap.size := e; omega)).trans HI3.out.r1
          have HX : Hid (LX s w W5) := by
            refine ⟨⟨_, HBAD.out, by rw [← hW5]; exact set_at _ q1⟩, ?_, ?_⟩
            · rw [← hW5]; exact ((Fr.setB (Fr.refl _ _) 0 _).block _ (lt_of_heap q0) (fun e => by have e' : w.heap.size = w.heap.size + 1 := e; omega)).trans q0
            · rw [← hW5]
              refine fr_new (fr_new HI3.out.fr qf (fun j hj e => ?_)) (Fr.setB (Fr.refl _ _) 0 _) (fun j hj e => ?_)
              · have e' : j = w.heap.size := e
                omega
              · have e' : j = w.heap.size + 1 := e
                omega
          have HKF : Hid (KeepsFrom W0.heap.size W W5) := by
            refine HK3.out.trans ?_
            rw [← hW5]
            refine (keeps4 qf (fun j o e ho => ?_)).trans (keeps4 (Fr.setB (Fr.refl _ _) 0 _) (fun j o e ho => ?_))
            · have e' : j = w.heap.size := e
              rw [e', HI3.out.r0] at ho
              cases ho
              rfl
            · have e' : j = w.heap.size + 1 := e
              rw [e', q1] at ho
              cases ho
              rfl
          unfold put5 errAt at hW5
          clear q0 qf q1
          gi_wp2
          exact ⟨HKF.out, rfl, HX.out⟩
        · have HI3 : Hid (LI s w (k + 1) W3) := by
            obtain ⟨⟨x', v', h1, h2⟩, h3, h4, h5, h6, h7⟩ := HI2.out
            have hb : ∀ j, j ≠ w.heap.size + 2 → ∀ o, W2.heap[j]? = some o → W3.heap[j]? = some o := fun j hj o ho => (hf3.block j (lt_of_heap ho) hj).trans ho
            refine ⟨⟨y, u3, hD3, ?_⟩, hb _ (by omega) _ h3, hb _ (by omega) _ h4, hb _ (by omega) _ h5, hb _ (by omega) _ h6, fr_new h7 hf3 (fun j hj e => by have e' : j = w.heap.size + 2 := e; omega)⟩
            rw [HXX.out, hy]
          have HK3 : Hid (KeepsFrom W0.heap.size W W3) := HK2.out.trans (keeps4 hf3 (fun j o e ho => by
            have e' : j = w.heap.size + 2 := e
            rw [e', HD.out.at_] at ho
            cases ho
            rfl))
          clear hy hf3 hD3 HI2
          gi_wp2
          exact ⟨HK3.out, HI3.out⟩
    case done =>
      rintro D W hD hI hK
      have HI : Hid (LI s w (cuts 32 (tx s)).length W) := hI
      obtain ⟨x, v, hdt, hx⟩ := hI.d
      rw [List.drop_length] at hx
      have HX : Hid (lineO (tx s) = .inl x) := hx
      obtain ⟨q, c, hv, -⟩ := id hdt.dat
      subst hv
      have HD : Hid (DAt W (w.heap.size + 2) x (.slice q x.dat.length c)) := hdt
      have HDK : Hid (W.heap[D]? = some (.deferred (some [])) ∧ W0.heap.size ≤ D) := ⟨hK, hD⟩
      clear hI hdt hx hK hD H0 HT
      have c0 : W.cell? ⟨w.heap.size, 0, none⟩ = some (.int .i64 0) := cell_of_heap HI.out.r0 rfl
      have c1 : W.cell? ⟨w.heap.size, 1, none⟩ = some (.int .i64 0) := cell_of_heap HI.out.r0 rfl
      have c2 : W.cell? ⟨w.heap.size, 2, none⟩ = some (.int .i64 0) := cell_of_heap HI.out.r0 rfl
      have c3 : W.cell? ⟨w.heap.size, 3, none⟩ = some (.int .i64 0) := cell_of_heap HI.out.r0 rfl
      have c4 : W.cell? ⟨w.heap.size, 4, none⟩ = some (.slice none 0 0) := cell_of_heap HI.out.r0 rfl
      have c5 : W.cell? ⟨w.heap.size + 1, 0, none⟩ = some .nilIface := cell_of_heap HI.out.r1 rfl
      have z0 : W.frozen? ⟨w.heap.size, 0, none⟩ = false := frozen_of_heap HI.out.r0
      have z1 : W.frozen? ⟨w.heap.size, 1, none⟩ = false := frozen_of_heap HI.out.r0
      have z2 : W.frozen? ⟨w.heap.size, 2, none⟩ = false := frozen_of_heap HI.out.r0
      have z3 : W.frozen? ⟨w.heap.size, 3, none⟩ = false := frozen_of_heap HI.out.r0
      have z4 : W.frozen? ⟨w.heap.size, 4, none⟩ = false := frozen_of_heap HI.out.r0
      have z5 : W.frozen? ⟨w.heap.size + 1, 0, none⟩ = false := frozen_of_heap HI.out.r1
      have d0 : W.cell? ⟨w.heap.size + 1 + 1, 0, none⟩ = some (.int .i64 x.what) := cell_of_heap HD.out.at_ rfl
      have d1 : W.cell? ⟨w.heap.size + 1 + 1, 1, none⟩ = some (.int .i64 x.a) := cell_of_heap HD.out.at_ rfl
      have d2 : W.cell? ⟨w.heap.size + 1 + 1, 2, none⟩ = some (.int .i64 x.b) := cell_of_heap HD.out.at_ rfl
      have d3 : W.cell? ⟨w.heap.size + 1 + 1, 3, none⟩ = some (.int .i64 x.d) := cell_of_heap HD.out.at_ rfl
      have d4 : W.cell? ⟨w.heap.size + 1 + 1, 4, none⟩ = some (.slice q x.dat.length c) := cell_of_heap HD.out.at_ rfl
      obtain ⟨W5, hW5⟩ : ∃ W5, (put5 W w.heap.size (.int .i64 x.what) (.int .i64 x.a) (.int .i64 x.b) (.int .i64 x.d) (.slice q x.dat.length c)).setCell ⟨w.heap.size + 1, 0, none⟩ .nilIface = W5 := ⟨_, rfl⟩
      have q0 := put5_at (.int .i64 x.what) (.int .i64 x.a) (.int .i64 x.b) (.int .i64 x.d) (.slice q x.dat.length c) HI.out.r0
      have qf := put5_fr W w.heap.size (.int .i64 x.what) (.int .i64 x.a) (.int .i64 x.b) (.int .i64 x.d) (.slice q x.dat.length c)
      have q1 := (qf.block _ (lt_of_heap HI.out.r1) (fun e => by have e' : w.heap.size + 1 = w.heap.size := e; omega)).trans HI.out.r1
      have F5 : Hid (Fr (fun j => j = w.heap.size ∨ j = w.heap.size + 1) W W5) := by
        rw [← hW5]
        exact (qf.mono (fun _ _ e => .inl e)).trans ((Fr.setB (Fr.refl _ _) 0 _).mono (fun _ _ e => .inr e))
      have r0 : W5.heap[w.heap.size]? = some (.cells #[.int .i64 x.what, .int .i64 x.a, .int .i64 x.b, .int .i64 x.d, .slice q x.dat.length c] 24 (0, 0)) := by
        rw [← hW5]; exact ((Fr.setB (Fr.refl _ _) 0 _).block _ (lt_of_heap q0) (fun e => by have e' : w.heap.size = w.heap.size + 1 := e; omega)).trans q0
      have r1 : W5.heap[w.heap.size + 1]? = some (.cells #[.nilIface] 42 (0, 0)) := by rw [← hW5]; exact set_at _ q1
      have HR : Hid (W5.heap[w.heap.size]? = some (.cells #[.int .i64 x.what, .int .i64 x.a, .int .i64 x.b, .int .i64 x.d, .slice q x.dat.length c] 24 (0, 0)) ∧ W5.heap[w.heap.size + 1]? = some (.cells #[.nilIface] 42 (0, 0))) := ⟨r0, r1⟩
      unfold put5 at hW5
      clear q0 qf q1 r0 r1
      gi_wp2
      have hd5 : W5.heap[D]? = some (.deferred (some [])) := by
        refine (F5.out.block _ (lt_of_heap HDK.out.1) (fun e => ?_)).trans HDK.out.1
        have h1 := HDK.out.2
        have h2 := HSZ.out
        rcases e with e | e <;> omega
      have hfp := fr_put4 W5 D (.deferred none)
      have hne : w.heap.size ≠ D ∧ w.heap.size + 1 ≠ D := by have h1 := HDK.out.2; have h2 := HSZ.out; omega
      have p0 := (hfp.block _ (lt_of_heap HR.out.1) hne.1).trans HR.out.1
      have p1 := (hfp.block _ (lt_of_heap HR.out.2) hne.2).trans HR.out.2
      have g0 : (W5.putObj D (.deferred none)).cell? ⟨w.heap.size, 0, none⟩ = some (.int .i64 x.what) := cell_of_heap p0 rfl
      have g1 : (W5.putObj D (.deferred none)).cell? ⟨w.heap.size, 1, none⟩ = some (.int .i64 x.a) := cell_of_heap p0 rfl
      have g2 : (W5.putObj D (.deferred none)).cell? ⟨w.heap.size, 2, none⟩ = some (.int .i64 x.b) := cell_of_heap p0 rfl
      have g3 : (W5.putObj D (.deferred none)).cell? ⟨w.heap.size, 3, none⟩ = some (.int .i64 x.d) := cell_of_heap p0 rfl
      have g4 : (W5.putObj D (.deferred none)).cell? ⟨w.heap.size, 4, none⟩ = some (.slice q x.dat.length c) := cell_of_heap p0 rfl
      have g5 : (W5.putObj D (.deferred none)).cell? ⟨w.heap.size + 1, 0, none⟩ = some .nilIface := cell_of_heap p1 rfl
      refine ⟨by simp, .inl ⟨_, _, rfl, run_takeDeferred hd5, ?_⟩⟩
      refine ⟨.tuple #[inV x (.slice q x.dat.length c), .nilIface], by simp [inV, results, Tryd.f13, go_sem, g0, g1, g2, g3, g4, g5], ?_⟩
      refine ⟨fr_new (fr_new HI.out.fr F5.out (fun j hj e => by rcases e with e | e <;> omega)) hfp (fun j hj e => ?_), .inr ⟨HS.out, .inr ⟨x, _, HX.out, rfl, ?_⟩⟩⟩
      · have e' : j = D := e
        have h1 := HDK.out.2
        have h2 := HSZ.out
        omega
      · refine (HD.out.dat.fr F5.out (fun j cs fr hj e => ?_)).fr hfp (fun j cs fr hj e => ?_)
        · rcases e with e | e
          · rw [e, HI.out.r0] at hj; cases hj
          · rw [e, HI.out.r1] at hj; cases hj
        · have e' : j = D := e
          rw [e', hd5] at hj
          cases hj
    case stop =>
      rintro D c k W hD hk ⟨rfl, hX⟩ hK
      have HX : Hid (LX s w W) := hX
      obtain ⟨p, hp, h1⟩ := hX.d
      have HP : Hid (lineO (tx s) = .inr p) := hp
      have HDK : Hid (W.heap[D]? = some (.deferred (some [])) ∧ W0.heap.size ≤ D) := ⟨hK, hD⟩
      have hfp := fr_put4 W D (.deferred none)
      have hne : w.heap.size ≠ D ∧ w.heap.size + 1 ≠ D := by have h1 := HDK.out.2; have h2 := HSZ.out; omega
      have p0 := (hfp.block _ (lt_of_heap HX.out.r0) hne.1).trans HX.out.r0
      have p1 := (hfp.block _ (lt_of_heap h1) hne.2).trans h1
      have g0 : (W.putObj D (.deferred none)).cell? ⟨w.heap.size, 0, none⟩ = some (.int .i64 0) := cell_of_heap p0 rfl
      have g1 : (W.putObj D (.deferred none)).cell? ⟨w.heap.size, 1, none⟩ = some (.int .i64 0) := cell_of_heap p0 rfl
      have g2 : (W.putObj D (.deferred none)).cell? ⟨w.heap.size, 2, none⟩ = some (.int .i64 0) := cell_of_heap p0 rfl
      have g3 : (W.putObj D (.deferred none)).cell? ⟨w.heap.size, 3, none⟩ = some (.int .i64 0) := cell_of_heap p0 rfl
      have g4 : (W.putObj D (.deferred none)).cell? ⟨w.heap.size, 4, none⟩ = some (.slice none 0 0) := cell_of_heap p0 rfl
      have g5 : (W.putObj D (.deferred none)).cell? ⟨w.heap.size + 1, 0, none⟩ = some (errAt p 4) := cell_of_heap p1 rfl
      have HF : Hid (Fr (fun j => j = D) W (W.putObj D (.deferred none))) := hfp
      clear hX hp h1 p0 p1 hk hfp
      gi_wp2
      refine ⟨by simp, .inl ⟨_, _, rfl, run_takeDeferred hK, ?_⟩⟩
      refine ⟨.tuple #[zeroIn, errAt p 4], by simp [zeroIn, results, Tryd.f13, go_sem, g0, g1, g2, g3, g4, g5], ?_⟩
      refine ⟨fr_new HX.out.fr HF.out (fun j hj e => ?_), .inr ⟨HS.out, .inl ⟨p, HP.out, rfl⟩⟩⟩
      have e' : j = D := e
      have h1 := HDK.out.2
      have h2 := HSZ.out
      omega
end Go.Proofs.YtfehmlopndklcaaDoor
