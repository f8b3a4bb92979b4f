/- Backends, plainly: their states, what the calls do. -/
import Derived.Test.YtoiencoojkahmaaEa
import Derived.Test.YtoiencoojkahmaaGa
namespace Go.Proofs.Ytoiencoojkahmaa
open Go.RowKit
set_option linter.unusedVariables false

/-- A backend: its health, its state, what it may have, its load, its wait. -/
structure Bk where
  hs : Hs
  st : Int
  may : Int
  load : Int
  wait : Int
/-- A pool: its backends, how many ticks there were, its timers. -/
structure Pl where
  X : Nat → Bk
  N : Nat
  T : List (Int × Int)
def updB (X : Nat → Bk) (j : Nat) (x : Bk) : Nat → Bk := fun i => if i = j then x else X i
theorem updB_at (X : Nat → Bk) (j : Nat) (x : Bk) : updB X j x j = x := if_pos rfl
theorem updB_ne (X : Nat → Bk) {i j : Nat} (x : Bk) (h : i ≠ j) : updB X j x i = X i := if_neg h
theorem updB_two (X : Nat → Bk) (j : Nat) (x y : Bk) : updB (updB X j x) j y = updB X j y := by
  funext i
  unfold updB
  split <;> rfl
theorem updB_self (X : Nat → Bk) (j : Nat) : updB X j (X j) = X := by
  funext i
  unfold updB
  split
  · rename_i h; rw [h]
  · rfl
/-- It is down, with a timer. -/
def lowP (s : Pl) (j : Nat) (a : Int) : Pl := ⟨updB s.X j ⟨(s.X j).hs, 0, (s.X j).may, 0, (s.X j).wait⟩, s.N, (setT s.N s.T (j : Int) a).2⟩
/-- One that drains, and has no load, is down. -/
def empP (s : Pl) (j : Nat) : Pl := if (s.X j).st = 3 ∧ (s.X j).load = 0 then lowP s j 1 else s
def opnP (rt : Int) (s : Pl) (j : Nat) : Int × Pl := if (s.X j).st = 1 then (0, ⟨updB s.X j ⟨(s.X j).hs, 2, 0, 0, rt⟩, s.N, s.T⟩) else (5, s)
def faiP (mo : Int) (s : Pl) (j : Nat) : Int × Pl := if (s.X j).st = 0 then (5, s) else (0, ⟨updB s.X j ⟨(s.X j).hs, 0, (s.X j).may, 0, if mo < 2 * (s.X j).wait then mo else 2 * (s.X j).wait⟩, s.N, (setT s.N s.T (j : Int) (s.X j).wait).2⟩)
def draP (s : Pl) (j : Nat) : Int × Pl := if (s.X j).st = 2 then (0, empP ⟨updB s.X j ⟨(s.X j).hs, 3, (s.X j).may, (s.X j).load, (s.X j).wait⟩, s.N, s.T⟩ j) else (5, s)
def limP (s : Pl) (j : Nat) (v : Int) : Int × Pl := if (s.X j).st < 2 then (5, s) else if v < 0 then (1, s) else (0, ⟨updB s.X j ⟨(s.X j).hs, (s.X j).st, v, (s.X j).load, (s.X j).wait⟩, s.N, s.T⟩)
def takP (s : Pl) (j : Nat) : Int × Pl := if (s.X j).st = 2 then (if (s.X j).may ≤ (s.X j).load then (9, s) else (0, ⟨updB s.X j ⟨(s.X j).hs, 2, (s.X j).may, (s.X j).load + 1, (s.X j).wait⟩, s.N, s.T⟩)) else (5, s)
def putP (s : Pl) (j : Nat) : Int × Pl := if (s.X j).load = 0 then (5, s) else (0, empP ⟨updB s.X j ⟨(s.X j).hs, (s.X j).st, (s.X j).may, (s.X j).load - 1, (s.X j).wait⟩, s.N, s.T⟩ j)
def prbP (F R H : Int) (s : Pl) (j : Nat) (g : Bool) : Pl := ⟨updB s.X j ⟨prbS F R H g (s.X j).hs, (s.X j).st, (s.X j).may, (s.X j).load, (s.X j).wait⟩, s.N, s.T⟩
/-- The first k of those that are due are being dialled. -/
def dueX (X : Nat → Bk) (D : List Int) : Nat → Bk := fun i => if (i : Int) ∈ D then ⟨(X i).hs, 1, (X i).may, (X i).load, (X i).wait⟩ else X i
/-- The first k models have ticked. -/
def tckX (X : Nat → Bk) (k : Nat) : Nat → Bk := fun i => if i < k then ⟨tckS (X i).hs, (X i).st, (X i).may, (X i).load, (X i).wait⟩ else X i
def ticP (n : Nat) (s : Pl) : Pl := ⟨dueX (tckX s.X n) (dueT s.N s.T), s.N + 1, restT s.N s.T⟩
/-- What a backend can be, c calls in. -/
structure BkOk (F mo c : Int) (x : Bk) : Prop where
  h : InvH F c x.hs
  s0 : 0 ≤ x.st
  s3 : x.st ≤ 3
  m0 : 0 ≤ x.may
  mm : x.may ≤ 9223372036854775807
  l0 : 0 ≤ x.load
  lc : x.load ≤ c
  ld : x.st < 2 → x.load = 0
  w1 : 1 ≤ x.wait
  w2 : x.wait ≤ mo
theorem BkOk.more {F mo c d : Int} {x : Bk} (h : BkOk F mo c x) (hd : c ≤ d) : BkOk F mo d x := ⟨h.h.more hd, h.s0, h.s3, h.m0, h.mm, h.l0, by have := h.lc; omega, h.ld, h.w1, h.w2⟩
/-- What a pool can be. -/
structure InvP (n : Nat) (F mo c : Int) (s : Pl) : Prop where
  t : InvT s.N s.T
  ids : ∀ x ∈ s.T, x.1 < (n : Int) ∧ (s.X x.1.toNat).st = 0
  b : ∀ i, i < n → BkOk F mo c (s.X i)
  c0 : 0 ≤ c
  Nc : (s.N : Int) ≤ c
theorem InvP.more {n : Nat} {F mo c d : Int} {s : Pl} (h : InvP n F mo c s) (hd : c ≤ d) : InvP n F mo d s := ⟨h.t, h.ids, fun i hi => (h.b i hi).more hd, by have := h.c0; omega, by have := h.Nc; omega⟩
theorem InvP.upd {n : Nat} {F mo c d : Int} {s : Pl} (h : InvP n F mo c s) (hd : c ≤ d) (j : Nat) {x : Bk} (hx : BkOk F mo d x) (hs : x.st = 0 ∨ (s.X j).st ≠ 0) : InvP n F mo d ⟨updB s.X j x, s.N, s.T⟩ := by
  refine ⟨h.t, fun y hy => ?_, fun i hi => ?_, by have := h.c0; omega, by have := h.Nc; show (s.N : Int) ≤ d; omega⟩
  · obtain ⟨h1, h2⟩ := h.ids y hy
    refine ⟨h1, ?_⟩
    show (updB s.X j x y.1.toNat).st = 0
    unfold updB
    split
    · rename_i e
      rcases hs with hs | hs
      · exact hs
      · rw [e] at h2; exact (hs h2).elim
    · exact h2
  · show BkOk F mo d (updB s.X j x i)
    unfold updB
    split
    · exact hx
    · exact (h.b i hi).more hd
theorem setT_mem {N : Nat} {L : List (Int × Int)} {d n : Int} {x : Int × Int} (h : x ∈ (setT N L d n).2) : x ∈ L ∨ x.1 = d := by
  unfold setT at h
  split at h
  · exact .inl h
  split at h
  · exact .inl h
  rcases List.mem_append.1 h with h | h
  · exact .inl (List.mem_filter.1 h).1
  · simp at h; exact .inr (by rw [h])
theorem InvP.set {n : Nat} {F mo c : Int} {s : Pl} (h : InvP n F mo c s) {j : Nat} (hj : j < n) (hn : n ≤ 1000) (hst : (s.X j).st = 0) (a : Int) : InvP n F mo c ⟨s.X, s.N, (setT s.N s.T (j : Int) a).2⟩ := by
  refine ⟨inv_set h.t a ⟨by omega, by omega⟩, fun y hy => ?_, h.b, h.c0, h.Nc⟩
  rcases setT_mem hy with hy | hy
  · exact h.ids y hy
  · rw [hy]
    exact ⟨by omega, by rw [Int.toNat_natCast]; exact hst⟩
theorem InvP.low {n : Nat} {F mo c : Int} {s : Pl} (h : InvP n F mo c s) {j : Nat} (hj : j < n) (hn : n ≤ 1000) (a : Int) : InvP n F mo c (lowP s j a) := by
  have hb := h.b j hj
  have h1 := h.upd (Int.le_refl c) j (x := ⟨(s.X j).hs, 0, (s.X j).may, 0, (s.X j).wait⟩) ⟨hb.h, by simp, by simp, hb.m0, hb.mm, by simp, h.c0, fun _ => rfl, hb.w1, hb.w2⟩ (.inl rfl)
  exact h1.set hj hn (by show (updB s.X j _ j).st = 0; rw [updB_at]) a
theorem InvP.emp {n : Nat} {F mo c : Int} {s : Pl} (h : InvP n F mo c s) {j : Nat} (hj : j < n) (hn : n ≤ 1000) : InvP n F mo c (empP s j) := by
  unfold empP
  split
  · exact h.low hj hn 1
  · exact h
theorem InvP.opn {n : Nat} {F mo c : Int} {s : Pl} (h : InvP n F mo c s) {j : Nat} (hj : j < n) {rt : Int} (h1 : 1 ≤ rt) (h2 : rt ≤ mo) : InvP n F mo (c + 1) (opnP rt s j).2 := by
  have hb := (h.b j hj).more (d := c + 1) (by omega)
  have := h.c0
  unfold opnP
  split
  · rename_i e
    exact h.upd (by omega) j ⟨hb.h, by simp, by simp, by simp, by simp, by simp, by show (0 : Int) ≤ c + 1; omega, fun _ => rfl, h1, h2⟩ (.inr (by omega))
  · exact h.more (by omega)
theorem InvP.fai {n : Nat} {F mo c : Int} {s : Pl} (h : InvP n F mo c s) {j : Nat} (hj : j < n) (hn : n ≤ 1000) : InvP n F mo (c + 1) (faiP mo s j).2 := by
  have hb := (h.b j hj).more (d := c + 1) (by omega)
  have := h.c0
  unfold faiP
  split
  · exact h.more (by omega)
  · have hw1 := hb.w1
    have hw2 := hb.w2
    have k := h.upd (d := c + 1) (by omega) j (x := ⟨(s.X j).hs, 0, (s.X j).may, 0, if mo < 2 * (s.X j).wait then mo else 2 * (s.X j).wait⟩) ⟨hb.h, by simp, by simp, hb.m0, hb.mm, by simp, by show (0 : Int) ≤ c + 1; omega, fun _ => rfl, by dsimp only; split <;> omega, by dsimp only; split <;> omega⟩ (.inl rfl)
    exact k.set hj hn (by show (updB s.X j _ j).st = 0; rw [updB_at]) _
theorem InvP.dra {n : Nat} {F mo c : Int} {s : Pl} (h : InvP n F mo c s) {j : Nat} (hj : j < n) (hn : n ≤ 1000) : InvP n F mo (c + 1) (draP s j).2 := by
  have hb := (h.b j hj).more (d := c + 1) (by omega)
  unfold draP
  split
  · rename_i e
    exact (h.upd (by omega) j (x := ⟨(s.X j).hs, 3, (s.X j).may, (s.X j).load, (s.X j).wait⟩) ⟨hb.h, by simp, by simp, hb.m0, hb.mm, hb.l0, hb.lc, fun h => by simp at h, hb.w1, hb.w2⟩ (.inr (by omega))).emp hj hn
  · exact h.more (by omega)
theorem InvP.lim {n : Nat} {F mo c : Int} {s : Pl} (h : InvP n F mo c s) {j : Nat} (hj : j < n) {v : Int} (hv : v ≤ 9223372036854775807) : InvP n F mo (c + 1) (limP s j v).2 := by
  have hb := (h.b j hj).more (d := c + 1) (by omega)
  unfold limP
  split
  · exact h.more (by omega)
  split
  · exact h.more (by omega)
  · exact h.upd (by omega) j ⟨hb.h, hb.s0, hb.s3, by show 0 ≤ v; omega, hv, hb.l0, hb.lc, hb.ld, hb.w1, hb.w2⟩ (.inr (by omega))
theorem InvP.tak {n : Nat} {F mo c : Int} {s : Pl} (h : InvP n F mo c s) {j : Nat} (hj : j < n) : InvP n F mo (c + 1) (takP s j).2 := by
  have hb := h.b j hj
  have hb2 := hb.more (d := c + 1) (by omega)
  have := hb.lc
  have := hb.l0
  unfold takP
  split
  · split
    · exact h.more (by omega)
    · exact h.upd (by omega) j ⟨hb2.h, by simp, by simp, hb.m0, hb.mm, by show 0 ≤ (s.X j).load + 1; omega, by show (s.X j).load + 1 ≤ c + 1; omega, fun h => by simp at h, hb.w1, hb.w2⟩ (.inr (by omega))
  · exact h.more (by omega)
theorem InvP.put {n : Nat} {F mo c : Int} {s : Pl} (h : InvP n F mo c s) {j : Nat} (hj : j < n) (hn : n ≤ 1000) : InvP n F mo (c + 1) (putP s j).2 := by
  have hb := h.b j hj
  have hb2 := hb.more (d := c + 1) (by omega)
  have h1 := hb.lc
  have h2 := hb.l0
  have h3 := hb.ld
  have h4 := hb.s0
  unfold putP
  split
  · exact h.more (by omega)
  · rename_i e
    exact (h.upd (by omega) j (x := ⟨(s.X j).hs, (s.X j).st, (s.X j).may, (s.X j).load - 1, (s.X j).wait⟩) ⟨hb2.h, hb.s0, hb.s3, hb.m0, hb.mm, by show 0 ≤ (s.X j).load - 1; omega, by show (s.X j).load - 1 ≤ c + 1; omega, fun h => (e (h3 h)).elim, hb.w1, hb.w2⟩ (.inr (fun e2 => e (h3 (by omega))))).emp hj hn
theorem InvP.prb {n : Nat} {F R H mo c : Int} {s : Pl} (h : InvP n F mo c s) (hr : OkR F R H) {j : Nat} (hj : j < n) (g : Bool) : InvP n F mo (c + 1) (prbP F R H s j g) := by
  have hb := h.b j hj
  have hb2 := hb.more (d := c + 1) (by omega)
  refine h.upd (by omega) j ⟨hb.h.prb hr g, hb.s0, hb.s3, hb.m0, hb.mm, hb.l0, hb2.lc, hb.ld, hb.w1, hb.w2⟩ ?_
  by_cases e : (s.X j).st = 0
  · exact .inl e
  · exact .inr e
theorem due_mem {N : Nat} {L : List (Int × Int)} {d : Int} : d ∈ dueT N L ↔ ∃ x ∈ L, x.1 = d ∧ x.2 = (N : Int) + 1 := by
  unfold dueT
  simp only [List.mem_map, List.mem_filter, decide_eq_true_eq]
  constructor
  · rintro ⟨x, ⟨h1, h2⟩, h3⟩; exact ⟨x, h1, h3, h2⟩
  · rintro ⟨x, h1, h2, h3⟩; exact ⟨x, ⟨h1, h3⟩, h2⟩
/-- Those that are due are down. -/
theorem InvP.due {n : Nat} {F mo c : Int} {s : Pl} (h : InvP n F mo c s) {d : Int} (hd : d ∈ dueT s.N s.T) : ∃ i : Nat, d = (i : Int) ∧ i < n ∧ (s.X i).st = 0 := by
  obtain ⟨x, hx, rfl, -⟩ := due_mem.1 hd
  obtain ⟨h1, h2⟩ := h.ids x hx
  have h3 := (h.t.ids x hx).1
  exact ⟨x.1.toNat, by omega, by omega, h2⟩
theorem due_nodup {N : Nat} {L : List (Int × Int)} (h : InvT N L) : (dueT N L).Nodup := h.nd.sublist ((List.filter_sublist).map _)
theorem due_few {N : Nat} {L : List (Int × Int)} (h : InvT N L) : (dueT N L).length ≤ 1024 := by
  unfold dueT
  rw [List.length_map]
  exact Nat.le_trans (List.length_filter_le _ _) h.few
theorem InvP.tic {n : Nat} {F mo c : Int} {s : Pl} (h : InvP n F mo c s) : InvP n F mo (c + 1) (ticP n s) := by
  refine ⟨inv_tick h.t, fun x hx => ?_, fun i hi => ?_, by have := h.c0; omega, by have := h.Nc; show ((s.N + 1 : Nat) : Int) ≤ c + 1; omega⟩
  · obtain ⟨h1, h2⟩ := List.mem_filter.1 hx
    have hne : ¬ x.2 = (s.N : Int) + 1 := by simpa using h2
    obtain ⟨k1, k2⟩ := h.ids x h1
    have k3 := (h.t.ids x h1).1
    refine ⟨k1, ?_⟩
    show (dueX (tckX s.X n) (dueT s.N s.T) x.1.toNat).st = 0
    unfold dueX
    rw [if_neg]
    · unfold tckX
      split
      · exact k2
      · exact k2
    · intro hd
      obtain ⟨y, hy, e1, e2⟩ := due_mem.1 hd
      rw [Int.toNat_of_nonneg k3] at e1
      have f1 := find_mem h.t.nd hy
      have f2 := find_mem h.t.nd h1
      rw [e1, f2] at f1
      cases f1
      exact hne e2
  · have hb := h.b i hi
    have hb2 := hb.more (d := c + 1) (by omega)
    show BkOk F mo (c + 1) (dueX (tckX s.X n) (dueT s.N s.T) i)
    unfold dueX
    have ht : tckX s.X n i = ⟨tckS (s.X i).hs, (s.X i).st, (s.X i).may, (s.X i).load, (s.X i).wait⟩ := if_pos hi
    split
    · rename_i e
      obtain ⟨i', e1, e2, e3⟩ := h.due e
      obtain rfl : i = i' := by omega
      rw [ht]
      exact ⟨hb.h.tck, by simp, by simp, hb.m0, hb.mm, hb.l0, hb2.lc, fun _ => hb.ld (by omega), hb.w1, hb.w2⟩
    · rw [ht]
      exact ⟨hb.h.tck, hb.s0, hb.s3, hb.m0, hb.mm, hb.l0, hb2.lc, hb.ld, hb.w1, hb.w2⟩
/-- A pool just made, with k backends. -/
def newT : Nat → List (Int × Int)
  | 0 => []
  | k + 1 => (setT 0 (newT k) (k : Int) 1).2
def newP (rt : Int) (n : Nat) : Pl := ⟨fun _ => ⟨⟨false, 0, 0⟩, 0, 0, 0, rt⟩, 0, newT n⟩
theorem newT_ids (k : Nat) : ∀ x ∈ newT k, x.1 < (k : Int) := by
  induction k with
  | zero => intro x hx; simp [newT] at hx
  | succ k ih =>
    intro x hx
    rcases setT_mem hx with hx | hx
    · have := ih x hx; omega
    · omega
theorem newT_inv (k : Nat) (hk : k ≤ 1000) : InvT 0 (newT k) := by
  induction k with
  | zero => exact inv_newT
  | succ k ih => exact inv_set (ih (by omega)) 1 ⟨by omega, by omega⟩
theorem newP_inv {n : Nat} {F R H rt mo : Int} (hn : n ≤ 1000) (hr : OkR F R H) (h1 : 1 ≤ rt) (h2 : rt ≤ mo) : InvP n F mo 0 (newP rt n) :=
  ⟨newT_inv n hn, fun x hx => ⟨newT_ids n x hx, rfl⟩, fun i hi => ⟨InvH.start hr, by simp [newP], by simp [newP], by simp [newP], by simp [newP], by simp [newP], by simp [newP], fun _ => rfl, h1, h2⟩, by simp, by simp [newP]⟩
/-- What a choice sees of a backend. -/
def seeU (x : Bk) : Bool := !x.hs.d && decide (x.st = 2)
def seeS (x : Bk) : Int := if x.st = 2 then (if x.may - x.load < 0 then 0 else x.may - x.load) else 0
end Go.Proofs.Ytoiencoojkahmaa
