/- Plain facts: which blocks of memory a call leaves alone; rows of bytes; the builtin copy as one step of a region that draws its order. -/
import Derived.WalkKit
import Derived.Below
import Derived.Deep.RegionLaw
import Derived.Laws.CopyOwn
import Derived.Laws.MakeOwn
import Derived.Deep.Draws
namespace Go.Proofs.YtfehmlopndklcaaDoor
open Go.RowKit

/-- All blocks that were there, but for those of S, are as they were; the streams too. -/
structure Fr (S : Nat → Prop) (w w' : World) : Prop where
  os : w'.os = w.os
  tape : w'.tape = w.tape
  output : w'.output = w.output
  size : w.heap.size ≤ w'.heap.size
  block : ∀ k, k < w.heap.size → ¬ S k → w'.heap[k]? = w.heap[k]?

theorem Fr.refl (S : Nat → Prop) (w : World) : Fr S w w := ⟨rfl, rfl, rfl, Nat.le_refl _, fun _ _ _ => rfl⟩
theorem Fr.trans {S : Nat → Prop} {a b c : World} (h : Fr S a b) (k : Fr S b c) : Fr S a c :=
  ⟨k.os.trans h.os, k.tape.trans h.tape, k.output.trans h.output, Nat.le_trans h.size k.size, fun i hi hs => (k.block i (Nat.lt_of_lt_of_le hi h.size) hs).trans (h.block i hi hs)⟩
theorem Fr.mono {S T : Nat → Prop} {a b : World} (h : Fr S a b) (hst : ∀ k, k < a.heap.size → S k → T k) : Fr T a b :=
  ⟨h.os, h.tape, h.output, h.size, fun i hi hs => h.block i hi (fun x => hs (hst i hi x))⟩
theorem Fr.drewN {S : Nat → Prop} {a b : World} (h : Fr S a b) (n : Nat) : Fr S a (b.drewN n) := ⟨h.os, h.tape, h.output, h.size, h.block⟩
theorem Fr.drew {S : Nat → Prop} {a b : World} (h : Fr S a b) : Fr S a b.drew := ⟨h.os, h.tape, h.output, h.size, h.block⟩
theorem Fr.alloc {S : Nat → Prop} {a b : World} (h : Fr S a b) (o : Obj) : Fr S a (b.alloc o) :=
  h.trans ⟨rfl, rfl, rfl, by simp, fun k hk _ => Below.heap_alloc _ _ _ hk⟩
theorem Fr.setCell {S : Nat → Prop} {a b : World} (h : Fr S a b) (p : Addr) (hp : p.block < a.heap.size → S p.block) (u : Value) : Fr S a (b.setCell p u) :=
  ⟨h.os, h.tape, h.output, by simpa [World.setCell] using h.size, fun k hk hs => by
    have hne : k ≠ p.block := fun e => by subst e; exact hs (hp hk)
    rw [Below.heap_setCell _ _ _ _ hne]; exact h.block k hk hs⟩
theorem Fr.setRow {S : Nat → Prop} {a b : World} (h : Fr S a b) (g : Nat) (hp : g < a.heap.size → S g) (cs : Array Value) : Fr S a (b.setRow g cs) :=
  ⟨h.os, h.tape, h.output, by simpa [World.setRow] using h.size, fun k hk hs => by
    have hne : k ≠ g := fun e => by subst e; exact hs (hp hk)
    rw [setRow_other b g k cs hne]; exact h.block k hk hs⟩
theorem Fr.setB {a b : World} {c : Nat} (h : Fr (fun k => k = c) a b) (i : Nat) (v : Value) : Fr (fun k => k = c) a (b.setCell ⟨c, i, none⟩ v) := Fr.setCell (S := fun k => k = c) h ⟨c, i, none⟩ (fun _ => rfl) v
theorem Fr.setS {S : Nat → Prop} {a b : World} {c : Nat} (h : Fr S a b) (hc : S c) (i : Nat) (v : Value) : Fr S a (b.setCell ⟨c, i, none⟩ v) := Fr.setCell (S := S) h ⟨c, i, none⟩ (fun _ => hc) v
theorem Fr.cell {S : Nat → Prop} {w w' : World} (h : Fr S w w') {p : Addr} (hp : p.block < w.heap.size) (hs : ¬ S p.block) : w'.cell? p = w.cell? p := World.cell?_of_block (w := w) (h.block p.block hp hs)
theorem Fr.below {S : Nat → Prop} {w w' : World} (h : Fr S w w') (hs : ∀ k, k < w.heap.size → ¬ S k) : Below w.heap.size w w' :=
  ⟨h.os, h.tape, h.output, h.size, fun k hk => h.block k hk (hs k hk)⟩
theorem Fr.of_below {S : Nat → Prop} {w w' : World} (h : Below w.heap.size w w') : Fr S w w' := ⟨h.os, h.tape, h.output, h.size, fun k hk _ => h.block k hk⟩

/-- A row of bytes, as values. -/
def bv (l : List UInt8) : List Value := l.map fun c => .int .u8 c.toNat
theorem bv_length (l : List UInt8) : (bv l).length = l.length := by simp [bv]
theorem bv_append (l m : List UInt8) : bv (l ++ m) = bv l ++ bv m := by simp [bv]
theorem bv_take (l : List UInt8) (n : Nat) : bv (l.take n) = (bv l).take n := by simp [bv, List.map_take]
theorem bv_drop (l : List UInt8) (n : Nat) : bv (l.drop n) = (bv l).drop n := by simp [bv, List.map_drop]
theorem bv_get (l : List UInt8) (j : Nat) (v : Value) : (bv l)[j]? = some v ↔ ∃ c, l[j]? = some c ∧ v = .int .u8 c.toNat := by
  simp [bv]
  constructor <;> rintro ⟨c, h, e⟩ <;> exact ⟨c, h, e.symm⟩
theorem bv_one (l : List UInt8) : ∀ v ∈ bv l, v.oneCell' = true := by
  intro v hv
  simp [bv] at hv
  obtain ⟨c, _, rfl⟩ := hv
  rfl
theorem bv_splice (l : List UInt8) (off : Nat) (cs : List UInt8) : splice (bv l) off (bv cs) = bv (splice l off cs) := by
  simp [splice, bv_append, bv_take, bv_drop, bv_length]
theorem made_bytes (n : Nat) : madeCells #[.int .u8 0] n = (bv (List.replicate n 0)).toArray := by
  apply Array.ext
  · simp [madeCells, bv]
  · intro i h1 h2
    have h3 : i < n := by simpa [madeCells] using h1
    simp [madeCells, bv, Nat.mod_one]

theorem cell_of_heap {w : World} {g i : Nat} {cur : Array Value} {t : TypeId} {fr : Nat × Nat} {v : Value} (h : w.heap[g]? = some (.cells cur t fr)) (hv : cur[i]? = some v) : w.cell? ⟨g, i, none⟩ = some v := by
  simp [World.cell?, h, hv]
theorem frozen_of_heap {w : World} {g i : Nat} {cur : Array Value} {t : TypeId} (h : w.heap[g]? = some (.cells cur t (0, 0))) : w.frozen? ⟨g, i, none⟩ = false := by
  simp [World.frozen?, h]
theorem lt_of_heap {w : World} {g : Nat} {o : Obj} (h : w.heap[g]? = some o) : g < w.heap.size := (Array.getElem?_eq_some_iff.1 h).1

/-- From the address 'sp' on the bytes 'X' lie. -/
def SrcAt (w : World) (sp : Option Addr) (X : List UInt8) : Prop := ∀ j c, X[j]? = some c → ∃ ad, sp = some ad ∧ w.cell? (ad.add j) = some (.int .u8 c.toNat)

theorem SrcAt.heap {w w' : World} {sp : Option Addr} {X : List UInt8} (h : SrcAt w sp X) (e : w'.heap = w.heap) : SrcAt w' sp X := by
  intro j c hj
  obtain ⟨ad, h1, h2⟩ := h j c hj
  exact ⟨ad, h1, by rw [← h2]; exact World.cell?_of_block (by rw [e])⟩
theorem SrcAt.nil (w : World) (sp : Option Addr) : SrcAt w sp [] := fun j c h => by simp at h
theorem SrcAt.take {w : World} {sp : Option Addr} {X : List UInt8} (h : SrcAt w sp X) (n : Nat) : SrcAt w sp (X.take n) := by
  intro j c hj
  rw [List.getElem?_take] at hj
  split at hj
  · exact h j c hj
  · cases hj

theorem step_copy_row {P : Program} {ops : Array Oper} {o : Oper} {a : Act} {w : World} {K : Act → World → Prop} {Q : Exit → Act → World → Prop} {E : Prop} (hgd : o.guard = none) (d s : Operand) (dT sT : TypeId)
    (ho : o.op = .call { callee := .builtin .copy, args := #[d, s], argTypes := #[dT, sT] }) (elem : TypeId) (hu : P.underlying dT = some (.slice elem)) (hsz : (P.info? elem).map (·.size) = some 1)
    (dp sp : Option Addr) (dLen dCap sLen sCap : Nat) (hd : a.eval d = .slice dp dLen dCap) (hs : a.eval s = .slice sp sLen sCap)
    (g off : Nat) (cur : List UInt8) (t : TypeId) (hg : w.heap[g]? = some (.cells (bv cur).toArray t (0, 0))) (cs : List UInt8) (hn : cs.length = Nat.min sLen dLen)
    (hpos : 0 < cs.length → dp = some ⟨g, off, none⟩) (hsrc : SrcAt w sp cs)
    (hfit : off + cs.length ≤ cur.length)
    (h : ∀ w', Hid (w'.heap[g]? = some (.cells (bv (splice cur off cs)).toArray t (0, 0))) → Hid (Fr (fun k => k = g) w w') → K (a.put o.dst (goInt cs.length)) w') :
    if Region.wanted o (yielded ops a.tmps) = true then Oper.wp P o a w K Q else E := by
  have hw : Region.wanted o (yielded ops a.tmps) = true := by simp [Region.wanted, hgd]
  rw [if_pos hw]
  by_cases h0 : cs.length = 0
  · obtain rfl : cs = [] := List.eq_nil_of_length_eq_zero h0
    have hrun := run_copy_none (P := P) w dT sT o.type elem dp sp dLen dCap sLen sCap hu hsz (by simpa using hn.symm)
    unfold Oper.wp
    simp [execOp, ho, resolve, invoke, builtin, hd, hs, hrun, Result.andThen]
    exact h w (show _ = _ by simpa [splice] using hg) (Fr.refl _ _)
  · obtain rfl := hpos (by omega)
    obtain ⟨ad, rfl, _⟩ := hsrc 0 cs[0] (by simp)
    have hrun := run_copy_row (P := P) w dT sT o.type elem g off dLen dCap ad sLen sCap (bv cur).toArray t (bv cs) hu hsz hg (by rw [bv_length]; exact hn)
      (fun j v hv => by obtain ⟨c, hc, rfl⟩ := (bv_get _ _ _).1 hv; obtain ⟨ad', h1, h2⟩ := hsrc j c hc; cases h1; exact h2) (by simpa [bv_length] using hfit) (bv_one _)
    rw [bv_length] at hrun
    unfold Oper.wp
    simp [execOp, ho, resolve, invoke, builtin, hd, hs, hrun, Result.andThen]
    have hfr : Fr (fun k => k = g) w (w.setRow g (List.take off (bv cur) ++ (bv cs ++ List.drop (off + cs.length) (bv cur))).toArray) := Fr.setRow (S := fun k => k = g) (Fr.refl _ _) g (fun _ => rfl) _
    refine h _ (show _ = _ from ?_) hfr
    rw [← bv_splice]
    simpa [splice, bv_length] using setRow_heap w g _ (((bv cur).take off ++ (bv cs ++ (bv cur).drop (off + cs.length))).toArray) t _ hg

theorem step_copy_nothing {P : Program} {ops : Array Oper} {o : Oper} {a : Act} {w : World} {K : Act → World → Prop} {Q : Exit → Act → World → Prop} {E : Prop} (hgd : o.guard = none) (d s : Operand) (dT sT : TypeId)
    (ho : o.op = .call { callee := .builtin .copy, args := #[d, s], argTypes := #[dT, sT] }) (elem : TypeId) (hu : P.underlying dT = some (.slice elem)) (hsz : (P.info? elem).map (·.size) = some 1)
    (dp sp : Option Addr) (dLen dCap sLen sCap : Nat) (hd : a.eval d = .slice dp dLen dCap) (hs : a.eval s = .slice sp sLen sCap) (hn : Nat.min sLen dLen = 0)
    (h : K (a.put o.dst (goInt 0)) w) :
    if Region.wanted o (yielded ops a.tmps) = true then Oper.wp P o a w K Q else E := by
  have hw : Region.wanted o (yielded ops a.tmps) = true := by simp [Region.wanted, hgd]
  rw [if_pos hw]
  have hrun := run_copy_none (P := P) w dT sT o.type elem dp sp dLen dCap sLen sCap hu hsz hn
  unfold Oper.wp
  simp [execOp, ho, resolve, invoke, builtin, hd, hs, hrun, Result.andThen]
  exact h

/-- A slice's own cut from l on: its length and its room are known; where it lies, only where there is something in it. -/
theorem cut_from (P : Program) (t e : TypeId) (ht : P.underlying t = some (.slice e)) (hsz : (P.info? e).map (·.size) = some 1) (a : Addr) (len cap l : Nat) (k : IntKind) (hl : l ≤ len) :
    ∃ dp : Option Addr, (∀ w, (Instr.slice t (.slice (some a) len cap) (some (.int k (l : Int))) none none).run P w = .ok (.slice dp (len - l) (cap - l)) w) ∧ (l < cap → dp = some (a.add l)) := by
  refine ⟨if cap = l then some a else some (a.add l), fun w => ?_, fun h => by rw [if_neg (by omega)]⟩
  have hb := run_sliceBound (P := P) (w := w) k (l : Int) len .sliceB (by omega) (by omega)
  cases hi : P.info? e with
  | none => simp [hi] at hsz
  | some i =>
  have h1 : i.size = 1 := by simpa [hi] using hsz
  simp [Instr.slice, run_underlying ht, Instr.sliceBounds, hb, sizeOf, typeInfo, hi, h1]

theorem add_none (g o j : Nat) : (⟨g, o, none⟩ : Addr).add j = ⟨g, o + j, none⟩ := by unfold Addr.add; split <;> simp_all

theorem row_cell {w : World} {g : Nat} {cur : List UInt8} {t : TypeId} (hg : w.heap[g]? = some (.cells (bv cur).toArray t (0, 0))) (j : Nat) (c : UInt8) (h : cur[j]? = some c) : w.cell? ⟨g, j, none⟩ = some (.int .u8 c.toNat) :=
  cell_of_heap hg (by simp; exact (bv_get _ _ _).2 ⟨c, h, rfl⟩)

theorem cut_from_lt (P : Program) (t e : TypeId) (ht : P.underlying t = some (.slice e)) (hsz : (P.info? e).map (·.size) = some 1) (g off : Nat) (len cap l : Nat) (k : IntKind) (hl : l ≤ len) (hc : l < cap) :
    ∀ w, (Instr.slice t (.slice (some ⟨g, off, none⟩) len cap) (some (.int k (l : Int))) none none).run P w = .ok (.slice (some ⟨g, off + l, none⟩) (len - l) (cap - l)) w := by
  obtain ⟨dp, h, h'⟩ := cut_from P t e ht hsz ⟨g, off, none⟩ len cap l k hl
  rw [h' hc, add_none] at h
  exact h

theorem SrcAt.row {w : World} {g : Nat} {cur : List UInt8} {t : TypeId} (hg : w.heap[g]? = some (.cells (bv cur).toArray t (0, 0))) (o : Nat) : SrcAt w (some ⟨g, o, none⟩) (cur.drop o) := by
  intro j c hj
  refine ⟨_, rfl, ?_⟩
  rw [add_none]
  exact row_cell hg _ _ (by simpa using hj)

theorem splice_zero (D X : List UInt8) : splice D 0 X = X ++ D.drop X.length := by simp [splice]
theorem splice_two (D X Y : List UInt8) : splice (splice D 0 X) X.length Y = (X ++ Y) ++ D.drop (X.length + Y.length) := by
  rw [splice_zero, splice, List.take_left, List.drop_append, List.drop_of_length_le (by omega), List.drop_drop, List.nil_append, List.append_assoc]
  congr 3
  omega
end Go.Proofs.YtfehmlopndklcaaDoor
