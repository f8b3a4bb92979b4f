/- Plain facts: which blocks of memory a call leaves alone; rows of bytes; the builtin copy as one step of a region that draws its order. -/
import Derived.WalkKit
import Derived.Below
import Derived.Deep.RegionLaw
import Derived.Laws.CopyOwn
import Derived.Laws.MakeOwn
import Derived.Deep.Draws
import Derived.Deep.Upon
import Derived.Deep.DeepAppendWide
import Derived.Laws.BytesString
import Derived.Test.YtikaefjhmgcidaaRows
import Derived.Laws.BitsLemmas
import Derived.Deep.LoopGhost
namespace Go.Proofs.Ytikaefjhmgcidaa
open Go.RowKit

/-- All blocks that were there, but for those of S, are as they were; the streams too. -/
structure Fr (S : Nat → Prop) (w w' : World) : Prop where
  os : w'.os = w.os
  tape : w'.tape = w.tape
  output : w'.output = w.output
  size : w.heap.size ≤ w'.heap.size
  block : ∀ k, k < w.heap.size → ¬ S k → w'.heap[k]? = w.heap[k]?

theorem Fr.refl (S : Nat → Prop) (w : World) : Fr S w w := ⟨rfl, rfl, rfl, Nat.le_refl _, fun _ _ _ => rfl⟩
theorem Fr.trans {S : Nat → Prop} {a b c : World} (h : Fr S a b) (k : Fr S b c) : Fr S a c :=
  ⟨k.os.trans h.os, k.tape.trans h.tape, k.output.trans h.output, Nat.le_trans h.size k.size, fun i hi hs => (k.block i (Nat.lt_of_lt_of_le hi h.size) hs).trans (h.block i hi hs)⟩
theorem Fr.mono {S T : Nat → Prop} {a b : World} (h : Fr S a b) (hst : ∀ k, k < a.heap.size → S k → T k) : Fr T a b :=
  ⟨h.os, h.tape, h.output, h.size, fun i hi hs => h.block i hi (fun x => hs (hst i hi x))⟩
theorem Fr.drewN {S : Nat → Prop} {a b : World} (h : Fr S a b) (n : Nat) : Fr S a (b.drewN n) := ⟨h.os, h.tape, h.output, h.size, h.block⟩
theorem Fr.drew {S : Nat → Prop} {a b : World} (h : Fr S a b) : Fr S a b.drew := ⟨h.os, h.tape, h.output, h.size, h.block⟩
theorem Fr.alloc {S : Nat → Prop} {a b : World} (h : Fr S a b) (o : Obj) : Fr S a (b.alloc o) :=
  h.trans ⟨rfl, rfl, rfl, by simp, fun k hk _ => Below.heap_alloc _ _ _ hk⟩
theorem Fr.setCell {S : Nat → Prop} {a b : World} (h : Fr S a b) (p : Addr) (hp : p.block < a.heap.size → S p.block) (u : Value) : Fr S a (b.setCell p u) :=
  ⟨h.os, h.tape, h.output, by simpa [World.setCell] using h.size, fun k hk hs => by
    have hne : k ≠ p.block := fun e => by subst e; exact hs (hp hk)
    rw [Below.heap_setCell _ _ _ _ hne]; exact h.block k hk hs⟩
theorem Fr.setRow {S : Nat → Prop} {a b : World} (h : Fr S a b) (g : Nat) (hp : g < a.heap.size → S g) (cs : Array Value) : Fr S a (b.setRow g cs) :=
  ⟨h.os, h.tape, h.output, by simpa [World.setRow] using h.size, fun k hk hs => by
    have hne : k ≠ g := fun e => by subst e; exact hs (hp hk)
    rw [setRow_other b g k cs hne]; exact h.block k hk hs⟩
theorem Fr.setB {a b : World} {c : Nat} (h : Fr (fun k => k = c) a b) (i : Nat) (v : Value) : Fr (fun k => k = c) a (b.setCell ⟨c, i, none⟩ v) := Fr.setCell (S := fun k => k = c) h ⟨c, i, none⟩ (fun _ => rfl) v
theorem Fr.setS {S : Nat → Prop} {a b : World} {c : Nat} (h : Fr S a b) (hc : S c) (i : Nat) (v : Value) : Fr S a (b.setCell ⟨c, i, none⟩ v) := Fr.setCell (S := S) h ⟨c, i, none⟩ (fun _ => hc) v
theorem Fr.cell {S : Nat → Prop} {w w' : World} (h : Fr S w w') {p : Addr} (hp : p.block < w.heap.size) (hs : ¬ S p.block) : w'.cell? p = w.cell? p := World.cell?_of_block (w := w) (h.block p.block hp hs)
theorem Fr.below {S : Nat → Prop} {w w' : World} (h : Fr S w w') (hs : ∀ k, k < w.heap.size → ¬ S k) : Below w.heap.size w w' :=
  ⟨h.os, h.tape, h.output, h.size, fun k hk => h.block k hk (hs k hk)⟩
theorem Fr.of_below {S : Nat → Prop} {w w' : World} (h : Below w.heap.size w w') : Fr S w w' := ⟨h.os, h.tape, h.output, h.size, fun k hk _ => h.block k hk⟩

/-- A row of bytes, as values. -/
def bv (l : List UInt8) : List Value := l.map fun c => .int .u8 c.toNat
theorem bv_length (l : List UInt8) : (bv l).length = l.length := by simp [bv]
theorem bv_append (l m : List UInt8) : bv (l ++ m) = bv l ++ bv m := by simp [bv]
theorem bv_take (l : List UInt8) (n : Nat) : bv (l.take n) = (bv l).take n := by simp [bv, List.map_take]
theorem bv_drop (l : List UInt8) (n : Nat) : bv (l.drop n) = (bv l).drop n := by simp [bv, List.map_drop]
theorem bv_get (l : List UInt8) (j : Nat) (v : Value) : (bv l)[j]? = some v ↔ ∃ c, l[j]? = some c ∧ v = .int .u8 c.toNat := by
  simp [bv]
  constructor <;> rintro ⟨c, h, e⟩ <;> exact ⟨c, h, e.symm⟩
theorem bv_one (l : List UInt8) : ∀ v ∈ bv l, v.oneCell' = true := by
  intro v hv
  simp [bv] at hv
  obtain ⟨c, _, rfl⟩ := hv
  rfl
theorem bv_splice (l : List UInt8) (off : Nat) (cs : List UInt8) : splice (bv l) off (bv cs) = bv (splice l off cs) := by
  simp [splice, bv_append, bv_take, bv_drop, bv_length]
theorem made_bytes (n : Nat) : madeCells #[.int .u8 0] n = (bv (List.replicate n 0)).toArray := by
  apply Array.ext
  · simp [madeCells, bv]
  · intro i h1 h2
    have h3 : i < n := by simpa [madeCells] using h1
    simp [madeCells, bv, Nat.mod_one]

theorem cell_of_heap {w : World} {g i : Nat} {cur : Array Value} {t : TypeId} {fr : Nat × Nat} {v : Value} (h : w.heap[g]? = some (.cells cur t fr)) (hv : cur[i]? = some v) : w.cell? ⟨g, i, none⟩ = some v := by
  simp [World.cell?, h, hv]
theorem frozen_of_heap {w : World} {g i : Nat} {cur : Array Value} {t : TypeId} (h : w.heap[g]? = some (.cells cur t (0, 0))) : w.frozen? ⟨g, i, none⟩ = false := by
  simp [World.frozen?, h]
theorem lt_of_heap {w : World} {g : Nat} {o : Obj} (h : w.heap[g]? = some o) : g < w.heap.size := (Array.getElem?_eq_some_iff.1 h).1

/-- From the address 'sp' on the bytes 'X' lie. -/
def SrcAt (w : World) (sp : Option Addr) (X : List UInt8) : Prop := ∀ j c, X[j]? = some c → ∃ ad, sp = some ad ∧ w.cell? (ad.add j) = some (.int .u8 c.toNat)

theorem SrcAt.heap {w w' : World} {sp : Option Addr} {X : List UInt8} (h : SrcAt w sp X) (e : w'.heap = w.heap) : SrcAt w' sp X := by
  intro j c hj
  obtain ⟨ad, h1, h2⟩ := h j c hj
  exact ⟨ad, h1, by rw [← h2]; exact World.cell?_of_block (by rw [e])⟩
theorem SrcAt.nil (w : World) (sp : Option Addr) : SrcAt w sp [] := fun j c h => by simp at h
theorem SrcAt.take {w : World} {sp : Option Addr} {X : List UInt8} (h : SrcAt w sp X) (n : Nat) : SrcAt w sp (X.take n) := by
  intro j c hj
  rw [List.getElem?_take] at hj
  split at hj
  · exact h j c hj
  · cases hj

theorem step_copy_row {P : Program} {ops : Array Oper} {o : Oper} {a : Act} {w : World} {K : Act → World → Prop} {Q : Exit → Act → World → Prop} {E : Prop} (hgd : o.guard = none) (d s : Operand) (dT sT : TypeId)
    (ho : o.op = .call { callee := .builtin .copy, args := #[d, s], argTypes := #[dT, sT] }) (elem : TypeId) (hu : P.underlying dT = some (.slice elem)) (hsz : (P.info? elem).map (·.size) = some 1)
    (dp sp : Option Addr) (dLen dCap sLen sCap : Nat) (hd : a.eval d = .slice dp dLen dCap) (hs : a.eval s = .slice sp sLen sCap)
    (g off : Nat) (cur : List UInt8) (t : TypeId) (hg : w.heap[g]? = some (.cells (bv cur).toArray t (0, 0))) (cs : List UInt8) (hn : cs.length = Nat.min sLen dLen)
    (hpos : 0 < cs.length → dp = some ⟨g, off, none⟩) (hsrc : SrcAt w sp cs)
    (hfit : off + cs.length ≤ cur.length)
    (h : ∀ w', Hid (w'.heap[g]? = some (.cells (bv (splice cur off cs)).toArray t (0, 0))) → Hid (Fr (fun k => k = g) w w') → K (a.put o.dst (goInt cs.length)) w') :
    if Region.wanted o (yielded ops a.tmps) = true then Oper.wp P o a w K Q else E := by
  have hw : Region.wanted o (yielded ops a.tmps) = true := by simp [Region.wanted, hgd]
  rw [if_pos hw]
  by_cases h0 : cs.length = 0
  · obtain rfl : cs = [] := List.eq_nil_of_length_eq_zero h0
    have hrun := run_copy_none (P := P) w dT sT o.type elem dp sp dLen dCap sLen sCap hu hsz (by simpa using hn.symm)
    unfold Oper.wp
    simp [execOp, ho, resolve, invoke, builtin, hd, hs, hrun, Result.andThen]
    exact h w (show _ = _ by simpa [splice] using hg) (Fr.refl _ _)
  · obtain rfl := hpos (by omega)
    obtain ⟨ad, rfl, _⟩ := hsrc 0 cs[0] (by simp)
    have hrun := run_copy_row (P := P) w dT sT o.type elem g off dLen dCap ad sLen sCap (bv cur).toArray t (bv cs) hu hsz hg (by rw [bv_length]; exact hn)
      (fun j v hv => by obtain ⟨c, hc, rfl⟩ := (bv_get _ _ _).1 hv; obtain ⟨ad', h1, h2⟩ := hsrc j c hc; cases h1; exact h2) (by simpa [bv_length] using hfit) (bv_one _)
    rw [bv_length] at hrun
    unfold Oper.wp
    simp [execOp, ho, resolve, invoke, builtin, hd, hs, hrun, Result.andThen]
    have hfr : Fr (fun k => k = g) w (w.setRow g (List.take off (bv cur) ++ (bv cs ++ List.drop (off + cs.length) (bv cur))).toArray) := Fr.setRow (S := fun k => k = g) (Fr.refl _ _) g (fun _ => rfl) _
    refine h _ (show _ = _ from ?_) hfr
    rw [← bv_splice]
    simpa [splice, bv_length] using setRow_heap w g _ (((bv cur).take off ++ (bv cs ++ (bv cur).drop (off + cs.length))).toArray) t _ hg

theorem step_copy_nothing {P : Program} {ops : Array Oper} {o : Oper} {a : Act} {w : World} {K : Act → World → Prop} {Q : Exit → Act → World → Prop} {E : Prop} (hgd : o.guard = none) (d s : Operand) (dT sT : TypeId)
    (ho : o.op = .call { callee := .builtin .copy, args := #[d, s], argTypes := #[dT, sT] }) (elem : TypeId) (hu : P.underlying dT = some (.slice elem)) (hsz : (P.info? elem).map (·.size) = some 1)
    (dp sp : Option Addr) (dLen dCap sLen sCap : Nat) (hd : a.eval d = .slice dp dLen dCap) (hs : a.eval s = .slice sp sLen sCap) (hn : Nat.min sLen dLen = 0)
    (h : K (a.put o.dst (goInt 0)) w) :
    if Region.wanted o (yielded ops a.tmps) = true then Oper.wp P o a w K Q else E := by
  have hw : Region.wanted o (yielded ops a.tmps) = true := by simp [Region.wanted, hgd]
  rw [if_pos hw]
  have hrun := run_copy_none (P := P) w dT sT o.type elem dp sp dLen dCap sLen sCap hu hsz hn
  unfold Oper.wp
  simp [execOp, ho, resolve, invoke, builtin, hd, hs, hrun, Result.andThen]
  exact h

/-- A slice's own cut from l on: its length and its room are known; where it lies, only where there is something in it. -/
theorem cut_from (P : Program) (t e : TypeId) (ht : P.underlying t = some (.slice e)) (hsz : (P.info? e).map (·.size) = some 1) (a : Addr) (len cap l : Nat) (k : IntKind) (hl : l ≤ len) :
    ∃ dp : Option Addr, (∀ w, (Instr.slice t (.slice (some a) len cap) (some (.int k (l : Int))) none none).run P w = .ok (.slice dp (len - l) (cap - l)) w) ∧ (l < cap → dp = some (a.add l)) := by
  refine ⟨if cap = l then some a else some (a.add l), fun w => ?_, fun h => by rw [if_neg (by omega)]⟩
  have hb := run_sliceBound (P := P) (w := w) k (l : Int) len .sliceB (by omega) (by omega)
  cases hi : P.info? e with
  | none => simp [hi] at hsz
  | some i =>
  have h1 : i.size = 1 := by simpa [hi] using hsz
  simp [Instr.slice, run_underlying ht, Instr.sliceBounds, hb, sizeOf, typeInfo, hi, h1]

theorem add_none (g o j : Nat) : (⟨g, o, none⟩ : Addr).add j = ⟨g, o + j, none⟩ := by unfold Addr.add; split <;> simp_all

theorem row_cell {w : World} {g : Nat} {cur : List UInt8} {t : TypeId} (hg : w.heap[g]? = some (.cells (bv cur).toArray t (0, 0))) (j : Nat) (c : UInt8) (h : cur[j]? = some c) : w.cell? ⟨g, j, none⟩ = some (.int .u8 c.toNat) :=
  cell_of_heap hg (by simp; exact (bv_get _ _ _).2 ⟨c, h, rfl⟩)

theorem cut_from_lt (P : Program) (t e : TypeId) (ht : P.underlying t = some (.slice e)) (hsz : (P.info? e).map (·.size) = some 1) (g off : Nat) (len cap l : Nat) (k : IntKind) (hl : l ≤ len) (hc : l < cap) :
    ∀ w, (Instr.slice t (.slice (some ⟨g, off, none⟩) len cap) (some (.int k (l : Int))) none none).run P w = .ok (.slice (some ⟨g, off + l, none⟩) (len - l) (cap - l)) w := by
  obtain ⟨dp, h, h'⟩ := cut_from P t e ht hsz ⟨g, off, none⟩ len cap l k hl
  rw [h' hc, add_none] at h
  exact h

theorem SrcAt.row {w : World} {g : Nat} {cur : List UInt8} {t : TypeId} (hg : w.heap[g]? = some (.cells (bv cur).toArray t (0, 0))) (o : Nat) : SrcAt w (some ⟨g, o, none⟩) (cur.drop o) := by
  intro j c hj
  refine ⟨_, rfl, ?_⟩
  rw [add_none]
  exact row_cell hg _ _ (by simpa using hj)

theorem splice_zero (D X : List UInt8) : splice D 0 X = X ++ D.drop X.length := by simp [splice]
theorem splice_two (D X Y : List UInt8) : splice (splice D 0 X) X.length Y = (X ++ Y) ++ D.drop (X.length + Y.length) := by
  rw [splice_zero, splice, List.take_left, List.drop_append, List.drop_of_length_le (by omega), List.drop_drop, List.nil_append, List.append_assoc]
  congr 3
  omega
end Go.Proofs.Ytikaefjhmgcidaa
/- Plain facts: a slice that owns what lies from its place on to the end of its room; the builtin append on it, whatever is appended. -/
namespace Go.Proofs.Ytikaefjhmgcidaa
open Go.RowKit

/-- The slice value v, its elements of one cell and of type e, holds xs; nobody else's cells lie in its room. -/
def OwnAt (w : World) (e : TypeId) (v : Value) (xs : List Value) : Prop :=
  (v = .slice none 0 0 ∧ xs = []) ∨ ∃ g off cap cur, v = .slice (some ⟨g, off, none⟩) xs.length cap ∧ w.heap[g]? = some (.cells cur e (0, 0)) ∧ off + cap ≤ cur.size ∧ xs.length ≤ cap ∧ cap ≤ maxLen ∧ (cur.toList.drop off).take xs.length = xs

theorem OwnAt.nil (w : World) (e : TypeId) : OwnAt w e (.slice none 0 0) [] := .inl ⟨rfl, rfl⟩
theorem OwnAt.form {w : World} {e : TypeId} {v : Value} {xs : List Value} (h : OwnAt w e v xs) : ∃ a cap, v = .slice a xs.length cap ∧ xs.length ≤ cap := by
  rcases h with ⟨rfl, rfl⟩ | ⟨g, off, cap, cur, rfl, _, _, h, _⟩
  · exact ⟨none, 0, rfl, Nat.le_refl _⟩
  · exact ⟨_, cap, rfl, h⟩
theorem OwnAt.lt {w : World} {e : TypeId} {v : Value} {xs : List Value} (h : OwnAt w e v xs) (k : Nat) (hk : v.ownBlock = some k) : k < w.heap.size := by
  rcases h with ⟨rfl, rfl⟩ | ⟨g, off, cap, cur, rfl, hg, _⟩
  · simp [Value.ownBlock] at hk
  · simp [Value.ownBlock] at hk; subst hk; exact lt_of_heap hg
theorem OwnAt.fr {S : Nat → Prop} {w w' : World} {e : TypeId} {v : Value} {xs : List Value} (h : OwnAt w e v xs) (hf : Fr S w w') (hs : ∀ k, v.ownBlock = some k → ¬ S k) : OwnAt w' e v xs := by
  rcases h with h | ⟨g, off, cap, cur, rfl, hg, r⟩
  · exact .inl h
  · exact .inr ⟨g, off, cap, cur, rfl, by rw [hf.block g (lt_of_heap hg) (hs g rfl)]; exact hg, r⟩
theorem OwnAt.cells {w : World} {e : TypeId} {v : Value} {xs : List Value} (h : OwnAt w e v xs) (j : Nat) (u : Value) (hj : xs[j]? = some u) : ∃ g off cap, v = .slice (some ⟨g, off, none⟩) xs.length cap ∧ w.cell? ⟨g, off + j, none⟩ = some u ∧ w.frozen? ⟨g, off + j, none⟩ = false := by
  rcases h with ⟨rfl, rfl⟩ | ⟨g, off, cap, cur, rfl, hg, h1, h2, h3, h4⟩
  · simp at hj
  · refine ⟨g, off, cap, rfl, cell_of_heap hg ?_, frozen_of_heap hg⟩
    rw [← h4, List.getElem?_take] at hj
    split at hj
    · rw [List.getElem?_drop] at hj; simpa using hj
    · cases hj

theorem run_append_at {P : Program} (w : World) (t tx ty e : TypeId) (i : TypeInfo) (z : Value) (ht : P.underlying t = some (.slice e)) (hi : P.info? e = some i) (hz : i.zero = some z) (hsize : i.size = 1) (hzs : z.cells.size = 1)
    (v : Value) (xs : List Value) (hown : OwnAt w e v xs) (x : Value) (m : Nat) (news : List Value) (hs : Src P 1 tx x m news w) (hbytes : ((xs.length + m) + (xs.length + m) / 4 + 192) * i.bytes ≤ 281474976710656) (h63 : xs.length + m ≤ maxLen) :
    ∃ v' w', (Builtin.append_ #[t, tx] ty #[v, x]).run P w = .ok v' w' ∧ OwnAt w' e v' (xs ++ news) ∧ Fr (fun k => v.ownBlock = some k) w w' ∧ (v'.ownBlock = v.ownBlock ∨ ∃ k, v'.ownBlock = some k ∧ w.heap.size ≤ k) ∧ (news ≠ [] → v'.ownBlock ≠ none) := by
  have hm63 : xs.length + m ≤ 9223372036854775807 := by simpa [maxLen] using h63
  have hln : news.length = m := by have := hs.newsLen; omega
  have grown : ∀ (old : Nat), old < xs.length + m →
      OwnAt (w.drew.alloc (.cells ((xs ++ news).toArray ++ Builtin.zeroCells z.cells (grownCap w (xs.length + m) old e - (xs.length + m))) e)) e (.slice (some ⟨w.heap.size, 0, none⟩) (xs.length + m) (grownCap w (xs.length + m) old e)) (xs ++ news) := by
    intro old ho
    have hge := grownCap_ge w (xs.length + m) old e
    refine .inr ⟨w.heap.size, 0, _, _, by rw [List.length_append, hln], heap_alloc_new w.drew _, ?_, ?_, grownCap_le_maxLen w _ old e h63, ?_⟩
    · simp [size_zeroCells, hzs, hln]; omega
    · rw [List.length_append, hln]; exact hge
    · rw [List.drop_zero, Array.toList_append]; exact List.take_left
  have hfr : ∀ o, Fr (fun k => v.ownBlock = some k) w (w.drew.alloc o) := fun o => (Fr.refl _ _).drew.alloc o
  rcases hown with ⟨rfl, rfl⟩ | ⟨g, off, cap, cur, rfl, hg, hoc, hnc, hcm, htake⟩
  · by_cases hm : m = 0
    · subst hm
      obtain rfl : news = [] := List.eq_nil_of_length_eq_zero hln
      have hr := run_append_nothing (P := P) w t tx ty e i ht hi none 0 0 (Nat.le_refl _) x (by rw [hsize]; exact hs)
      exact ⟨_, _, hr, .inl ⟨rfl, rfl⟩, Fr.refl _ _, .inl rfl, fun h => absurd rfl h⟩
    · have hr := run_append_grow_src (P := P) w t tx ty e i z ht hi hz none 0 0 [] (run_firstCells_none _ _ _ _ _) x m news (by rw [hsize]; exact hs) (by omega) (by simp at hm63; omega) (growslice_fits_wide (by omega) hbytes)
      exact ⟨_, _, hr, grown 0 (by simp; omega), hfr _, .inr ⟨_, rfl, Nat.le_refl _⟩, fun _ => by simp [Value.ownBlock]⟩
  · by_cases hroom : xs.length + m ≤ cap
    · have hst := run_storeCells_at P g (off + xs.length) e news 0 cur w hg (by simp; omega) hs.one
      simp only [Nat.add_zero] at hst
      have hr : (Builtin.append_ #[t, tx] ty #[.slice (some ⟨g, off, none⟩) xs.length cap, x]).run P w = .ok (.slice (some ⟨g, off, none⟩) (xs.length + m) cap) (w.setRow g (cur.toList.take (off + xs.length) ++ news ++ cur.toList.drop (off + xs.length + news.length)).toArray) := by
        rcases hs.kind with ⟨e', hk⟩ | hk <;> simp [Builtin.append_, run_underlying ht, run_underlying hk, sizeOf, typeInfo, hi, hs.len, hroom, hsize, hs.cells, Addr.add_lit, hst]
      refine ⟨_, _, hr, .inr ⟨g, off, cap, _, by rw [List.length_append, hln], setRow_heap w g cur _ e _ hg, ?_, by rw [List.length_append]; omega, hcm, ?_⟩, ?_, .inl rfl, fun _ => by simp [Value.ownBlock]⟩
      · simp; omega
      · simp only [List.length_append, hln]
        have e1 : cur.toList.take (off + xs.length) = cur.toList.take off ++ xs := by
          rw [List.take_add, htake]
        rw [e1]
        simp only [List.append_assoc]
        rw [List.drop_append_of_le_length (by simp; omega), List.drop_of_length_le (by simp; omega), List.nil_append, ← List.append_assoc, List.take_append_of_le_length (by simp; omega), List.take_of_length_le (by simp; omega)]
      · exact Fr.setRow (S := fun k => Value.ownBlock (.slice (some ⟨g, off, none⟩) xs.length cap) = some k) (Fr.refl _ _) g (fun _ => rfl) _
    · have hold : (Builtin.firstCells i.size xs.length (.slice (some ⟨g, off, none⟩) xs.length cap)).run P w.drew = .ok xs.toArray w.drew := by
        refine run_firstCells_some w.drew _ _ _ _ _ xs (by rw [hsize]; omega) ?_
        intro j u hj
        rw [add_none]
        refine cell_of_heap (show w.drew.heap[g]? = _ from hg) ?_
        rw [← htake, List.getElem?_take] at hj
        split at hj
        · rw [List.getElem?_drop] at hj; simpa using hj
        · cases hj
      have hr := run_append_grow_src (P := P) w t tx ty e i z ht hi hz (some ⟨g, off, none⟩) xs.length cap xs hold x m news (by rw [hsize]; exact hs) (by omega) (by omega) (growslice_fits_wide (by omega) hbytes)
      exact ⟨_, _, hr, grown cap (by omega), hfr _, .inr ⟨_, rfl, Nat.le_refl _⟩, fun _ => by simp [Value.ownBlock]⟩

theorem wp_append_at {P : Program} {w : World} {o : Oper} {a : Act} {K : Act → World → Prop} {Q : Exit → Act → World → Prop} (s x : Operand) (t tx : TypeId)
    (ho : o.op = .call { callee := .builtin .append, args := #[s, x], argTypes := #[t, tx] })
    (e : TypeId) (i : TypeInfo) (z : Value) (ht : P.underlying t = some (.slice e)) (hi : P.info? e = some i) (hz : i.zero = some z) (hsize : i.size = 1) (hzs : z.cells.size = 1)
    (v : Value) (xs : List Value) (hsv : a.eval s = v) (hown : OwnAt w e v xs) (xv : Value) (hxv : a.eval x = xv) (m : Nat) (news : List Value) (hs : Src P 1 tx xv m news w) (hbytes : ((xs.length + m) + (xs.length + m) / 4 + 192) * i.bytes ≤ 281474976710656) (h63 : xs.length + m ≤ maxLen)
    (h : ∀ a' c' w', OwnAt w' e (.slice a' (xs.length + m) c') (xs ++ news) → Hid (Fr (fun k => v.ownBlock = some k) w w') → Hid ((Value.slice a' (xs.length + m) c').ownBlock = v.ownBlock ∨ ∃ k, (Value.slice a' (xs.length + m) c').ownBlock = some k ∧ w.heap.size ≤ k) → K (a.put o.dst (.slice a' (xs.length + m) c')) w') : o.wp P a w K Q := by
  obtain ⟨v', w', hr, h2, h3, h4, _⟩ := run_append_at (P := P) w t tx o.type e i z ht hi hz hsize hzs v xs hown xv m news hs hbytes h63
  unfold Oper.wp execOp
  simp only [ho, resolve, invoke, builtin, Sem.run_bind, Sem.run_pure, Result.andThen_ok, List.map_toArray, List.map_cons, List.map_nil, hsv, hxv, hr]
  obtain ⟨a', c', rfl, _⟩ := h2.form
  have hl : (xs ++ news).length = xs.length + m := by rw [List.length_append]; have := hs.newsLen; omega
  rw [hl] at h2 h4 ⊢
  exact h a' c' w' h2 h3 h4

theorem wpList_append_at {P : Program} {w : World} {ops : Array Oper} {rest : List Oper} {o : Oper} {a : Act} {Q : Exit → Act → World → Prop} (hgd : o.guard = none) (s x : Operand) (t tx : TypeId)
    (ho : o.op = .call { callee := .builtin .append, args := #[s, x], argTypes := #[t, tx] })
    (e : TypeId) (i : TypeInfo) (z : Value) (ht : P.underlying t = some (.slice e)) (hi : P.info? e = some i) (hz : i.zero = some z) (hsize : i.size = 1) (hzs : z.cells.size = 1)
    (v : Value) (xs : List Value) (hsv : a.eval s = v) (hown : OwnAt w e v xs) (xv : Value) (hxv : a.eval x = xv) (m : Nat) (news : List Value) (hs : Src P 1 tx xv m news w) (hbytes : ((xs.length + m) + (xs.length + m) / 4 + 192) * i.bytes ≤ 281474976710656) (h63 : xs.length + m ≤ maxLen)
    (h : ∀ a' c' w', OwnAt w' e (.slice a' (xs.length + m) c') (xs ++ news) → Hid (Fr (fun k => v.ownBlock = some k) w w') → Hid ((Value.slice a' (xs.length + m) c').ownBlock = v.ownBlock ∨ ∃ k, (Value.slice a' (xs.length + m) c').ownBlock = some k ∧ w.heap.size ≤ k) → wpList P ops Q rest (a.put o.dst (.slice a' (xs.length + m) c')) w') : wpList P ops Q (o :: rest) a w :=
  wpList_plain hgd fun _ hK => wp_append_at s x t tx ho e i z ht hi hz hsize hzs v xs hsv hown xv hxv m news hs hbytes h63 (fun a' c' w' h1 h2 h3 => hK _ _ (h a' c' w' h1 h2 h3))

theorem step_append_at {P : Program} {w : World} {ops : Array Oper} {o : Oper} {a : Act} {K : Act → World → Prop} {Q : Exit → Act → World → Prop} {E : Prop} (hgd : o.guard = none) (s x : Operand) (t tx : TypeId)
    (ho : o.op = .call { callee := .builtin .append, args := #[s, x], argTypes := #[t, tx] })
    (e : TypeId) (i : TypeInfo) (z : Value) (ht : P.underlying t = some (.slice e)) (hi : P.info? e = some i) (hz : i.zero = some z) (hsize : i.size = 1) (hzs : z.cells.size = 1)
    (v : Value) (xs : List Value) (hsv : a.eval s = v) (hown : OwnAt w e v xs) (xv : Value) (hxv : a.eval x = xv) (m : Nat) (news : List Value) (hs : Src P 1 tx xv m news w) (hbytes : ((xs.length + m) + (xs.length + m) / 4 + 192) * i.bytes ≤ 281474976710656) (h63 : xs.length + m ≤ maxLen)
    (h : ∀ a' c' w', OwnAt w' e (.slice a' (xs.length + m) c') (xs ++ news) → Hid (Fr (fun k => v.ownBlock = some k) w w') → Hid ((Value.slice a' (xs.length + m) c').ownBlock = v.ownBlock ∨ ∃ k, (Value.slice a' (xs.length + m) c').ownBlock = some k ∧ w.heap.size ≤ k) → K (a.put o.dst (.slice a' (xs.length + m) c')) w') :
    if Region.wanted o (yielded ops a.tmps) = true then Oper.wp P o a w K Q else E := by
  have hw : Region.wanted o (yielded ops a.tmps) = true := by simp [Region.wanted, hgd]
  rw [if_pos hw]
  exact wp_append_at s x t tx ho e i z ht hi hz hsize hzs v xs hsv hown xv hxv m news hs hbytes h63 h

end Go.Proofs.Ytikaefjhmgcidaa
/- Plain facts: append of bytes onto bytes; blocks that are apart. -/
namespace Go.Proofs.Ytikaefjhmgcidaa
open Go.RowKit

theorem src_bytes {P : Program} {w : World} {sp : Option Addr} {X : List UInt8} (tx e' : TypeId) (hk : P.underlying tx = some (.slice e')) (h : SrcAt w sp X) (m c : Nat) (hm : X.length = m) : Src P 1 tx (.slice sp m c) m (bv X) w := by
  cases sp with
  | none =>
    have h0 : X = [] := by
      cases X with
      | nil => rfl
      | cons x r => obtain ⟨ad, e, _⟩ := h 0 x rfl; cases e
    subst h0
    subst hm
    exact Src.ofNil w hk c
  | some a =>
    refine Src.ofSlice w hk a m c (bv X) (by rw [bv_length]; omega) (fun j u hj => ?_) (bv_one X)
    obtain ⟨x, hx, rfl⟩ := (bv_get _ _ _).1 hj
    obtain ⟨ad, e, hc⟩ := h j x hx
    cases e
    exact hc

theorem wpList_append_bytes {P : Program} {w : World} {ops : Array Oper} {rest : List Oper} {o : Oper} {a : Act} {Q : Exit → Act → World → Prop} (hgd : o.guard = none) (s x : Operand) (t tx : TypeId)
    (ho : o.op = .call { callee := .builtin .append, args := #[s, x], argTypes := #[t, tx] })
    (e : TypeId) (i : TypeInfo) (ht : P.underlying t = some (.slice e)) (htx : P.underlying tx = some (.slice e)) (hi : P.info? e = some i) (hz : i.zero = some (.int .u8 0)) (hsize : i.size = 1) (hby : i.bytes = 1)
    (v : Value) (xs : List UInt8) (hsv : a.eval s = v) (hown : OwnAt w e v (bv xs)) (sp : Option Addr) (m c : Nat) (hxv : a.eval x = .slice sp m c) (X : List UInt8) (hX : SrcAt w sp X) (hm : X.length = m) (hbytes : xs.length + m ≤ 225179981368371)
    (h : ∀ a' n' c' w', Hid (n' = xs.length + m) → OwnAt w' e (.slice a' n' c') (bv (xs ++ X)) → Hid (Fr (fun k => v.ownBlock = some k) w w') → Hid ((Value.slice a' n' c').ownBlock = v.ownBlock ∨ ∃ k, (Value.slice a' n' c').ownBlock = some k ∧ w.heap.size ≤ k) → wpList P ops Q rest (a.put o.dst (.slice a' n' c')) w') : wpList P ops Q (o :: rest) a w := by
  refine wpList_append_at hgd s x t tx ho e i (.int .u8 0) ht hi hz hsize rfl v (bv xs) hsv hown (.slice sp m c) hxv m (bv X) (src_bytes tx e htx hX m c hm) (by rw [bv_length, hby]; omega) (by rw [bv_length]; unfold maxLen; omega) ?_
  intro a' c' w' h1 h2 h3
  rw [bv_length] at h1 h3 ⊢
  rw [← bv_append] at h1
  exact h a' _ c' w' rfl h1 h2 h3

/-- No block lies in both. -/
def Ap (x y : Option Nat) : Prop := ∀ g, x = some g → y ≠ some g
/-- It lies behind b. -/
def Dis (b : Nat) (x : Option Nat) : Prop := ∀ g, x = some g → b < g
theorem Ap.symm {x y : Option Nat} (h : Ap x y) : Ap y x := fun g e e' => h g e' e
theorem Ap.new {x x' y : Option Nat} {s : Nat} (h : Ap x y) (hx : x' = x ∨ ∃ k, x' = some k ∧ s ≤ k) (hy : ∀ g, y = some g → g < s) : Ap x' y := by
  rcases hx with rfl | ⟨k, rfl, hk⟩
  · exact h
  · intro g e e'; cases e; have := hy _ e'; omega
theorem Dis.new {b : Nat} {x x' : Option Nat} {s : Nat} (h : Dis b x) (hx : x' = x ∨ ∃ k, x' = some k ∧ s ≤ k) (hb : b < s) : Dis b x' := by
  rcases hx with rfl | ⟨k, rfl, hk⟩
  · exact h
  · intro g e; cases e; omega

theorem SrcAt.fr {S : Nat → Prop} {w w' : World} {sp : Option Addr} {X : List UInt8} (h : SrcAt w sp X) (hf : Fr S w w') (hs : ∀ a, sp = some a → 0 < X.length → ¬ S a.block) : SrcAt w' sp X := by
  intro j c hj
  obtain ⟨ad, e, hc⟩ := h j c hj
  have hb : (ad.add j).block = ad.block := by unfold Addr.add; split <;> rfl
  have h0 : 0 < X.length := by have := (List.getElem?_eq_some_iff.1 hj).1; omega
  exact ⟨ad, e, by rw [hf.cell (World.block_lt_of_cell? _ _ hc) (by rw [hb]; exact hs ad e h0)]; exact hc⟩

/-- The string of these bytes. -/
def sv8 (X : List UInt8) : Value := .string ⟨X.toArray⟩

theorem fold_push (X : List UInt8) : ∀ s : ByteArray, (X.map fun c => (c.toNat : Int)).foldl (fun r n => r.push (UInt8.ofNat n.toNat)) s = ⟨s.data ++ X.toArray⟩ := by
  induction X with
  | nil => intro s; simp
  | cons x r ih =>
    intro s
    simp only [List.map_cons, List.foldl_cons, ih]
    congr 1
    apply Array.ext'
    simp [ByteArray.push]

theorem string_of {P : Program} {w : World} {sp : Option Addr} {X : List UInt8} (src dst e : TypeId) (hs : P.underlying src = some (.slice e)) (hd : P.underlying dst = some .string) (he : P.underlying e = some (.int .u8)) (h : SrcAt w sp X) (m c : Nat) (hm : X.length = m) :
    (convert src dst (.slice sp m c)).run P w = .ok (sv8 X) w := by
  rw [run_convert_bytes_string w src dst e sp m c hs he hd]
  cases sp with
  | none =>
    have h0 : X = [] := by
      cases X with
      | nil => rfl
      | cons x r => obtain ⟨ad, e, _⟩ := h 0 x rfl; cases e
    subst h0
    simp [Conv.bytesToString, sv8]
    rfl
  | some a =>
    have hl := run_loadCells_list (P := P) w a (bv X) (fun j u hj => by
      obtain ⟨x, hx, rfl⟩ := (bv_get _ _ _).1 hj
      obtain ⟨ad, e, hc⟩ := h j x hx
      cases e
      exact hc)
    rw [bv_length, hm] at hl
    have e1 : bv X = (X.map fun c => (c.toNat : Int)).map (Value.int .u8) := by simp [bv]
    rw [e1] at hl
    rw [run_bytesToString w a m c _ hl, fold_push]
    simp [sv8]

end Go.Proofs.Ytikaefjhmgcidaa
/- Plain facts: append of bytes as a step of a region that draws; a store into bytes of one's own; what a slice of one's own yields. -/
namespace Go.Proofs.Ytikaefjhmgcidaa
open Go.RowKit

theorem step_append_bytes {P : Program} {w : World} {ops : Array Oper} {o : Oper} {a : Act} {K : Act → World → Prop} {Q : Exit → Act → World → Prop} {E : Prop} (hgd : o.guard = none) (s x : Operand) (t tx : TypeId)
    (ho : o.op = .call { callee := .builtin .append, args := #[s, x], argTypes := #[t, tx] })
    (e : TypeId) (i : TypeInfo) (ht : P.underlying t = some (.slice e)) (htx : P.underlying tx = some (.slice e)) (hi : P.info? e = some i) (hz : i.zero = some (.int .u8 0)) (hsize : i.size = 1) (hby : i.bytes = 1)
    (v : Value) (xs : List UInt8) (hsv : a.eval s = v) (hown : OwnAt w e v (bv xs)) (sp : Option Addr) (m c : Nat) (hxv : a.eval x = .slice sp m c) (X : List UInt8) (hX : SrcAt w sp X) (hm : X.length = m) (hbytes : xs.length + m ≤ 225179981368371)
    (h : ∀ a' n' c' w', Hid (n' = xs.length + m) → OwnAt w' e (.slice a' n' c') (bv (xs ++ X)) → Hid (Fr (fun k => v.ownBlock = some k) w w') → Hid ((Value.slice a' n' c').ownBlock = v.ownBlock ∨ ∃ k, (Value.slice a' n' c').ownBlock = some k ∧ w.heap.size ≤ k) → K (a.put o.dst (.slice a' n' c')) w') :
    if Region.wanted o (yielded ops a.tmps) = true then Oper.wp P o a w K Q else E := by
  refine step_append_at hgd s x t tx ho e i (.int .u8 0) ht hi hz hsize rfl v (bv xs) hsv hown (.slice sp m c) hxv m (bv X) (src_bytes tx e htx hX m c hm) (by rw [bv_length, hby]; omega) (by rw [bv_length]; unfold maxLen; omega) ?_
  intro a' c' w' h1 h2 h3
  rw [bv_length] at h1 h3 ⊢
  rw [← bv_append] at h1
  exact h a' _ c' w' rfl h1 h2 h3

theorem own_src {w : World} {e : TypeId} {sp : Option Addr} {n c : Nat} {xs : List UInt8} (h : OwnAt w e (.slice sp n c) (bv xs)) : SrcAt w sp xs := by
  intro j x hj
  obtain ⟨g, off, cap, e, hc, -⟩ := h.cells j (.int .u8 x.toNat) ((bv_get _ _ _).2 ⟨x, hj, rfl⟩)
  cases e
  exact ⟨_, rfl, by rw [add_none]; exact hc⟩

theorem own_len {w : World} {e : TypeId} {sp : Option Addr} {n c : Nat} {xs : List UInt8} (h : OwnAt w e (.slice sp n c) (bv xs)) : n = xs.length ∧ n ≤ c := by
  obtain ⟨a, cap, hv, hc⟩ := h.form
  cases hv
  exact ⟨bv_length xs, hc⟩

/-- nil, cut from its first place on. -/
theorem cut_nil (P : Program) (t e : TypeId) (ht : P.underlying t = some (.slice e)) (hsz : (P.info? e).map (·.size) = some 1) (k : IntKind) :
    ∀ w, (Instr.slice t (.slice none 0 0) (some (.int k (0 : Nat))) none none).run P w = .ok (.slice none (0 - 0) (0 - 0)) w := by
  intro w
  have hb := run_sliceBound (P := P) (w := w) k (0 : Int) 0 .sliceB (by omega) (by omega)
  cases hi : P.info? e with
  | none => simp [hi] at hsz
  | some i => simp [Instr.slice, run_underlying ht, Instr.sliceBounds, hb, sizeOf, typeInfo, hi]

/-- A new empty slice. -/
theorem own_empty (w : World) (e : TypeId) : OwnAt (w.alloc (.cells #[] e)) e (.slice (some ⟨w.heap.size, 0, none⟩) 0 0) (bv []) :=
  .inr ⟨w.heap.size, 0, 0, #[], rfl, heap_alloc_new w _, Nat.le_refl _, Nat.le_refl _, Nat.zero_le _, rfl⟩

theorem own_cell {w : World} {e : TypeId} {g off n c : Nat} {xs : List UInt8} (h : OwnAt w e (.slice (some ⟨g, off, none⟩) n c) (bv xs)) (k : Nat) (hk : k < xs.length) :
    ∃ y : UInt8, w.cell? ⟨g, off + k, none⟩ = some (.int .u8 y.toNat) ∧ w.frozen? ⟨g, off + k, none⟩ = false := by
  obtain ⟨g', off', cap, e, hc, hz⟩ := h.cells k (.int .u8 xs[k].toNat) ((bv_get _ _ _).2 ⟨xs[k], by simp, rfl⟩)
  simp only [Value.slice.injEq, Option.some.injEq, Addr.mk.injEq, and_true] at e
  obtain ⟨⟨rfl, rfl⟩, -⟩ := e
  exact ⟨xs[k], hc, hz⟩

theorem byte_next (y : UInt8) : ((y.toNat : Int) + 1) % 256 = ((y + 1).toNat : Int) := by
  rw [UInt8.toNat_add]
  simp

/-- One byte is stored. -/
theorem own_set {w : World} {e : TypeId} {g off n c : Nat} {xs : List UInt8} (h : OwnAt w e (.slice (some ⟨g, off, none⟩) n c) (bv xs)) (j : Nat) (hj : j < xs.length) (y : UInt8) :
    OwnAt (w.setCell ⟨g, off + j, none⟩ (.int .u8 y.toNat)) e (.slice (some ⟨g, off, none⟩) n c) (bv (xs.set j y)) := by
  rcases h with ⟨h, _⟩ | ⟨g', off', cap, cur, h, hg, h1, h2, h3, h4⟩
  · cases h
  · cases h
    rw [bv_length] at h2 h4 ⊢
    refine .inr ⟨g, off, c, cur.setIfInBounds (off + j) (.int .u8 y.toNat), by rw [bv_length, List.length_set], ?_, ?_, by rw [bv_length, List.length_set]; exact h2, h3, ?_⟩
    · rw [setCell_eq_setRow w g _ cur e _ _ hg]
      exact setRow_heap w g cur _ e _ hg
    · simpa using h1
    · rw [bv_length, List.length_set, Array.toList_setIfInBounds]
      have hset : bv (xs.set j y) = (bv xs).set j (.int .u8 y.toNat) := by simp [bv, List.map_set]
      rw [hset, ← h4]
      apply List.ext_getElem?
      intro k
      simp only [List.getElem?_take, List.getElem?_drop, List.getElem?_set, List.length_take, List.length_drop, Array.length_toList]
      by_cases hk : k < xs.length
      · rw [if_pos hk]
        by_cases hkj : j = k
        · subst hkj
          rw [if_pos rfl, if_pos rfl, if_pos (by omega), if_pos (by omega)]
        · rw [if_neg (by omega), if_neg hkj, if_pos hk]
      · rw [if_neg hk, if_neg (by omega), if_neg hk]

end Go.Proofs.Ytikaefjhmgcidaa
/- Bytes that a call gathers in memory of its own. -/
namespace Go.Proofs.Ytikaefjhmgcidaa
open Go.RowKit
set_option linter.unusedVariables false

theorem SrcAt.oldF {w0 w : World} {sp : Option Addr} {X : List UInt8} (hs : SrcAt w0 sp X) (hf : Fr (fun _ => False) w0 w) : SrcAt w sp X := hs.fr hf (fun _ _ _ => id)
theorem make_room (n : Nat) (h : n ≤ 140737488351232) : ∀ w : World, (Instr.makeSlice 31 (.int .i64 0) (.int .i64 (n : Int))).run Try.prog w = .ok (.slice (some ⟨w.heap.size, 0, none⟩) 0 n) (w.alloc (.cells (bv (List.replicate n 0)).toArray 5)) := by
  intro w
  have hr := run_make (P := Try.prog) w 31 5 ((Try.prog.info? 5).get (by kernel_rfl)) (.int .u8 0) Try.underlying31 (by kernel_rfl) (by kernel_rfl) .i64 .i64 0 n (by omega) (by omega) (by rw [show (((Try.prog.info? 5).get (by kernel_rfl)).bytes) = 1 from by kernel_rfl]; omega) (by omega)
  rw [show (((Try.prog.info? 5).get (by kernel_rfl)).size) = 1 from by kernel_rfl] at hr
  simpa [Value.cells, made_bytes] using hr

/-- Since w0 nothing that was there has changed; v is a slice of one's own, made since, that holds xs. -/
def Gath (w0 w : World) (v : Value) (xs : List UInt8) : Prop := OwnAt w 5 v (bv xs) ∧ (∀ k, v.ownBlock = some k → w0.heap.size ≤ k) ∧ Fr (fun _ => False) w0 w

theorem Gath.start {w0 w : World} (hf : Fr (fun _ => False) w0 w) : Gath w0 (w.alloc (.cells #[] 5)) (.slice (some ⟨w.heap.size, 0, none⟩) 0 0) [] :=
  ⟨own_empty w 5, fun k hk => by simp [Value.ownBlock] at hk; have := hf.size; omega, hf.alloc _⟩
theorem Gath.ofNil {w0 w : World} (hf : Fr (fun _ => False) w0 w) : Gath w0 w (.slice none 0 0) [] := ⟨OwnAt.nil _ _, fun k hk => by simp [Value.ownBlock] at hk, hf⟩
theorem Gath.room {w0 w : World} (n : Nat) (hn : n ≤ 140737488351232) (hf : Fr (fun _ => False) w0 w) : Gath w0 (w.alloc (.cells (bv (List.replicate n 0)).toArray 5)) (.slice (some ⟨w.heap.size, 0, none⟩) 0 n) [] :=
  ⟨.inr ⟨w.heap.size, 0, n, _, rfl, heap_alloc_new w _, by simp [bv_length], Nat.zero_le _, by unfold maxLen; omega, rfl⟩, fun k hk => by simp [Value.ownBlock] at hk; have := hf.size; omega, hf.alloc _⟩

theorem wpList_gather {P : Program} {w0 w : World} {ops : Array Oper} {rest : List Oper} {o : Oper} {a : Act} {Q : Exit → Act → World → Prop} (hgd : o.guard = none) (s x : Operand) (t tx : TypeId)
    (ho : o.op = .call { callee := .builtin .append, args := #[s, x], argTypes := #[t, tx] })
    (i : TypeInfo) (ht : P.underlying t = some (.slice 5)) (htx : P.underlying tx = some (.slice 5)) (hi : P.info? 5 = some i) (hz : i.zero = some (.int .u8 0)) (hsize : i.size = 1) (hby : i.bytes = 1)
    (v : Value) (xs : List UInt8) (hsv : a.eval s = v) (hown : Gath w0 w v xs) (sp : Option Addr) (m c : Nat) (hxv : a.eval x = .slice sp m c) (X : List UInt8) (hX : SrcAt w sp X) (hm : X.length = m) (hbytes : xs.length + m ≤ 225179981368371)
    (h : ∀ a' n' c' w', Hid (n' = xs.length + m) → Gath w0 w' (.slice a' n' c') (xs ++ X) → Hid (Fr (fun k => v.ownBlock = some k) w w') → wpList P ops Q rest (a.put o.dst (.slice a' n' c')) w') : wpList P ops Q (o :: rest) a w := by
  refine wpList_append_bytes hgd s x t tx ho 5 i ht htx hi hz hsize hby v xs hsv hown.1 sp m c hxv X hX hm hbytes ?_
  intro a' n' c' w' hn hO hf hk
  have h1 : Fr (fun k => w0.heap.size ≤ k) w0 w' := (hown.2.2.mono (fun _ _ e => e.elim)).trans (hf.out.mono (fun k _ e => hown.2.1 k e))
  refine h a' n' c' w' hn ⟨hO, fun k e => ?_, h1.mono (fun k hk e => by omega)⟩ hf
  rcases hk.out with h1 | ⟨k', h1, h2⟩
  · exact hown.2.1 k (h1 ▸ e)
  · rw [h1] at e
    cases e
    have := hown.2.2.size
    omega

theorem info5 : ∃ i, Try.prog.info? 5 = some i ∧ i.zero = some (.int .u8 0) ∧ i.size = 1 ∧ i.bytes = 1 :=
  ⟨(Try.prog.info? 5).get (by kernel_rfl), by kernel_rfl, by kernel_rfl, by kernel_rfl, by kernel_rfl⟩


theorem Gath.fr {w0 w w' : World} {v : Value} {xs : List UInt8} (h : Gath w0 w v xs) (hf : Fr (fun _ => False) w w') : Gath w0 w' v xs :=
  ⟨h.1.fr hf (fun _ _ => id), h.2.1, h.2.2.trans hf⟩
theorem Gath.old {w w0 w' : World} {v : Value} {xs : List UInt8} (h : Gath w0 w' v xs) (hf : Fr (fun _ => False) w w0) : Gath w w' v xs :=
  ⟨h.1, fun k hk => Nat.le_trans hf.size (h.2.1 k hk), hf.trans h.2.2⟩
theorem last_at {w : World} {n : Nat} (o : Obj) (h : w.heap.size = n) : (w.alloc o).heap[n]? = some o := by
  subst h; exact heap_alloc_new w o
theorem past_at {w : World} {n : Nat} (o : Obj) {x : Obj} (h : w.heap[n]? = some x) : (w.alloc o).heap[n]? = some x := by
  rw [Below.heap_alloc _ _ _ (lt_of_heap h)]; exact h
/-- One byte in a block of its own. -/
theorem src_one (w : World) (c : UInt8) : SrcAt (w.alloc (.cells #[.int .u8 c.toNat] 5)) (some ⟨w.heap.size, 0, none⟩) [c] := by
  intro j d hj
  cases j with
  | zero => simp at hj; subst hj; exact ⟨_, rfl, by rw [add_none]; exact cell_of_heap (heap_alloc_new w _) rfl⟩
  | succ j => simp at hj
theorem Gath.new {w0 w : World} {a : Option Addr} {n c : Nat} {xs : List UInt8} (h : Gath w0 w (.slice a n c) xs) : ∀ ad, a = some ad → w0.heap.size ≤ ad.block := fun ad e => h.2.1 ad.block (by rw [e]; rfl)
theorem Gath.str {w0 w : World} {v : Value} {ys : List UInt8} (h : Gath w0 w v ys) : (convert 31 9 v).run Try.prog w = .ok (.string ⟨ys.toArray⟩) w := by
  obtain ⟨a, cap, e, _⟩ := h.1.form
  subst e
  have := h.1
  rw [bv_length] at this ⊢
  exact string_of 31 9 5 Try.underlying31 Try.underlying9 Try.underlying5 (own_src this) _ _ rfl
theorem SrcAt.str {w : World} {a : Option Addr} {X : List UInt8} {len : Nat} (h : SrcAt w a X) (hl : X.length = len) (cap : Nat) : (convert 31 9 (.slice a len cap)).run Try.prog w = .ok (.string ⟨X.toArray⟩) w :=
  string_of 31 9 5 Try.underlying31 Try.underlying9 Try.underlying5 h _ _ hl

end Go.Proofs.Ytikaefjhmgcidaa
