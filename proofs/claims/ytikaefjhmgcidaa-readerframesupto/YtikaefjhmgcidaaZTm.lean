/- The law's own all: what a reader tells of chunks. -/
import Derived.Test.YtikaefjhmgcidaaZTl
import Derived.Test.YtikaefjhmgcidaaZMPl
import Derived.Test.YtikaefjhmgcidaaZMPn
namespace Go.Proofs.Ytikaefjhmgcidaa
open Go.RowKit
set_option linter.unusedVariables false
set_option maxRecDepth 100000
set_option maxHeartbeats 4000000

/-- A frame, and where its payload and its settings lie. -/
abbrev FM := Fra × Option Addr × Nat × Option Addr × Nat
def fcl (z : FM) : List Value := [.int .i64 z.1.k, .int .i64 z.1.fl, .int .i64 z.1.st, .slice z.2.1 z.1.X.length z.2.2.1, .int .i64 z.1.pad, .int .u32 z.1.code, .int .i64 z.1.last, .int .i64 z.1.inc, .int .i64 z.1.dep, .bool z.1.only, .int .i64 z.1.wt, .slice z.2.2.2.1 z.1.Y.length z.2.2.2.2]
def xcl (x : Flt) : List Value := [.bool x.is, .int .i64 x.st, .int .i64 x.code]
def frows (ls : List FM) : List Value := (ls.map fcl).flatten
def xrows (xs : List Flt) : List Value := (xs.map xcl).flatten
theorem frows_snoc (ls : List FM) (z : FM) : frows (ls ++ [z]) = frows ls ++ fcl z := by simp [frows]
theorem xrows_snoc (xs : List Flt) (z : Flt) : xrows (xs ++ [z]) = xrows xs ++ xcl z := by simp [xrows]
theorem fcl_one (z : FM) : ∀ u ∈ fcl z, u.oneCell' = true := by intro u hu; simp [fcl] at hu; rcases hu with h | h | h | h | h | h | h | h | h | h | h | h <;> subst h <;> rfl
theorem xcl_one (z : Flt) : ∀ u ∈ xcl z, u.oneCell' = true := by intro u hu; simp [xcl] at hu; rcases hu with h | h | h <;> subst h <;> rfl
/-- A frame's bytes lie in memory, and in none of the blocks that S names. -/
def FOk (w : World) (S : Nat → Prop) (z : FM) : Prop := SrcAt w z.2.1 z.1.X ∧ SetsAt w z.2.2.2.1 z.2.2.2.2 z.1.Y ∧ (∀ ad, z.2.1 = some ad → 0 < z.1.X.length → ¬ S ad.block) ∧ (∀ ad, z.2.2.2.1 = some ad → 0 < z.1.Y.length → ¬ S ad.block)
theorem FOk.next {S T : Nat → Prop} {w w' : World} {z : FM} (h : FOk w S z) (hf : Fr S w w') (ht : ∀ k, k < w.heap.size → ¬ S k → ¬ T k) : FOk w' T z :=
  ⟨h.1.fr hf h.2.2.1, h.2.1.fr hf h.2.2.2, fun ad e hl => ht _ (srcB_lt h.1 ad e hl) (h.2.2.1 ad e hl), fun ad e hl => ht _ (sets_lt h.2.1 ad e hl) (h.2.2.2 ad e hl)⟩
theorem FOk.mono {S T : Nat → Prop} {w : World} {z : FM} (h : FOk w S z) (ht : ∀ k, T k → S k) : FOk w T z := ⟨h.1, h.2.1, fun ad e hl k => h.2.2.1 ad e hl (ht _ k), fun ad e hl k => h.2.2.2 ad e hl (ht _ k)⟩
/-- Which blocks are written while frames are gathered. -/
def Live (g : Nat) (ob : Option Nat) (v vx : Value) (k : Nat) : Prop := k = g ∨ ob = some k ∨ v.ownBlock = some k ∨ vx.ownBlock = some k
theorem row_fr {S : Nat → Prop} {w w' : World} {e : TypeId} {s n : Nat} {v : Value} {xs : List Value} (h : w.ownsRow 0 e s v n xs) (hf : Fr S w w') (hs : ∀ k, v.ownBlock = some k → ¬ S k) : w'.ownsRow 0 e s v n xs := by
  refine ⟨h.1, ?_⟩
  rcases h.2 with h2 | ⟨g, cap, cur, rfl, h3, h4, h5⟩
  · exact .inl h2
  · exact .inr ⟨g, cap, cur, rfl, h3, (hf.block g (lt_of_heap h4) (hs g rfl)).trans h4, h5⟩
theorem row_lt {w : World} {e : TypeId} {s n : Nat} {v : Value} {xs : List Value} (h : w.ownsRow 0 e s v n xs) : ∀ k, v.ownBlock = some k → k < w.heap.size ∧ ∃ cur, w.heap[k]? = some (.cells cur e (0, 0)) := by
  intro k hk
  rcases h.2 with ⟨rfl, -⟩ | ⟨g, cap, cur, rfl, h3, h4, h5⟩
  · simp [Value.ownBlock] at hk
  · simp [Value.ownBlock] at hk
    subst hk
    exact ⟨lt_of_heap h4, cur, h4⟩
/-- Where 'all' stands. -/
structure AllS (w : World) (most : Int) (B : List UInt8) (X : Flt) (ob : Option Nat) (M : Nat) (v : Value) (ls : List FM) (vx : Value) (xs : List Flt) (wr : World) : Prop where
  rd : Rdr wr w.heap.size most B X ob M
  fl : wr.ownsRow 0 36 12 v ls.length (frows ls)
  xl : wr.ownsRow 0 38 3 vx xs.length (xrows xs)
  fo : ∀ z ∈ ls, FOk wr (Live w.heap.size ob v vx) z
  nu : ∀ z ∈ ls, Nums z.1
  no : ∀ k, Live w.heap.size ob v vx k → w.heap.size ≤ k
  fr : Fr (fun _ => False) w wr
theorem AllS.tags {w : World} {most : Int} {B : List UInt8} {X : Flt} {ob : Option Nat} {M : Nat} {v vx : Value} {ls : List FM} {xs : List Flt} {wr : World} (h : AllS w most B X ob M v ls vx xs wr) :
    (∀ k, v.ownBlock = some k → k ≠ w.heap.size ∧ ob ≠ some k ∧ vx.ownBlock ≠ some k) ∧ (∀ k, vx.ownBlock = some k → k ≠ w.heap.size ∧ ob ≠ some k) := by
  obtain ⟨a, n, c, at_, D, hr, ho, hat, hD, rfl, hM⟩ := h.rd
  have hown : ∀ k, (Value.slice a n c).ownBlock = some k → ∃ cur, wr.heap[k]? = some (.cells cur 5 (0, 0)) := by
    intro k hk
    rcases ho with ⟨hv, -⟩ | ⟨g', off, cap, cur, hv, hg, -⟩
    · cases hv; simp [Value.ownBlock] at hk
    · cases hv; simp [Value.ownBlock] at hk; subst hk; exact ⟨cur, hg⟩
  refine ⟨fun k hk => ?_, fun k hk => ?_⟩
  · obtain ⟨-, cur, hc⟩ := row_lt h.fl k hk
    refine ⟨?_, ?_, ?_⟩
    · rintro rfl; rw [RdC, hc] at hr; simp at hr
    · intro e; obtain ⟨c2, h2⟩ := hown k e; rw [hc] at h2; simp at h2
    · intro e; obtain ⟨-, c2, h2⟩ := row_lt h.xl k e; rw [hc] at h2; simp at h2
  · obtain ⟨-, cur, hc⟩ := row_lt h.xl k hk
    refine ⟨?_, ?_⟩
    · rintro rfl; rw [RdC, hc] at hr; simp at hr
    · intro e; obtain ⟨c2, h2⟩ := hown k e; rw [hc] at h2; simp at h2
theorem AllS.later {w : World} {most : Int} {B : List UInt8} {X : Flt} {ob : Option Nat} {M : Nat} {v vx : Value} {ls : List FM} {xs : List Flt} {wr w2 : World} (h : AllS w most B X ob M v ls vx xs wr) (hf : Fr (fun _ => False) wr w2) : AllS w most B X ob M v ls vx xs w2 :=
  ⟨h.rd.later hf, row_fr h.fl hf (fun _ _ => id), row_fr h.xl hf (fun _ _ => id), fun z hz => (h.fo z hz).next (hf.mono (fun _ _ e => e.elim)) (fun _ _ hk => hk), h.nu, h.no, h.fr.trans hf⟩
/-- The reader has been fed or asked. -/
theorem AllS.step {w : World} {most : Int} {B B' : List UInt8} {X X' : Flt} {ob ob' : Option Nat} {M M' : Nat} {v vx : Value} {ls : List FM} {xs : List Flt} {wr w2 : World} (h : AllS w most B X ob M v ls vx xs wr) (hr : Rdr w2 w.heap.size most B' X' ob' M') (hf : Fr (fun k => k = w.heap.size ∨ ob = some k) wr w2) (ho : ob' = ob ∨ ∃ k, ob' = some k ∧ wr.heap.size ≤ k) : AllS w most B' X' ob' M' v ls vx xs w2 := by
  obtain ⟨t1, t2⟩ := h.tags
  have hz := h.fr.size
  refine ⟨hr, row_fr h.fl hf (fun k hk e => ?_), row_fr h.xl hf (fun k hk e => ?_), fun z hz2 => (h.fo z hz2).next (hf.mono (fun k _ e => ?_)) (fun k hk hn e => ?_), h.nu, fun k hk => ?_, ?_⟩
  · rcases e with e | e
    · exact (t1 k hk).1 e
    · exact (t1 k hk).2.1 e
  · rcases e with e | e
    · exact (t2 k hk).1 e
    · exact (t2 k hk).2 e
  · rcases e with e | e
    · exact .inl e
    · exact .inr (.inl e)
  · rcases e with e | e | e | e
    · exact hn (.inl e)
    · rcases ho with e2 | ⟨j, hj, hj2⟩
      · exact hn (.inr (.inl (e2 ▸ e)))
      · rw [hj] at e; cases e; omega
    · exact hn (.inr (.inr (.inl e)))
    · exact hn (.inr (.inr (.inr e)))
  · rcases hk with e | e | e | e
    · exact Nat.le_of_eq e.symm
    · rcases ho with e2 | ⟨j, hj, hj2⟩
      · exact h.no k (.inr (.inl (e2 ▸ e)))
      · rw [hj] at e; cases e; omega
    · exact h.no k (.inr (.inr (.inl e)))
    · exact h.no k (.inr (.inr (.inr e)))
  · refine ((h.fr.mono (T := fun k => w.heap.size ≤ k) (fun _ _ e => e.elim)).trans (hf.mono (fun k _ e => ?_))).mono (fun k hk e => by omega)
    rcases e with e | e
    · exact h.no k (.inl e)
    · exact h.no k (.inr (.inl e))
/-- A frame has been laid behind the frames. -/
theorem AllS.addF {w : World} {most : Int} {B : List UInt8} {X : Flt} {ob : Option Nat} {M : Nat} {v v' vx : Value} {ls : List FM} {z : FM} {xs : List Flt} {wr w2 : World} (h : AllS w most B X ob M v ls vx xs wr) (hz : FOk wr (Live w.heap.size ob v vx) z) (hn : Nums z.1) (hr : w2.ownsRow 0 36 12 v' (ls.length + 1) (frows ls ++ fcl z)) (hf : Fr (fun k => v.ownBlock = some k) wr w2) (ho : v'.ownBlock = v.ownBlock ∨ ∃ k, v'.ownBlock = some k ∧ wr.heap.size ≤ k) : AllS w most B X ob M v' (ls ++ [z]) vx xs w2 := by
  obtain ⟨t1, t2⟩ := h.tags
  have hzz := h.fr.size
  have hlive : ∀ k, k < wr.heap.size → ¬ Live w.heap.size ob v vx k → ¬ Live w.heap.size ob v' vx k := fun k hk hn e => by
    rcases e with e | e | e | e
    · exact hn (.inl e)
    · exact hn (.inr (.inl e))
    · rcases ho with e2 | ⟨j, hj, hj2⟩
      · exact hn (.inr (.inr (.inl (e2 ▸ e))))
      · rw [hj] at e; cases e; omega
    · exact hn (.inr (.inr (.inr e)))
  refine ⟨h.rd.fr hf (fun e => (t1 _ e).1 rfl) (fun k hk e => (t1 k e).2.1 hk), by rw [frows_snoc, List.length_append]; exact hr, row_fr h.xl hf (fun k hk e => (t1 k e).2.2 hk), fun y hy => ?_, fun y hy => ?_, fun k hk => ?_, ?_⟩
  · have hfy : Fr (Live w.heap.size ob v vx) wr w2 := hf.mono (fun k _ e => .inr (.inr (.inl e)))
    rcases List.mem_append.1 hy with h1 | h1
    · exact (h.fo y h1).next hfy hlive
    · rw [List.mem_singleton.1 h1]; exact hz.next hfy hlive
  · rcases List.mem_append.1 hy with h1 | h1
    · exact h.nu y h1
    · rw [List.mem_singleton.1 h1]; exact hn
  · rcases hk with e | e | e | e
    · exact h.no k (.inl e)
    · exact h.no k (.inr (.inl e))
    · rcases ho with e2 | ⟨j, hj, hj2⟩
      · exact h.no k (.inr (.inr (.inl (e2 ▸ e))))
      · rw [hj] at e; cases e; omega
    · exact h.no k (.inr (.inr (.inr e)))
  · exact ((h.fr.mono (T := fun k => w.heap.size ≤ k) (fun _ _ e => e.elim)).trans (hf.mono (fun k _ e => h.no k (.inr (.inr (.inl e)))))).mono (fun k hk e => by omega)
/-- A fault has been laid behind the faults. -/
theorem AllS.addX {w : World} {most : Int} {B : List UInt8} {X : Flt} {ob : Option Nat} {M : Nat} {v vx vx' : Value} {ls : List FM} {xs : List Flt} {y : Flt} {wr w2 : World} (h : AllS w most B X ob M v ls vx xs wr) (hr : w2.ownsRow 0 38 3 vx' (xs.length + 1) (xrows xs ++ xcl y)) (hf : Fr (fun k => vx.ownBlock = some k) wr w2) (ho : vx'.ownBlock = vx.ownBlock ∨ ∃ k, vx'.ownBlock = some k ∧ wr.heap.size ≤ k) : AllS w most B X ob M v ls vx' (xs ++ [y]) w2 := by
  obtain ⟨t1, t2⟩ := h.tags
  have hzz := h.fr.size
  have hlive : ∀ k, k < wr.heap.size → ¬ Live w.heap.size ob v vx k → ¬ Live w.heap.size ob v vx' k := fun k hk hn e => by
    rcases e with e | e | e | e
    · exact hn (.inl e)
    · exact hn (.inr (.inl e))
    · exact hn (.inr (.inr (.inl e)))
    · rcases ho with e2 | ⟨j, hj, hj2⟩
      · exact hn (.inr (.inr (.inr (e2 ▸ e))))
      · rw [hj] at e; cases e; omega
  refine ⟨h.rd.fr hf (fun e => (t2 _ e).1 rfl) (fun k hk e => (t2 k e).2 hk), row_fr h.fl hf (fun k hk e => (t1 k hk).2.2 e), by rw [xrows_snoc, List.length_append]; exact hr, fun z hz => (h.fo z hz).next (hf.mono (fun k _ e => .inr (.inr (.inr e)))) hlive, h.nu, fun k hk => ?_, ?_⟩
  · rcases hk with e | e | e | e
    · exact h.no k (.inl e)
    · exact h.no k (.inr (.inl e))
    · exact h.no k (.inr (.inr (.inl e)))
    · rcases ho with e2 | ⟨j, hj, hj2⟩
      · exact h.no k (.inr (.inr (.inr (e2 ▸ e))))
      · rw [hj] at e; cases e; omega
  · exact ((h.fr.mono (T := fun k => w.heap.size ≤ k) (fun _ _ e => e.elim)).trans (hf.mono (fun k _ e => h.no k (.inr (.inr (.inr e)))))).mono (fun k hk e => by omega)
end Go.Proofs.Ytikaefjhmgcidaa
