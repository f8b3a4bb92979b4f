/- What a joiner's In answers: what all its ways share. -/
import Derived.Test.YtdndhidinbmpdaaBd
import Derived.Laws.BitsLemmas
namespace Go.Proofs.Ytdndhidinbmpdaa
open Go.RowKit
set_option linter.unusedVariables false
set_option maxRecDepth 100000
set_option maxHeartbeats 4000000

theorem and1_any (fl : Int) : bits .and .i64 fl 1 = 0 ∨ bits .and .i64 fl 1 = 1 := by
  have h1 : (BitVec.ofInt 64 1).toNat = 1 := by decide
  have h2 : (BitVec.ofInt 64 fl &&& BitVec.ofInt 64 1).toNat = (BitVec.ofInt 64 fl).toNat % 2 := by rw [BitVec.toNat_and, h1, Nat.and_one_is_mod]
  have h3 : bits .and .i64 fl 1 = IntKind.i64.wrap (((BitVec.ofInt 64 fl).toNat % 2 : Nat) : Int) := by rw [← h2]; rfl
  rw [h3, IntKind.wrap_i64]
  omega
theorem flag_or (fl : Int) : bits .or .i64 (bits .and .i64 fl 1) 4 = if endB fl = true then 5 else 4 := by
  unfold endB
  rcases and1_any fl with h | h <;> rw [h] <;> decide

/-- A joiner lies in the block g: what is open, what it holds, and where. -/
structure JAt (w : World) (g : Nat) (m : Nat) (o : Opn) (H : List UInt8) (v : Value) : Prop where
  c : JC w g (m : Int) o v
  own : OwnAt w 5 v (bv H)
  le : H.length ≤ m
  m : m ≤ 65536
  nil : o = none → v = .slice none 0 0 ∧ H = []
theorem JAt.ne {w : World} {g m : Nat} {o : Opn} {H : List UInt8} {v : Value} (h : JAt w g m o H v) : ∀ k, v.ownBlock = some k → k ≠ g := by
  rintro k hk rfl
  rcases h.own with ⟨rfl, -⟩ | ⟨g', off, cap, cur, rfl, hg, -⟩
  · simp [Value.ownBlock] at hk
  · simp [Value.ownBlock] at hk
    subst hk
    have := h.c
    rw [JC, hg] at this
    simp at this
theorem JAt.fr {S : Nat → Prop} {w w' : World} {g m : Nat} {o : Opn} {H : List UInt8} {v : Value} (h : JAt w g m o H v) (hf : Fr S w w') (hg : ¬ S g) (hv : ∀ k, v.ownBlock = some k → ¬ S k) : JAt w' g m o H v :=
  ⟨h.c.fr hf hg, h.own.fr hf hv, h.le, h.m, h.nil⟩
theorem JAt.later {w w' : World} {g m : Nat} {o : Opn} {H : List UInt8} {v : Value} (h : JAt w g m o H v) (hf : Fr (fun _ => False) w w') : JAt w' g m o H v := h.fr hf id (fun _ _ => id)
theorem JAt.none {w : World} {g m : Nat} (h : JC w g (m : Int) none (.slice none 0 0)) (hm : m ≤ 65536) : JAt w g m none [] (.slice none 0 0) := ⟨h, OwnAt.nil _ _, by simp, hm, fun _ => ⟨rfl, rfl⟩⟩
theorem JAt.form {w : World} {g m : Nat} {o : Opn} {H : List UInt8} {v : Value} (h : JAt w g m o H v) : ∃ p c, v = .slice p H.length c := by
  obtain ⟨a, c, e, -⟩ := h.own.form
  rw [bv_length] at e
  exact ⟨a, c, e⟩

/-- What In answers. -/
def InAs (w : World) (g m : Nat) (v : Value) (r : InO) (e : Ending) (w' : World) : Prop :=
  ∃ p cp q cq v', e = .returned (.tuple #[.agg #[.int .i64 r.f.k, .int .i64 r.f.fl, .int .i64 r.f.st, .slice p r.f.X.length cp, .int .i64 r.f.pad, .int .u32 r.f.code, .int .i64 r.f.last, .int .i64 r.f.inc, .int .i64 r.f.dep, .bool r.f.only, .int .i64 r.f.wt, .slice q r.f.Y.length cq], .bool r.is, .agg #[.bool (decide (r.code ≠ 0)), .int .i64 0, .int .i64 r.code]]) ∧ SrcAt w' p r.f.X ∧ SetsAt w' q cq r.f.Y
    ∧ (∀ ad, p = some ad → 0 < r.f.X.length → v.ownBlock = some ad.block ∨ w.heap.size ≤ ad.block) ∧ JAt w' g m r.o r.H v' ∧ Fr (fun k => k = g ∨ v.ownBlock = some k) w w'
    ∧ (v'.ownBlock = v.ownBlock ∨ v'.ownBlock = none ∨ ∃ k, v'.ownBlock = some k ∧ w.heap.size ≤ k)
theorem set_opn {w : World} {g : Nat} {m : Int} {o : Opn} {v : Value} (h : JC w g m o v) (x : Bool × Int) : JC (((w.setCell ⟨g, 2, none⟩ (.int .i64 1)).setCell ⟨g, 3, none⟩ (.int .i64 (if x.1 = true then 5 else 4))).setCell ⟨g, 4, none⟩ (.int .i64 x.2)) g m (some x) v := by
  have h1 := heap_set (j := 2) (.int .i64 1) h
  have h2 := heap_set (j := 3) (.int .i64 (if x.1 = true then 5 else 4)) h1
  have h3 := heap_set (j := 4) (.int .i64 x.2) h2
  obtain ⟨e, s⟩ := x
  simpa [JC, opK, opF, opS] using h3
theorem set_held {w : World} {g : Nat} {m : Int} {o : Opn} {v : Value} (h : JC w g m o v) (v' : Value) : JC (w.setCell ⟨g, 5, none⟩ v') g m o v' := by
  have h1 := heap_set (j := 5) v' h
  simpa [JC] using h1
/-- A slice of bytes lies in no block that has no byte. -/
theorem src_off {w : World} {g : Nat} {cs : Array Value} {t : TypeId} {fr : Nat × Nat} (h : w.heap[g]? = some (.cells cs t fr)) (hn : ∀ v ∈ cs, ∀ c, v ≠ .int .u8 c) {a : Option Addr} {b : List UInt8} (hs : SrcAt w a b) {ad : Addr} (e : a = some ad) (hl : 0 < b.length) : ad.block ≠ g := by
  obtain ⟨ad', e', hc⟩ := hs 0 b[0] (by simp)
  rw [e] at e'
  cases e'
  intro heq
  have h0 : ad.add 0 = ad := by simp [Addr.add]
  rw [h0] at hc
  unfold World.cell? at hc
  rw [heq, h] at hc
  simp at hc
  obtain ⟨_, hc⟩ := hc
  exact hn _ (Array.mem_of_getElem? hc) _ rfl
theorem JC.src {w : World} {g : Nat} {m : Int} {o : Opn} {p0 : Option Addr} {n0 c0 : Nat} (h : JC w g m o (.slice p0 n0 c0)) {a : Option Addr} {b : List UInt8} (hs : SrcAt w a b) : ∀ ad, a = some ad → 0 < b.length → ¬ ad.block = g := fun ad e hl =>
  src_off h (by intro v hv c e; simp at hv; rcases hv with rfl | rfl | rfl | rfl | rfl | rfl <;> cases e) hs e hl
end Go.Proofs.Ytdndhidinbmpdaa
