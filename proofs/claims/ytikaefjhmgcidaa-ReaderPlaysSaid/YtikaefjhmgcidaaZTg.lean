/- The document's reader in memory; contracts of its New and Feed. -/
import Derived.Test.YtikaefjhmgcidaaZMXp
import Derived.Test.YtikaefjhmgcidaaZRx
namespace Go.Proofs.Ytikaefjhmgcidaa
open Go.RowKit
set_option linter.unusedVariables false
set_option maxRecDepth 100000
set_option maxHeartbeats 4000000

/-- Its block. -/
def RC2 (w : World) (g : Nat) (most : Int) (v : Value) (X : Flt) : Prop :=
  w.heap[g]? = some (.cells #[.int .i64 most, v, .bool X.is, .int .i64 X.st, .int .i64 X.code] 44 (0, 0))
theorem r2cells {w : World} {g : Nat} {most : Int} {v : Value} {X : Flt} (h : RC2 w g most v X) : w.cell? ⟨g, 0, none⟩ = some (.int .i64 most) ∧ w.cell? ⟨g, 1, none⟩ = some v ∧ w.cell? ⟨g, 2, none⟩ = some (.bool X.is) ∧ w.cell? ⟨g, 3, none⟩ = some (.int .i64 X.st) ∧ w.cell? ⟨g, 4, none⟩ = some (.int .i64 X.code) :=
  ⟨cell_of_heap h rfl, cell_of_heap h rfl, cell_of_heap h rfl, cell_of_heap h rfl, cell_of_heap h rfl⟩
theorem RC2.lt {w : World} {g : Nat} {most : Int} {v : Value} {X : Flt} (h : RC2 w g most v X) : g < w.heap.size := lt_of_heap h
theorem RC2.fr {S : Nat → Prop} {w w' : World} {g : Nat} {most : Int} {v : Value} {X : Flt} (h : RC2 w g most v X) (hf : Fr S w w') (hs : ¬ S g) : RC2 w' g most v X := (hf.block g h.lt hs).trans h
theorem own_ne2 {w : World} {g : Nat} {most : Int} {v u : Value} {X : Flt} {xs : List Value} (h : RC2 w g most v X) (ho : OwnAt w 5 u xs) : ∀ k, u.ownBlock = some k → k ≠ g := by
  rintro k hk rfl
  rcases ho with ⟨rfl, -⟩ | ⟨g', off, cap, cur, rfl, hg, -⟩
  · simp [Value.ownBlock] at hk
  · simp [Value.ownBlock] at hk
    subst hk
    rw [RC2, hg] at h
    simp at h
/-- The document's reader: its bytes, its fault, the block of its bytes. -/
def RRd (w : World) (g : Nat) (most : Int) (B : List UInt8) (X : Flt) (ob : Option Nat) : Prop :=
  ∃ a n c, RC2 w g most (.slice a n c) X ∧ OwnAt w 5 (.slice a n c) (bv B) ∧ (Value.slice a n c).ownBlock = ob
theorem RRd.lt {w : World} {g : Nat} {most : Int} {B : List UInt8} {X : Flt} {ob : Option Nat} (h : RRd w g most B X ob) : g < w.heap.size ∧ (∀ k, ob = some k → k < w.heap.size ∧ k ≠ g) := by
  obtain ⟨a, n, c, hr, ho, rfl⟩ := h
  exact ⟨hr.lt, fun k hk => ⟨ho.lt k hk, own_ne2 hr ho k hk⟩⟩
theorem RRd.fr {S : Nat → Prop} {w w' : World} {g : Nat} {most : Int} {B : List UInt8} {X : Flt} {ob : Option Nat} (h : RRd w g most B X ob) (hf : Fr S w w') (hg : ¬ S g) (hs : ∀ k, ob = some k → ¬ S k) : RRd w' g most B X ob := by
  obtain ⟨a, n, c, hr, ho, rfl⟩ := h
  exact ⟨a, n, c, hr.fr hf hg, ho.fr hf hs, rfl⟩
theorem RRd.later {w w' : World} {g : Nat} {most : Int} {B : List UInt8} {X : Flt} {ob : Option Nat} (h : RRd w g most B X ob) (hf : Fr (fun _ => False) w w') : RRd w' g most B X ob := h.fr hf id (fun _ _ => id)
theorem rnNew_in (most : Int) (w : World) (h0 : 16384 ≤ most) (h1 : most ≤ 16777215) :
    Calls Try.prog 9 #[.int .i64 most] w fun e w' => e = .returned (.tuple #[.pointer (some ⟨w.heap.size, 0, none⟩), .int .i64 0]) ∧ RRd w' w.heap.size most [] ⟨false, 0, 0⟩ none ∧ Fr (fun _ => False) w w' := by
  have g1 : ¬ most < 16384 := by omega
  have g2 : ¬ 16777215 < most := by omega
  go_enter Try.func9, Try.ntmps9
  go_wp2_with (fail)
  go_ret2
  exact ⟨rfl, ⟨none, 0, 0, heap_alloc_new w _, OwnAt.nil _ _, rfl⟩, (Fr.refl _ _).alloc _⟩
theorem rnNew_not (most : Int) (w : World) (h : ¬ (16384 ≤ most ∧ most ≤ 16777215)) :
    Calls Try.prog 9 #[.int .i64 most] w fun e w' => e = .returned (.tuple #[.pointer none, .int .i64 1]) ∧ w = w' := by
  by_cases g1 : most < 16384
  · go_enter Try.func9, Try.ntmps9
    go_wp2_with (fail)
    go_ret2
    exact ⟨rfl, rfl⟩
  · have g2 : 16777215 < most := by omega
    go_enter Try.func9, Try.ntmps9
    go_wp2_with (fail)
    go_ret2
    exact ⟨rfl, rfl⟩
theorem rnFeed_failed (g : Nat) (most : Int) (B : List UInt8) (X : Flt) (ob : Option Nat) (b : Value) (w : World) (h : RRd w g most B X ob) (hX : X.is = true) :
    Calls Try.prog 11 #[.pointer (some ⟨g, 0, none⟩), b] w fun e w' => e = .returned (.int .i64 5) ∧ w = w' := by
  obtain ⟨a, n, c, hr, ho, rfl⟩ := h
  obtain ⟨c0, c1, c2, c3, c4⟩ := r2cells hr
  rw [hX] at c2
  clear hX
  go_enter Try.func11, Try.ntmps11
  go_wp2_with (fail)
  go_ret
  exact ⟨rfl, rfl⟩
/-- What its Feed leaves. -/
def RFed (w : World) (g : Nat) (most : Int) (B : List UInt8) (X : Flt) (ob : Option Nat) (e : Ending) (w' : World) : Prop :=
  e = .returned (.int .i64 0) ∧ ∃ ob', RRd w' g most B X ob' ∧ Fr (fun k => k = g ∨ ob = some k) w w' ∧ (ob' = ob ∨ ∃ k, ob' = some k ∧ w.heap.size ≤ k)
theorem rnFeed_in (g : Nat) (most : Int) (B : List UInt8) (X : Flt) (ob : Option Nat) (sp : Option Addr) (m cb : Nat) (b : List UInt8) (w : World) (h : RRd w g most B X ob) (hX : X.is = false) (hs : SrcAt w sp b) (hb : b.length = m) (hbig : B.length + m ≤ 225179981368371) :
    Calls Try.prog 11 #[.pointer (some ⟨g, 0, none⟩), .slice sp m cb] w fun e w' => RFed w g most (B ++ b) X ob e w' := by
  obtain ⟨a, n, c, hr, ho, rfl⟩ := h
  obtain ⟨c0, c1, c2, c3, c4⟩ := r2cells hr
  obtain ⟨i, j1, j2, j3, j4⟩ := info5
  have J1 : Hid (Try.prog.info? 5 = some i) := j1
  have J2 : Hid (i.zero = some (.int .u8 0)) := j2
  have J3 : Hid (i.size = 1) := j3
  have J4 : Hid (i.bytes = 1) := j4
  have HO : Hid (OwnAt w 5 (.slice a n c) (bv B)) := ho
  have HS : Hid (SrcAt w sp b) := hs
  have HB : Hid (b.length = m) := hb
  have HR : Hid (RC2 w g most (.slice a n c) X) := hr
  have HNE : Hid (∀ k, (Value.slice a n c).ownBlock = some k → k ≠ g) := own_ne2 hr ho
  rw [hX] at c2
  clear hX ho hs hb hr j1 j2 j3 j4
  go_enter Try.func11, Try.ntmps11
  go_wp2_with (first
    | (refine wpList_append_bytes rfl (.tmp 14) (.tmp 15) 31 31 rfl 5 i Try.underlying31 Try.underlying31 J1.out J2.out J3.out J4.out (.slice a n c) B (by go_simp) HO.out sp m cb (by go_simp) b HS.out HB.out hbig ?_
       intro a' n' c' w1 N1 o1 F1 B1
       have O1 : Hid (OwnAt w1 5 (.slice a' n' c') (bv (B ++ b))) := o1
       have R1 : Hid (RC2 w1 g most (.slice a n c) X) := HR.out.fr F1.out (fun e => HNE.out g e rfl)
       have d1 : w1.cell? ⟨g, 1, none⟩ = some (.slice a n c) := (r2cells R1.out).2.1
       have z1 : w1.frozen? ⟨g, 1, none⟩ = false := frozen_of_heap R1.out
       clear o1))
  go_ret
  refine ⟨rfl, _, ⟨a', n', c', rset R1.out, ?_, rfl⟩, ?_, B1.out⟩
  · exact O1.out.fr ((Fr.refl _ _).setB 1 _) (own_ne2 R1.out O1.out)
  · exact (F1.out.mono (T := fun k => k = g ∨ (Value.slice a n c).ownBlock = some k) (fun _ _ e => .inr e)).setS (.inl rfl) 1 _
end Go.Proofs.Ytikaefjhmgcidaa
