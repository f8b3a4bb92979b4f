/- Contract of the program's pieces of a frame: the function itself. -/
import Derived.Test.YtikaefjhmgcidaaFg
import Derived.Test.YtikaefjhmgcidaaFb2
import Derived.Test.YtikaefjhmgcidaaFb3
import Derived.Laws.EntriesVeiled
namespace Go.Proofs.Ytikaefjhmgcidaa
open Go.RowKit
set_option linter.unusedVariables false
set_option maxRecDepth 100000
set_option maxHeartbeats 4000000

/-- What the pieces' maker answers. -/
def PcsAs (w : World) (o : Int × List (List UInt8)) (e : Ending) (w' : World) : Prop := ∃ a c, e = .returned (.tuple #[.slice a o.2.length c, .int .i64 o.1]) ∧ Pcs w w' (.slice a o.2.length c) o.2

/-- The state of the pieces' maker: the frame in the block g, pieces so far. -/
structure PSt (w0 : World) (f : Fra) (p q : Option Addr) (cp cq g : Nat) (v : Value) (Xs : List (List UInt8)) (w : World) : Prop where
  at_ : FAt w g f p cp q cq
  in_ : FrIn w f p q cq
  pcs : Pcs w0 w v Xs
theorem PSt.later {w0 w w' : World} {f : Fra} {p q : Option Addr} {cp cq g : Nat} {v : Value} {Xs : List (List UInt8)} (h : PSt w0 f p q cp cq g v Xs w) (hf : Fr (fun _ => False) w w') : PSt w0 f p q cp cq g v Xs w' :=
  ⟨h.at_.later hf, h.in_.later hf, h.pcs.later hf⟩
theorem PSt.put {w0 w w' : World} {f : Fra} {p q : Option Addr} {cp cq g : Nat} {v v' : Value} {Xs Ys : List (List UInt8)} (h : PSt w0 f p q cp cq g v Xs w) (h0 : FAt w0 g f p cp q cq) (h1 : FrIn w0 f p q cq) (hP : Pcs w0 w' v' Ys) : PSt w0 f p q cp cq g v' Ys w' := by
  have hf : Fr (fun _ => False) w0 w' := by obtain ⟨vs, _, _, h, _⟩ := hP; exact h
  exact ⟨h0.later hf, h1.later hf, hP⟩
theorem piece_apart {w0 w : World} {v : Value} {Xs : List (List UInt8)} (hP : Pcs w0 w v Xs) {p sp : Option Addr} {X Y : List UInt8} (hp : SrcAt w0 p X) {w' : World} (hs : SrcAt w' sp Y) (h : sp = p ∧ Y = X ∨ ∀ ad, sp = some ad → w.heap.size ≤ ad.block) : ∀ ad, sp = some ad → 0 < Y.length → v.ownBlock ≠ some ad.block := by
  intro ad e hl e2
  have h1 := hP.lt e2
  obtain ⟨vs, _, h2, _⟩ := hP
  have h3 := h2 _ e2
  rcases h with ⟨rfl, rfl⟩ | h
  · obtain ⟨ad', e3, hc⟩ := hp 0 Y[0] (by simp)
    rw [e] at e3
    cases e3
    have := World.block_lt_of_cell? _ _ hc
    have hb : (ad.add 0).block = ad.block := by unfold Addr.add; split <;> rfl
    omega
  · have := h ad e
    omega

theorem fcells {w : World} {g : Nat} {f : Fra} {p q : Option Addr} {cp cq : Nat} (h : FAt w g f p cp q cq) : w.cell? ⟨g, 0, none⟩ = some (.int .i64 f.k) ∧ w.cell? ⟨g, 1, none⟩ = some (.int .i64 f.fl) ∧ w.cell? ⟨g, 2, none⟩ = some (.int .i64 f.st) ∧ w.cell? ⟨g, 3, none⟩ = some (.slice p f.X.length cp) ∧ w.cell? ⟨g, 4, none⟩ = some (.int .i64 f.pad) ∧ w.cell? ⟨g, 5, none⟩ = some (.int .u32 f.code) ∧ w.cell? ⟨g, 6, none⟩ = some (.int .i64 f.last) ∧ w.cell? ⟨g, 7, none⟩ = some (.int .i64 f.inc) ∧ w.cell? ⟨g, 8, none⟩ = some (.int .i64 f.dep) ∧ w.cell? ⟨g, 9, none⟩ = some (.bool f.only) ∧ w.cell? ⟨g, 10, none⟩ = some (.int .i64 f.wt) ∧ w.cell? ⟨g, 11, none⟩ = some (.slice q f.Y.length cq) :=
  ⟨cell_of_heap h rfl, cell_of_heap h rfl, cell_of_heap h rfl, cell_of_heap h rfl, cell_of_heap h rfl, cell_of_heap h rfl, cell_of_heap h rfl, cell_of_heap h rfl, cell_of_heap h rfl, cell_of_heap h rfl, cell_of_heap h rfl, cell_of_heap h rfl⟩

end Go.Proofs.Ytikaefjhmgcidaa
