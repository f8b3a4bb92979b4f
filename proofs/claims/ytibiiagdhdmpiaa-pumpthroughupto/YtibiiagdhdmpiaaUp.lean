/- A pump beside two rows of bytes that grow: for the walk of PumpThrough. -/
import Derived.Test.YtibiiagdhdmpiaaUl
import Derived.Test.YtibiiagdhdmpiaaL20b
namespace Go.Proofs.Ytibiiagdhdmpiaa
open Go.RowKit
set_option linter.unusedVariables false
set_option maxRecDepth 100000
set_option maxHeartbeats 4000000

/-- The pump, what came in and what went out. -/
structure ThX (w : World) (b room : Nat) (vi vo : Value) (L : List UInt8) (op : Bool) (T : Option (List Hd)) (inn out : List UInt8) (wr : World) : Prop where
  pu : PuF w wr (fun g => vi.ownBlock = some g ∨ vo.ownBlock = some g) b L room op T
  vin : OwnAt wr 5 vi (bv inn)
  vout : OwnAt wr 5 vo (bv out)
  new : ∀ g, vi.ownBlock = some g ∨ vo.ownBlock = some g → w.heap.size ≤ g
  ap : Ap vi.ownBlock vo.ownBlock
/-- And bytes that are told. -/
structure ThD (w : World) (b room : Nat) (vi vo : Value) (L : List UInt8) (op : Bool) (T : Option (List Hd)) (inn out : List UInt8) (d : Nat) (X : List UInt8) (wr : World) : Prop where
  pu : PuF w wr (fun g => (vi.ownBlock = some g ∨ vo.ownBlock = some g) ∨ g = d) b L room op T
  vin : OwnAt wr 5 vi (bv inn)
  vout : OwnAt wr 5 vo (bv out)
  new : ∀ g, vi.ownBlock = some g ∨ vo.ownBlock = some g → w.heap.size ≤ g
  ap : Ap vi.ownBlock vo.ownBlock
  row : wr.heap[d]? = some (.cells (bv X).toArray 5 (0, 0))
section
variable {w wr w' : World} {b room : Nat} {vi vo vi' vo' : Value} {L L' : List UInt8} {op op' : Bool} {T T' : Option (List Hd)} {inn out inn' out' X : List UInt8} {d : Nat}
theorem ThX.after (h : ThX w b room vi vo L op T inn out wr) (p : PuF w w' (fun g => vi.ownBlock = some g ∨ vo.ownBlock = some g) b L' room op' T') (f : Fr (Else w (fun g => vi.ownBlock = some g ∨ vo.ownBlock = some g)) wr w') : ThX w b room vi vo L' op' T' inn out w' :=
  ⟨p, h.vin.fr f (fun g hg e => e.2 (.inl hg)), h.vout.fr f (fun g hg e => e.2 (.inr hg)), h.new, h.ap⟩
theorem ThX.later (h : ThX w b room vi vo L op T inn out wr) (f : Fr (fun _ => False) wr w') : ThX w b room vi vo L op T inn out w' :=
  ⟨h.pu.quiet f, h.vin.fr f (fun _ _ => id), h.vout.fr f (fun _ _ => id), h.new, h.ap⟩
theorem ThX.more (h : ThX w b room vi vo L op T inn out wr) (f : Fr (fun k => vi.ownBlock = some k) wr w') (hk : vi'.ownBlock = vi.ownBlock ∨ ∃ k, vi'.ownBlock = some k ∧ wr.heap.size ≤ k) (ho : OwnAt w' 5 vi' (bv inn')) : ThX w b room vi' vo L op T inn' out w' := by
  have hsz := h.pu.fr.size
  refine ⟨h.pu.other f (fun k hk0 e => ⟨.inl e, h.new k (.inl e)⟩) (fun k hG => ?_), ho, h.vout.fr f (fun g hg e => h.ap g e hg), fun g hg => ?_, h.ap.new hk (fun g hg => h.vout.lt g hg)⟩
  · rcases hG with e | e
    · rcases hk with e2 | ⟨k2, e2, hk2⟩
      · exact .inl (.inl (by rw [← e2]; exact e))
      · have := ho.lt k e
        rw [e2] at e; cases e
        exact .inr ⟨hk2, this⟩
    · exact .inl (.inr e)
  · rcases hg with e | e
    · rcases hk with e2 | ⟨k2, e2, hk2⟩
      · exact h.new g (.inl (by rw [← e2]; exact e))
      · rw [e2] at e; cases e; omega
    · exact h.new g (.inr e)
theorem ThX.part (h : ThX w b room vi vo L op T inn out wr) (p : Option Addr) (c : Nat) (bs : List UInt8) (hs : SrcAt w p bs) (hcap : bs.length ≤ c) : Calls Try.prog 15 #[.pointer (some ⟨b, 0, none⟩), .slice p bs.length c] wr fun e w' => e = .returned (.int .i64 (putE op L room bs)) ∧ ThX w b room vi vo (putL op L room bs) op T inn out w' := by
  refine (h.pu.put p c bs (hs.fr h.pu.fr (fun _ _ _ => id)) hcap (fun a ha h0 => .inl (hs.lt a ha h0))).mono ?_
  rintro e w' ⟨rfl, p', f⟩
  exact ⟨rfl, h.after p' f⟩
theorem ThX.next (h : ThX w b room vi vo L op T inn out wr) (n : Int) (m : Nat) (hm : (m : Int) = max 0 (min n L.length)) :
    Calls Try.prog 16 #[.pointer (some ⟨b, 0, none⟩), .int .i64 n] wr fun e w' => ∃ d, e = .returned (.tuple #[.slice (some ⟨d, 0, none⟩) m m, .bool (endB m L op T)]) ∧ ThD w b room vi vo L op T inn out d (L.take m) w' := by
  refine (h.pu.next n m hm).mono ?_
  rintro e w' ⟨d, rfl, hd, hh, -, f⟩
  refine ⟨d, rfl, h.pu.other f (fun _ _ e => e.elim) (fun k hk => ?_), h.vin.fr f (fun _ _ => id), h.vout.fr f (fun _ _ => id), h.new, h.ap, hh⟩
  rcases hk with hk | rfl
  · exact .inl hk
  · exact .inr ⟨hd, lt_of_heap hh⟩
theorem ThD.done (h : ThD w b room vi vo L op T inn out d X wr) (n : Int) : Calls Try.prog 17 #[.pointer (some ⟨b, 0, none⟩), .int .i64 n] wr fun e w' => e = .returned (.int .i64 (doneE L n)) ∧ ThD w b room vi vo (doneL L n) op T inn out d X w' := by
  refine (h.pu.done n).mono ?_
  rintro e w' ⟨rfl, p, f⟩
  exact ⟨rfl, p, h.vin.fr f (fun g hg e => e.2 (.inl (.inl hg))), h.vout.fr f (fun g hg e => e.2 (.inl (.inr hg))), h.new, h.ap, (f.block d (lt_of_heap h.row) (fun e => e.2 (.inr rfl))).trans h.row⟩
theorem ThD.x (h : ThD w b room vi vo L op T inn out d X wr) : ThX w b room vi vo L op T inn out wr :=
  ⟨h.pu.other (S := fun _ => False) (Fr.refl _ _) (fun _ _ e => e.elim) (fun k hk => .inl (.inl hk)), h.vin, h.vout, h.new, h.ap⟩
theorem ThX.less (h : ThX w b room vi vo L op T inn out wr) (f : Fr (fun k => vo.ownBlock = some k) wr w') (hk : vo'.ownBlock = vo.ownBlock ∨ ∃ k, vo'.ownBlock = some k ∧ wr.heap.size ≤ k) (ho : OwnAt w' 5 vo' (bv out')) : ThX w b room vi vo' L op T inn out' w' := by
  have hsz := h.pu.fr.size
  refine ⟨h.pu.other f (fun k hk0 e => ⟨.inr e, h.new k (.inr e)⟩) (fun k hG => ?_), h.vin.fr f (fun g hg e => h.ap g hg e), ho, fun g hg => ?_, (h.ap.symm.new hk (fun g hg => h.vin.lt g hg)).symm⟩
  · rcases hG with e | e
    · exact .inl (.inl e)
    · rcases hk with e2 | ⟨k2, e2, hk2⟩
      · exact .inl (.inr (by rw [← e2]; exact e))
      · have := ho.lt k e
        rw [e2] at e; cases e
        exact .inr ⟨hk2, this⟩
  · rcases hg with e | e
    · exact h.new g (.inl e)
    · rcases hk with e2 | ⟨k2, e2, hk2⟩
      · exact h.new g (.inr (by rw [← e2]; exact e))
      · rw [e2] at e; cases e; omega
theorem ThX.start {n : Nat} (hn : n ≤ 65536) (w : World) : Calls Try.prog 7 #[.int .i64 n] w fun e w' => ∃ b, e = .returned (.tuple #[.pointer (some ⟨b, 0, none⟩), .int .i64 0]) ∧ ThX w b n (.slice none 0 0) (.slice none 0 0) [] true none [] [] w' := by
  refine (nNew n w hn).mono ?_
  rintro e w' ⟨b, rfl, p⟩
  refine ⟨b, rfl, p.other (S := fun _ => False) (Fr.refl _ _) (fun _ _ e => e.elim) (fun k hk => ?_), OwnAt.nil _ _, OwnAt.nil _ _, fun g hg => ?_, by simp [Ap, Value.ownBlock]⟩
  · simp [Value.ownBlock] at hk
  · simp [Value.ownBlock] at hg
theorem ThX.shut (h : ThX w b room vi vo L op T inn out wr) : Calls Try.prog 19 #[.pointer (some ⟨b, 0, none⟩)] wr fun e w' => e = .returned (.int .i64 (shutE op)) ∧ ThX w b room vi vo L false T inn out w' := by
  refine h.pu.shut.mono ?_
  rintro e w' ⟨rfl, p, f⟩
  exact ⟨rfl, h.after p f⟩
theorem ThX.tail (h : ThX w b room vi vo L op T inn out wr) (q : Option Addr) (c : Nat) (l : List Hd) (hl : HL w q c l) : Calls Try.prog 18 #[.pointer (some ⟨b, 0, none⟩), .slice q l.length c] wr fun e w' => e = .returned (.int .i64 (shutE op)) ∧ ThX w b room vi vo L false (tailT op T l) inn out w' := by
  refine (h.pu.tail q c l (hl.fr h.pu.fr (fun _ _ _ => id)) (fun a ha h0 => .inl (hl.lt a ha h0))).mono ?_
  rintro e w' ⟨rfl, p, f⟩
  exact ⟨rfl, h.after p f⟩
theorem ThX.last (h : ThX w b room vi vo L op T inn out wr) : Calls Try.prog 20 #[.pointer (some ⟨b, 0, none⟩)] wr fun e w' => ∃ q c, e = .returned (.tuple #[.slice q ((lastO L T).getD []).length c, .bool (lastO L T).isSome]) ∧ HL w' q c ((lastO L T).getD []) ∧ ThX w b room vi vo L op (lastT L T) inn out w' ∧ ∀ q c l, HL wr q c l → HL w' q c l := by
  refine h.pu.last.mono ?_
  rintro e w' ⟨q, c, rfl, hl, p, f, f2⟩
  exact ⟨q, c, rfl, hl, h.after p f, fun q c l hh => hh.fr f2 (fun a ha h0 e => h.pu.off hh a ha h0 e)⟩
theorem ThX.len (h : ThX w b room vi vo L op T inn out wr) : Calls Try.prog 10 #[.pointer (some ⟨b, 0, none⟩)] wr fun e w' => e = .returned (.int .i64 L.length) ∧ wr = w' := h.pu.len
end
end Go.Proofs.Ytibiiagdhdmpiaa
