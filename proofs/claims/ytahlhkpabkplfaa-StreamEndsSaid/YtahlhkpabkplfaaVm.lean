/- Both streams side by side; ints. -/
import Derived.Test.YtahlhkpabkplfaaVl
import Derived.Test.YtahlhkpabkplfaaVf
import Derived.Test.YtahlhkpabkplfaaYl
import Derived.Deep.RegionHeldLaw
namespace Go.Proofs.Ytahlhkpabkplfaa
open Go.RowKit Go.Maps
set_option linter.unusedVariables false
set_option maxRecDepth 100000
set_option maxHeartbeats 4000000

/-- Those that are remembered have numbers. -/
def GoneOk (S : Stm) : Prop := ∀ x ∈ S.gone, numB x = true
theorem gone_drop {S : Stm} (h : GoneOk S) {d : Int} (hd : numB d = true) : GoneOk (dropS S d) := fun x hx => by
  have := mem_last64 hx
  rcases List.mem_append.1 this with h1 | h1
  · exact h x h1
  · rw [List.mem_singleton.1 h1]; exact hd
theorem gone_new (sv : Bool) (most : Int) : GoneOk (newS sv most) := fun x hx => by cases hx
theorem gone_limit {S : Stm} (h : GoneOk S) (n : Int) : GoneOk (limitS S n).2 := by unfold limitS; split <;> exact h
theorem gone_peer {S : Stm} (h : GoneOk S) (d : Int) : GoneOk (peerS S d).2.2 := by
  unfold peerS
  split
  · exact h
  · rename_i hn
    split
    · exact gone_drop (S := { S with theirs := d }) h (decide_eq_true ⟨by omega, by omega⟩)
    · exact h
theorem gone_own {S : Stm} (h : GoneOk S) : GoneOk (ownO S).2.2 := by
  unfold ownO
  split
  · exact h
  · split <;> exact h
theorem gone_do {S : Stm} (h : GoneOk S) (d wh : Int) : GoneOk (doS S d wh).2 := by
  unfold doS
  split
  · exact h
  · rename_i hd
    have hnum : numB d = true := decide_eq_true ⟨by omega, by omega⟩
    split
    · exact h
    · split
      · exact h
      · split
        · exact h
        · split
          · exact h
          · unfold turnS
            dsimp only
            split
            · exact h
            · split
              · split
                · exact gone_drop (S := { S with L := S.L.filter (fun x => x.1 ≠ d) }) h hnum
                · exact h
              · exact h
theorem gone_num {S : Stm} (h : GoneOk S) (d : Int) : (numB d && S.gone.contains d) = S.gone.contains d := by
  cases hc : S.gone.contains d with
  | false => simp
  | true => rw [h d (List.contains_iff_mem.1 hc)]; rfl
/-- Both streams: the same. -/
structure Both (base : Nat) (w : World) (g mb g' : Nat) (S : Stm) (vL vG : Value) : Prop where
  y : YAt w g mb S
  r : RAt base w g' S vL vG
  bg : base ≤ g
  bm : base ≤ mb
  ok : GoneOk S
theorem two_apart {base : Nat} {w : World} {g mb g' : Nat} {S T : Stm} {vL vG : Value} (hy : YAt w g mb S) (hr : RAt base w g' T vL vG) : ∀ k, RX g' vL vG k → k ≠ g ∧ k ≠ mb := by
  obtain ⟨rg, nx, h1, -, h3, -⟩ := hy
  have key : ∀ k cs t f, w.heap[k]? = some (.cells cs t f) → t ≠ 60 → k ≠ g ∧ k ≠ mb := fun k cs t f hk ht => ⟨tag_ne hk h1.1 ht, fun e => h3.ne hk e.symm⟩
  rintro k (rfl | e | e)
  · exact key _ _ _ _ hr.blk (by decide)
  · obtain ⟨-, cur, hc⟩ := hr.row.lt k e
    exact key _ _ _ _ hc (by decide)
  · obtain ⟨cur, hc⟩ := own_tag hr.gone k e
    exact key _ _ _ _ hc (by decide)
/-- The program's call leaves the document's alone. -/
theorem RAt.past {base : Nat} {w w' : World} {g mb g' : Nat} {S T : Stm} {vL vG : Value} (hr : RAt base w g' T vL vG) (hy : YAt w g mb S) (hf : Fr (fun k => k = g ∨ k = mb) w w') : RAt base w' g' T vL vG :=
  hr.fr hf (by have := two_apart hy hr g' (.inl rfl); omega) (fun k hk => by have := two_apart hy hr k (.inr (.inl hk)); omega) (fun k hk => by have := two_apart hy hr k (.inr (.inr hk)); omega)
theorem YAt.past {base : Nat} {w w' : World} {g mb g' : Nat} {S T : Stm} {vL vG : Value} (hy : YAt w g mb S) (hr : RAt base w g' T vL vG) (hf : Fr (RX g' vL vG) w w') : YAt w' g mb S :=
  hy.fr hf (fun e => (two_apart hy hr g e).1 rfl) (fun e => (two_apart hy hr mb e).2 rfl)
theorem RAt.base_le {base : Nat} {w : World} {g : Nat} {S : Stm} {vL vG : Value} (hr : RAt base w g S vL vG) : ∀ k, RX g vL vG k → base ≤ k := by
  rintro k (rfl | e | e)
  · exact hr.bg
  · exact hr.bL k e
  · exact hr.bG k e
theorem Both.later {base : Nat} {w w' : World} {g mb g' : Nat} {S : Stm} {vL vG : Value} (h : Both base w g mb g' S vL vG) (hf : Fr (fun _ => False) w w') : Both base w' g mb g' S vL vG := ⟨h.y.fr hf id id, h.r.later hf, h.bg, h.bm, h.ok⟩

theorem yints_in (a b : Option Addr) (c d n : Nat) (xs : List Int) (w : World) (h1 : OwnAt w 3 (.slice a n c) (xs.map (Value.int .i64))) (h2 : OwnAt w 3 (.slice b n d) (xs.map (Value.int .i64))) (hn : xs.length = n) (hx : n ≤ 4096) :
    Calls Try.prog 34 #[.slice a n c, .slice b n d] w fun e w' => e = .returned (.bool true) ∧ Fr (fun _ => False) w w' := by
  have H1 : Hid (OwnAt w 3 (.slice a n c) (xs.map (Value.int .i64))) := h1
  have H2 : Hid (OwnAt w 3 (.slice b n d) (xs.map (Value.int .i64))) := h2
  have HN : Hid (xs.length = n) := hn
  clear h1 h2 hn
  go_enter Try.func34, Try.ntmps34
  go_wp2_with (fail)
  go_loopw [5] (fun x5 wr => ∃ i : Nat, x5 = .int .i64 (i : Int) ∧ i ≤ n ∧ Hid (Fr (fun _ => False) w wr)) (fun x5 _ => n - (intOf x5).toNat)
  case atStart => exact ⟨0, rfl, by omega, Fr.refl _ _⟩
  case round =>
    obtain ⟨i, rfl, hin, HF⟩ := hrel
    by_cases hlt : i < n
    · obtain ⟨x, hs⟩ : ∃ s, (xs.map (Value.int .i64))[i]? = some (.int .i64 s) := ⟨xs[i]'(by rw [HN.out]; exact hlt), by rw [List.getElem?_map, List.getElem?_eq_getElem (by rw [HN.out]; exact hlt)]; rfl⟩
      obtain ⟨g1, o1, c1, e1, a0, -⟩ := (H1.out.fr HF.out (fun _ _ => id)).cells i _ hs
      have f1 := (Value.slice.inj e1).1
      subst f1
      obtain ⟨g2, o2, c2, e2, b0, -⟩ := (H2.out.fr HF.out (fun _ _ => id)).cells i _ hs
      have f2 := (Value.slice.inj e2).1
      subst f2
      have hlt2 : (i : Int) < (n : Int) := by omega
      clear hs e1 e2
      go_wp2_with (fail)
      go_quiet (fail)
      go_wp2_with (fail)
      go_roundw
      case rel => exact ⟨i + 1, by go_num, by omega, HF.out.drewN _⟩
      case measure => simp [intOf]; omega
    · go_wp2_with (fail)
      go_ret
      exact ⟨rfl, HF.out⟩
end Go.Proofs.Ytahlhkpabkplfaa
