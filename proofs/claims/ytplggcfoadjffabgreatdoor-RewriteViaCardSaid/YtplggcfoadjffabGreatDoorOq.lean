/- Requests, responses and trailers: the program's. -/
import Derived.Test.YtplggcfoadjffabGreatDoorOo
namespace Go.Proofs.YtplggcfoadjffabGreatDoor
open Go.RowKit Go.Maps
set_option linter.unusedVariables false
set_option maxRecDepth 100000
set_option maxHeartbeats 8000000

def reqS : List ByteArray := [⟨#[58, 109, 101, 116, 104, 111, 100]⟩, ⟨#[58, 115, 99, 104, 101, 109, 101]⟩, ⟨#[58, 97, 117, 116, 104, 111, 114, 105, 116, 121]⟩, ⟨#[58, 112, 97, 116, 104]⟩, ⟨#[58, 112, 114, 111, 116, 111, 99, 111, 108]⟩]
def resS : List ByteArray := [⟨#[58, 115, 116, 97, 116, 117, 115]⟩]
theorem reqS_tx : reqS.map tx = mayR := rfl
theorem resS_tx : resS.map tx = [sStatus] := rfl
theorem strs_new (w : World) (zs : List ByteArray) (t : TypeId) (hz : zs.length ≤ 1000) : StrsAt (w.alloc (.cells (zs.map Value.string).toArray t)) (some ⟨w.heap.size, 0, none⟩) zs := by
  refine ⟨hz, fun r z hr => ⟨w.heap.size, 0, rfl, by simp, ?_⟩⟩
  rw [World.cell?_alloc_at _ _ _ _ (by simp)]
  simp [hr]
theorem strs_nil (w : World) : StrsAt w none [] := ⟨by simp, fun r z hr => by simp at hr⟩
theorem Request_in (q : Option Addr) (c : Nat) (l : List Hd) (w : World) (hl : HL w q c l) (hE : ErrAt w) :
    Calls Tryz.prog 7 #[.slice q l.length c] w fun e w' => e = .returned (.int .i64 (requestO l)) ∧ Fr (fun _ => False) w w' := by
  obtain ⟨W0, hW0⟩ : ∃ W0, w.alloc (.cells #[.string ⟨#[58, 109, 101, 116, 104, 111, 100]⟩, .string ⟨#[58, 115, 99, 104, 101, 109, 101]⟩, .string ⟨#[58, 97, 117, 116, 104, 111, 114, 105, 116, 121]⟩, .string ⟨#[58, 112, 97, 116, 104]⟩, .string ⟨#[58, 112, 114, 111, 116, 111, 99, 111, 108]⟩] 9) = W0 := ⟨_, rfl⟩
  have f0 : Fr (fun _ => False) w W0 := by rw [← hW0]; exact (Fr.refl _ _).alloc _
  have hz : StrsAt W0 (some ⟨w.heap.size, 0, none⟩) reqS := by rw [← hW0]; exact strs_new w reqS 9 (by decide)
  have KL : Calls Tryz.prog 15 #[.slice q l.length c, .slice (some ⟨w.heap.size, 0, none⟩) 5 5] W0 fun e w' => LookAs W0 mayR l e w' := look_in q _ c 5 l reqS W0 (hl.fr f0) hz
  have KLn : Hid (∀ W, Fr (fun _ => False) w W → Calls Tryz.prog 17 #[.slice q l.length c] W fun e w' => e = .returned (lengthV l) ∧ Fr (fun _ => False) W w') := fun W f => Length_in q c l W (hl.fr f) (hE.fr f)
  have KM : Hid (∀ W b n, SMap W b n (gotV l) → Calls Tryz.prog 16 #[.map (some b)] W fun e w' => e = .returned (.bool (wholeB l)) ∧ Fr (fun _ => False) W w') := fun W b n hm => Make_in b n l W hm
  have HR : Hid (requestO l = if eachO mayR [] l = 0 then (if wholeB l then (lengthO l).2.2 else 132) else eachO mayR [] l) := rfl
  unfold LookAs at KL
  unfold lengthV at KLn
  generalize requestO l = V at HR ⊢
  generalize eachO mayR [] l = E at HR KL
  generalize wholeB l = wb at HR KM
  generalize (((lengthO l).1 : Nat) : Int) = ln at KLn
  generalize (lengthO l).2.1 = lb at KLn
  generalize (lengthO l).2.2 = le at HR KLn
  generalize l.length = len at KL KLn ⊢
  by_cases hE0 : E = 0
  · subst hE0
    have KL2 : Calls Tryz.prog 15 #[.slice q len c, .slice (some ⟨w.heap.size, 0, none⟩) 5 5] W0 fun e w' => Fr (fun _ => False) W0 w' ∧ ∃ b n, e = .returned (.tuple #[.map (some b), .int .i64 0]) ∧ SMap w' b n (gotV l) := KL.mono fun e w' h => by
      obtain ⟨h1, h2 | h2⟩ := h
      · exact absurd rfl h2.1
      · exact ⟨h1, h2.2⟩
    have HR2 : Hid (V = if wb then le else 132) := by have := HR.out; rwa [if_pos rfl] at this
    clear KL HR
    cases wb with
    | false =>
      have hv : V = 132 := HR2.out
      clear HR2 KLn
      subst hv
      go_enter Tryz.func7, Tryz.ntmps7
      go_wp2_with (fail)
      refine KL2.mono ?_
      rintro e w1 ⟨f1, b, n, rfl, hm⟩
      go_wp2_with (fail)
      refine (KM.out _ _ _ hm).mono ?_
      rintro e w2 ⟨rfl, f2⟩
      go_wp2_with (fail)
      go_ret
      exact ⟨rfl, (f0.trans f1).trans f2⟩
    | true =>
      have hv : V = le := HR2.out
      clear HR2
      subst hv
      go_enter Tryz.func7, Tryz.ntmps7
      go_wp2_with (fail)
      refine KL2.mono ?_
      rintro e w1 ⟨f1, b, n, rfl, hm⟩
      go_wp2_with (fail)
      refine (KM.out _ _ _ hm).mono ?_
      rintro e w2 ⟨rfl, f2⟩
      go_wp2_with (fail)
      refine (KLn.out _ ((f0.trans f1).trans f2)).mono ?_
      rintro e w3 ⟨rfl, f3⟩
      go_wp2_with (fail)
      go_ret
      exact ⟨rfl, ((f0.trans f1).trans f2).trans f3⟩
  · have KL2 : Calls Tryz.prog 15 #[.slice q len c, .slice (some ⟨w.heap.size, 0, none⟩) 5 5] W0 fun e w' => Fr (fun _ => False) W0 w' ∧ e = .returned (.tuple #[.map none, .int .i64 E]) := KL.mono fun e w' h => by
      obtain ⟨h1, h2 | h2⟩ := h
      · exact ⟨h1, h2.2⟩
      · exact absurd h2.1 hE0
    have hv : V = E := by have := HR.out; rwa [if_neg hE0] at this
    have hne : (E == 0) = false := beq_eq_false_iff_ne.2 hE0
    have hne2 : (E != 0) = true := by unfold bne; rw [hne]; rfl
    clear KL HR KLn KM
    subst hv
    go_enter Tryz.func7, Tryz.ntmps7
    go_wp2_with (fail)
    refine KL2.mono ?_
    rintro e w1 ⟨f1, rfl⟩
    go_wp2_with (fail)
    go_ret
    exact ⟨rfl, f0.trans f1⟩
end Go.Proofs.YtplggcfoadjffabGreatDoor
