/- Requests, responses and trailers: the program's. -/
import Derived.Test.YtplggcfoadjffaaGreatDoorOo
namespace Go.Proofs.YtplggcfoadjffaaGreatDoor
open Go.RowKit Go.Maps
set_option linter.unusedVariables false
set_option maxRecDepth 100000
set_option maxHeartbeats 8000000

def reqS : List ByteArray := [⟨#[58, 109, 101, 116, 104, 111, 100]⟩, ⟨#[58, 115, 99, 104, 101, 109, 101]⟩, ⟨#[58, 97, 117, 116, 104, 111, 114, 105, 116, 121]⟩, ⟨#[58, 112, 97, 116, 104]⟩, ⟨#[58, 112, 114, 111, 116, 111, 99, 111, 108]⟩]
def resS : List ByteArray := [⟨#[58, 115, 116, 97, 116, 117, 115]⟩]
theorem reqS_tx : reqS.map tx = mayR := rfl
theorem resS_tx : resS.map tx = [sStatus] := rfl
theorem strs_new (w : World) (zs : List ByteArray) (t : TypeId) (hz : zs.length ≤ 1000) : StrsAt (w.alloc (.cells (zs.map Value.string).toArray t)) (some ⟨w.heap.size, 0, none⟩) zs := by
  refine ⟨hz, fun r z hr => ⟨w.heap.size, 0, rfl, by simp, ?_⟩⟩
  rw [World.cell?_alloc_at _ _ _ _ (by simp)]
  simp [hr]
theorem strs_nil (w : World) : StrsAt w none [] := ⟨by simp, fun r z hr => by simp at hr⟩
theorem Request_in (q : Option Addr) (c : Nat) (l : List Hd) (w : World) (hl : HL w q c l) (hE : ErrAt w) :
    Calls Tryz.prog 17 #[.slice q l.length c] w fun e w' => e = .returned (.int .i64 (requestO l)) ∧ Fr (fun _ => False) w w' := by
  obtain ⟨W0, hW0⟩ : ∃ W0, w.alloc (.cells #[.string ⟨#[58, 109, 101, 116, 104, 111, 100]⟩, .string ⟨#[58, 115, 99, 104, 101, 109, 101]⟩, .string ⟨#[58, 97, 117, 116, 104, 111, 114, 105, 116, 121]⟩, .string ⟨#[58, 112, 97, 116, 104]⟩, .string ⟨#[58, 112, 114, 111, 116, 111, 99, 111, 108]⟩] 9) = W0 := ⟨_, rfl⟩
  have f0 : Fr (fun _ => False) w W0 := by rw [← hW0]; exact (Fr.refl _ _).alloc _
  have hz : StrsAt W0 (some ⟨w.heap.size, 0, none⟩) reqS := by rw [← hW0]; exact strs_new w reqS 9 (by decide)
  have KL : Calls Tryz.prog 35 #[.slice q l.length c, .slice (some ⟨w.heap.size, 0, none⟩) 5 5] W0 fun e w' => LookAs W0 mayR l e w' := look_in q _ c 5 l reqS W0 (hl.fr f0) hz
  have KLn : Hid (∀ W, Fr (fun _ => False) w W → Calls Tryz.prog 37 #[.slice q l.length c] W fun e w' => e = .returned (lengthV l) ∧ Fr (fun _ => False) W w') := fun W f => Length_in q c l W (hl.fr f) (hE.fr f)
  have KM : Hid (∀ W b n, SMap W b n (gotV l) → Calls Tryz.prog 36 #[.map (some b)] W fun e w' => e = .returned (.bool (wholeB l)) ∧ Fr (fun _ => False) W w') := fun W b n hm => Make_in b n l W hm
  have HR : Hid (requestO l = if eachO mayR [] l = 0 then (if wholeB l then (lengthO l).2.2 else 132) else eachO mayR [] l) := rfl
  unfold LookAs at KL
  unfold lengthV at KLn
  generalize requestO l = V at HR ⊢
  generalize eachO mayR [] l = E at HR KL
  generalize wholeB l = wb at HR KM
  generalize (((lengthO l).1 : Nat) : Int) = ln at KLn
  generalize (lengthO l).2.1 = lb at KLn
  generalize (lengthO l).2.2 = le at HR KLn
  generalize l.length = len at KL KLn ⊢
  by_cases hE0 : E = 0
  · subst hE0
    have KL2 : Calls Tryz.prog 35 #[.slice q len c, .slice (some ⟨w.heap.size, 0, none⟩) 5 5] W0 fun e w' => Fr (fun _ => False) W0 w' ∧ ∃ b n, e = .returned (.tuple #[.map (some b), .int .i64 0]) ∧ SMap w' b n (gotV l) := KL.mono fun e w' h => by
      obtain ⟨h1, h2 | h2⟩ := h
      · exact absurd rfl h2.1
      · exact ⟨h1, h2.2⟩
    have HR2 : Hid (V = if wb then le else 132) := by have := HR.out; rwa [if_pos rfl] at this
    clear KL HR
    cases wb with
    | false =>
      have hv : V = 132 := HR2.out
      clear HR2 KLn
      subst hv
      go_enter Tryz.func17, Tryz.ntmps17
      go_wp2_with (fail)
      refine KL2.mono ?_
      rintro e w1 ⟨f1, b, n, rfl, hm⟩
      go_wp2_with (fail)
      refine (KM.out _ _ _ hm).mono ?_
      rintro e w2 ⟨rfl, f2⟩
      go_wp2_with (fail)
      go_ret
      exact ⟨rfl, (f0.trans f1).trans f2⟩
    | true =>
      have hv : V = le := HR2.out
      clear HR2
      subst hv
      go_enter Tryz.func17, Tryz.ntmps17
      go_wp2_with (fail)
      refine KL2.mono ?_
      rintro e w1 ⟨f1, b, n, rfl, hm⟩
      go_wp2_with (fail)
      refine (KM.out _ _ _ hm).mono ?_
      rintro e w2 ⟨rfl, f2⟩
      go_wp2_with (fail)
      refine (KLn.out _ ((f0.trans f1).trans f2)).mono ?_
      rintro e w3 ⟨rfl, f3⟩
      go_wp2_with (fail)
      go_ret
      exact ⟨rfl, ((f0.trans f1).trans f2).trans f3⟩
  · have KL2 : Calls Tryz.prog 35 #[.slice q len c, .slice (some ⟨w.heap.size, 0, none⟩) 5 5] W0 fun e w' => Fr (fun _ => False) W0 w' ∧ e = .returned (.tuple #[.map none, .int .i64 E]) := KL.mono fun e w' h => by
      obtain ⟨h1, h2 | h2⟩ := h
      · exact ⟨h1, h2.2⟩
      · exact absurd h2.1 hE0
    have hv : V = E := by have := HR.out; rwa [if_neg hE0] at this
    have hne : (E == 0) = false := beq_eq_false_iff_ne.2 hE0
    have hne2 : (E != 0) = true := by unfold bne; rw [hne]; rfl
    clear KL HR KLn KM
    subst hv
    go_enter Tryz.func17, Tryz.ntmps17
    go_wp2_with (fail)
    refine KL2.mono ?_
    rintro e w1 ⟨f1, rfl⟩
    go_wp2_with (fail)
    go_ret
    exact ⟨rfl, f0.trans f1⟩
theorem Response_in (q : Option Addr) (c : Nat) (l : List Hd) (w : World) (hl : HL w q c l) (hE : ErrAt w) :
    Calls Tryz.prog 28 #[.slice q l.length c] w fun e w' => e = .returned (.tuple #[.int .i64 (((responseO l).1 : Nat) : Int), .int .i64 (responseO l).2]) ∧ Fr (fun _ => False) w w' := by
  obtain ⟨W0, hW0⟩ : ∃ W0, w.alloc (.cells #[.string ⟨#[58, 115, 116, 97, 116, 117, 115]⟩] 9) = W0 := ⟨_, rfl⟩
  have f0 : Fr (fun _ => False) w W0 := by rw [← hW0]; exact (Fr.refl _ _).alloc _
  have hz : StrsAt W0 (some ⟨w.heap.size, 0, none⟩) resS := by rw [← hW0]; exact strs_new w resS 9 (by decide)
  have KL : Calls Tryz.prog 35 #[.slice q l.length c, .slice (some ⟨w.heap.size, 0, none⟩) 1 1] W0 fun e w' => LookAs W0 [sStatus] l e w' := look_in q _ c 1 l resS W0 (hl.fr f0) hz
  have KLn : Hid (∀ W, Fr (fun _ => False) w W → Calls Tryz.prog 37 #[.slice q l.length c] W fun e w' => e = .returned (lengthV l) ∧ Fr (fun _ => False) W w') := fun W f => Length_in q c l W (hl.fr f) (hE.fr f)
  have KM : Hid (∀ W b n, Fr (fun _ => False) w W → SMap W b n (gotV l) → Calls Tryz.prog 52 #[.map (some b)] W fun e w' => e = .returned (statV l) ∧ Fr (fun _ => False) W w') := fun W b n f hm => Status_in b n l W hm (hE.fr f)
  have HR : Hid (responseO l = if eachO [sStatus] [] l = 0 then (if statusB (valO l sStatus) then (if (lengthO l).2.2 = 0 then (numL (valO l sStatus), 0) else (0, (lengthO l).2.2)) else (0, 132)) else (0, eachO [sStatus] [] l)) := rfl
  unfold LookAs at KL
  unfold lengthV at KLn
  unfold statV at KM
  generalize responseO l = V at HR ⊢
  generalize eachO [sStatus] [] l = E at HR KL
  generalize statusB (valO l sStatus) = sb at HR KM
  generalize numL (valO l sStatus) = N at HR KM
  generalize (((lengthO l).1 : Nat) : Int) = ln at KLn
  generalize (lengthO l).2.1 = lb at KLn
  generalize (lengthO l).2.2 = le at HR KLn
  generalize l.length = len at KL KLn ⊢
  by_cases hE0 : E = 0
  · subst hE0
    have KL2 : Calls Tryz.prog 35 #[.slice q len c, .slice (some ⟨w.heap.size, 0, none⟩) 1 1] W0 fun e w' => Fr (fun _ => False) W0 w' ∧ ∃ b n, e = .returned (.tuple #[.map (some b), .int .i64 0]) ∧ SMap w' b n (gotV l) := KL.mono fun e w' h => by
      obtain ⟨h1, h2 | h2⟩ := h
      · exact absurd rfl h2.1
      · exact ⟨h1, h2.2⟩
    have HR2 : Hid (V = if sb then (if le = 0 then (N, 0) else (0, le)) else (0, 132)) := by have := HR.out; rwa [if_pos rfl] at this
    clear KL HR
    cases sb with
    | false =>
      have hv : V = (0, 132) := HR2.out
      have KM2 : Hid (∀ W b n, Fr (fun _ => False) w W → SMap W b n (gotV l) → Calls Tryz.prog 52 #[.map (some b)] W fun e w' => e = .returned (.tuple #[.int .i64 0, .bool false]) ∧ Fr (fun _ => False) W w') := KM.out
      clear HR2 KLn KM
      subst hv
      go_enter Tryz.func28, Tryz.ntmps28
      go_wp2_with (fail)
      refine KL2.mono ?_
      rintro e w1 ⟨f1, b, n, rfl, hm⟩
      go_wp2_with (fail)
      refine (KM2.out _ _ _ (f0.trans f1) hm).mono ?_
      rintro e w2 ⟨rfl, f2⟩
      go_wp2_with (fail)
      go_ret2
      exact ⟨rfl, (f0.trans f1).trans f2⟩
    | true =>
      have KM2 : Hid (∀ W b n, Fr (fun _ => False) w W → SMap W b n (gotV l) → Calls Tryz.prog 52 #[.map (some b)] W fun e w' => e = .returned (.tuple #[.int .i64 (N : Int), .bool true]) ∧ Fr (fun _ => False) W w') := KM.out
      by_cases hle : le = 0
      · have hv : V = (N, 0) := by have := HR2.out; rwa [if_pos rfl, if_pos hle] at this
        clear HR2 KM
        subst hv
        subst hle
        go_enter Tryz.func28, Tryz.ntmps28
        go_wp2_with (fail)
        refine KL2.mono ?_
        rintro e w1 ⟨f1, b, n, rfl, hm⟩
        go_wp2_with (fail)
        refine (KM2.out _ _ _ (f0.trans f1) hm).mono ?_
        rintro e w2 ⟨rfl, f2⟩
        go_wp2_with (fail)
        refine (KLn.out _ ((f0.trans f1).trans f2)).mono ?_
        rintro e w3 ⟨rfl, f3⟩
        go_wp2_with (fail)
        go_ret2
        exact ⟨rfl, ((f0.trans f1).trans f2).trans f3⟩
      · have hv : V = (0, le) := by have := HR2.out; rwa [if_pos rfl, if_neg hle] at this
        have hne : (le == 0) = false := beq_eq_false_iff_ne.2 hle
        have hne2 : (le != 0) = true := by unfold bne; rw [hne]; rfl
        clear HR2 KM
        subst hv
        go_enter Tryz.func28, Tryz.ntmps28
        go_wp2_with (fail)
        refine KL2.mono ?_
        rintro e w1 ⟨f1, b, n, rfl, hm⟩
        go_wp2_with (fail)
        refine (KM2.out _ _ _ (f0.trans f1) hm).mono ?_
        rintro e w2 ⟨rfl, f2⟩
        go_wp2_with (fail)
        refine (KLn.out _ ((f0.trans f1).trans f2)).mono ?_
        rintro e w3 ⟨rfl, f3⟩
        go_wp2_with (fail)
        go_ret2
        exact ⟨rfl, ((f0.trans f1).trans f2).trans f3⟩
  · have KL2 : Calls Tryz.prog 35 #[.slice q len c, .slice (some ⟨w.heap.size, 0, none⟩) 1 1] W0 fun e w' => Fr (fun _ => False) W0 w' ∧ e = .returned (.tuple #[.map none, .int .i64 E]) := KL.mono fun e w' h => by
      obtain ⟨h1, h2 | h2⟩ := h
      · exact ⟨h1, h2.2⟩
      · exact absurd h2.1 hE0
    have hv : V = (0, E) := by have := HR.out; rwa [if_neg hE0] at this
    have hne : (E == 0) = false := beq_eq_false_iff_ne.2 hE0
    have hne2 : (E != 0) = true := by unfold bne; rw [hne]; rfl
    clear KL HR KLn KM
    subst hv
    go_enter Tryz.func28, Tryz.ntmps28
    go_wp2_with (fail)
    refine KL2.mono ?_
    rintro e w1 ⟨f1, rfl⟩
    go_wp2_with (fail)
    go_ret2
    exact ⟨rfl, f0.trans f1⟩
end Go.Proofs.YtplggcfoadjffaaGreatDoor
