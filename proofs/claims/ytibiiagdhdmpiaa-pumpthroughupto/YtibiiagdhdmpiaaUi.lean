/- The walk of PumpCuts. -/
import Derived.Test.YtibiiagdhdmpiaaUh
namespace Go.Proofs.Ytibiiagdhdmpiaa
open Go.RowKit
set_option linter.unusedVariables false
set_option maxRecDepth 100000
set_option maxHeartbeats 4000000

theorem SrcAt.lt {w : World} {sp : Option Addr} {X : List UInt8} (h : SrcAt w sp X) (a : Addr) (ha : sp = some a) (h0 : 0 < X.length) : a.block < w.heap.size := by
  obtain ⟨ad, e, hc⟩ := h 0 X[0] (List.getElem?_eq_getElem h0)
  rw [ha] at e
  cases e
  have := World.block_lt_of_cell? _ _ hc
  simpa [Addr.add] using this
theorem ucuts_walk (e0 : Nat) (he0 : e0 ≤ 255) (fq1 : Option Addr) (fc1 : Nat) (X1 : List UInt8) (q2 : Option Addr) (c2 : Nat) (l2 : List Hd) (a3 : Bool) (w : World) (hX1 : SrcAt w fq1 X1) (hcp1 : X1.length ≤ fc1) (hO2 : HL w q2 c2 l2) :
    Calls Try.prog 6 #[.int .u8 e0, .slice fq1 X1.length fc1, .slice q2 l2.length c2, .bool a3] w fun e w' => e = .returned (.bool true) ∧ Below w.heap.size w w' := by
  have KN := nNew e0 w (by omega)
  have HX : Hid (∀ w', Fr (fun _ => False) w w' → SrcAt w' fq1 X1) := fun w' f => hX1.fr f (fun _ _ _ => id)
  have HA : Hid (∀ a, fq1 = some a → 0 < X1.length → a.block < w.heap.size ∨ False) := fun a ha h0 => .inl (hX1.lt a ha h0)
  have HH : Hid (∀ w', Fr (fun _ => False) w w' → HL w' q2 c2 l2) := fun w' f => hO2.fr f (fun _ _ _ => id)
  have HB : Hid (∀ a, q2 = some a → 0 < l2.length → a.block < w.heap.size ∨ False) := fun a ha h0 => .inl (hO2.lt a ha h0)
  have HC : Hid (X1.length ≤ fc1) := hcp1
  obtain ⟨N1, hN1⟩ : ∃ N1, X1.length = N1 := ⟨_, rfl⟩
  obtain ⟨N2, hN2⟩ : ∃ N2, l2.length = N2 := ⟨_, rfl⟩
  have KP : Hid (∀ (W : World) (b : Nat) (L : List UInt8) (op : Bool) (T : Option (List Hd)), PuF w W (fun _ => False) b L e0 op T → Calls Try.prog 15 #[.pointer (some ⟨b, 0, none⟩), .slice fq1 N1 fc1] W fun e w' => e = .returned (.int .i64 (putE op L e0 X1)) ∧ PuF w w' (fun _ => False) b (putL op L e0 X1) e0 op T) := fun W b L op T h => by
    have K := h.put fq1 fc1 X1 (HX.out W h.fr) HC.out HA.out
    rw [hN1] at K
    exact K.mono (fun e w' h => ⟨h.1, h.2.1⟩)
  have KT : Hid (∀ (W : World) (b : Nat) (L : List UInt8) (op : Bool) (T : Option (List Hd)), PuF w W (fun _ => False) b L e0 op T → Calls Try.prog 18 #[.pointer (some ⟨b, 0, none⟩), .slice q2 N2 c2] W fun e w' => e = .returned (.int .i64 (shutE op)) ∧ PuF w w' (fun _ => False) b L e0 false (tailT op T l2)) := fun W b L op T h => by
    have K := h.tail q2 c2 l2 (HH.out W h.fr) HB.out
    rw [hN2] at K
    exact K.mono (fun e w' h => ⟨h.1, h.2.1⟩)
  rw [hN1, hN2]
  clear hX1 hO2 hcp1 hN1 hN2 HX HA HH HB HC
  go_enter Try.func6, Try.ntmps6
  go_wp2_with (fail)
  refine KN.mono ?_
  rintro e w1 ⟨b, rfl, h1⟩
  have H1 : Hid (PuF w w1 (fun _ => False) b [] e0 true none) := h1
  clear h1 KN
  go_wp2_with (fail)
  refine (KP.out w1 b _ _ _ H1.out).mono ?_
  rintro e w2 ⟨rfl, h2⟩
  obtain ⟨L2, hL2⟩ : ∃ L2, putL true [] e0 X1 = L2 := ⟨_, rfl⟩
  rw [hL2] at h2
  have H2 : Hid (PuF w w2 (fun _ => False) b L2 e0 true none) := h2
  clear h2 hL2 H1
  cases a3
  case' true =>
    go_wp2_with (fail)
    refine (KT.out w2 b _ _ _ H2.out).mono ?_
    rintro e w3 ⟨rfl, h3⟩
    obtain ⟨T3, hT3⟩ : ∃ T3, tailT true none l2 = T3 := ⟨_, rfl⟩
    rw [hT3] at h3
    obtain ⟨o3, ho3⟩ : ∃ o3, false = o3 := ⟨_, rfl⟩
    rw [ho3] at h3
    have H3 : Hid (PuF w w3 (fun _ => False) b L2 e0 o3 T3) := h3
    clear h3 hT3 H2 ho3
  case' false =>
    obtain ⟨w3, hw3⟩ : ∃ w3, w3 = w2 := ⟨_, rfl⟩
    rw [← hw3] at H2 ⊢
    clear hw3
    obtain ⟨T3, hT3⟩ : ∃ T3 : Option (List Hd), none = T3 := ⟨_, rfl⟩
    obtain ⟨o3, ho3⟩ : ∃ o3, true = o3 := ⟨_, rfl⟩
    rw [hT3, ho3] at H2
    have H3 : Hid (PuF w w3 (fun _ => False) b L2 e0 o3 T3) := H2.out
    clear hT3 H2 ho3
  all_goals
    go_wp2_with (fail)
    refine H3.out.cut.mono ?_
    rintro e w4 ⟨rfl, h4, -⟩
    have H4 : Hid (PuF w w4 (fun _ => False) b [] e0 false none) := h4
    clear h4 H3
    go_wp2_with (fail)
    refine (H4.out.next 100 0 (by simp only [List.length_nil]; omega)).mono ?_
    rintro e w5 ⟨d, rfl, -, -, h5, -⟩
    have H5 : Hid (PuF w w5 (fun _ => False) b [] e0 false none) := h5
    clear h5 H4
    go_wp2_with (fail)
    refine H5.out.last.mono ?_
    rintro e w6 ⟨q, c, rfl, -, h6, -⟩
    have H6 : Hid (PuF w w6 (fun _ => False) b [] e0 false none) := h6
    clear h6 H5
    have KR : Hid (Calls Try.prog 11 #[.pointer (some ⟨b, 0, none⟩)] w6 fun e w' => e = .returned (.int .i64 (e0 : Int)) ∧ ∃ n, w' = w6.drewN n) := H6.out.room
    have KL : Hid (Calls Try.prog 10 #[.pointer (some ⟨b, 0, none⟩)] w6 fun e w' => e = .returned (.int .i64 0) ∧ w6 = w') := H6.out.len
    go_wp2_with (fail)
    refine KL.out.mono ?_
    rintro e w7 ⟨rfl, rfl⟩
    go_wp2_with (fail)
    refine KR.out.mono ?_
    rintro e w7 ⟨rfl, n, rfl⟩
    have H7 : Hid (PuF w (w6.drewN n) (fun _ => False) b [] e0 false none) := H6.out.quiet ((Fr.refl _ _).drewN n)
    obtain ⟨w7, hw7⟩ : ∃ w7, w7 = w6.drewN n := ⟨_, rfl⟩
    rw [← hw7] at H7 ⊢
    clear hw7 H6 KR KL
    go_wp2_with (fail)
    refine H7.out.isopen.mono ?_
    rintro e w8 ⟨rfl, rfl⟩
    go_wp2_with (fail)
    refine (KP.out w7 b _ _ _ H7.out).mono ?_
    rintro e w8 ⟨rfl, h8⟩
    have H8 : Hid (PuF w w8 (fun _ => False) b [] e0 false none) := h8
    clear h8 H7
    go_wp2_with (fail)
    refine H8.out.shut.mono ?_
    rintro e w9 ⟨rfl, h9, -⟩
    have H9 : Hid (PuF w w9 (fun _ => False) b [] e0 false none) := h9
    clear h9 H8
    go_wp2_with (fail)
    refine (KT.out w9 b _ _ _ H9.out).mono ?_
    rintro e w10 ⟨rfl, h10⟩
    have HF : Hid (Fr (fun _ => False) w w10) := h10.fr
    clear h10 H9
    go_wp2
    go_ret
    exact ⟨rfl, HF.out.below (fun _ _ => id)⟩
end Go.Proofs.Ytibiiagdhdmpiaa
