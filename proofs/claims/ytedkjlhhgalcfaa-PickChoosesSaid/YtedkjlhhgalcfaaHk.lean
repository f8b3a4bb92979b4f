/- The walks of PickFits, PickTies and PickChooses. -/
import Derived.Test.YtedkjlhhgalcfaaHj
namespace Go.Proofs.Ytedkjlhhgalcfaa
open Go.RowKit
set_option linter.unusedVariables false
set_option maxRecDepth 100000
set_option maxHeartbeats 4000000

theorem fits_walk (q : Option Addr) (c n : Nat) (L : List Bk) (W : World) (h : BacksAt W q c L) (hl : L.length = n) : Calls Try.prog 3 #[.slice q n c] W fun e W' => e = .returned (.bool true) ∧ Below W.heap.size W W' := by
  have HB : Hid (BacksAt W q c L) := h
  have HL : Hid (L.length = n) := hl
  have HX : Hid ((fitL L).length ≤ 6000000000000) := Nat.le_trans (nums_len _ _ _) h.small
  clear h hl
  have K1 := pkFit_in q c n L W HB.out HL.out
  go_enter Try.func3, Try.ntmps3
  go_wp2_with (first
    | (go_at_call 9; refine K1.mono ?_; clear K1; rintro e w1 ⟨a1, m1, c1, rfl, h1⟩; have H1 : Hid (GotS W w1 a1 m1 c1 (fitL L)) := h1; clear h1; have K2 := rpkFit_in q c n L w1 (HB.out.fr H1.out.fr (fun _ _ => id)) HL.out)
    | (go_at_call 10; refine K2.mono ?_; clear K2; rintro e w2 ⟨a2, m2, c2, rfl, h2⟩; have H2 : Hid (GotS w1 w2 a2 m2 c2 (fitL L)) := h2; clear h2; have K3 := pkints_in a1 a2 c1 c2 m1 m2 (fitL L) w2 (H1.out.own.fr H2.out.fr (fun _ _ => id)) H2.out.own HX.out)
    | (go_at_call 8; refine K3.mono ?_; clear K3; rintro e w3 ⟨rfl, f3⟩; have F3 : Hid (Fr (fun _ => False) w2 w3) := f3; clear f3)
    | (go_at_call 11; refine (pkawake_in _).mono ?_; rintro e w4 ⟨rfl, f4⟩))
  go_ret
  exact ⟨rfl, (((H1.out.fr.trans H2.out.fr).trans F3.out).trans f4).below (fun _ _ => id)⟩
theorem ties_walk (q : Option Addr) (c n : Nat) (L : List Bk) (W : World) (h : BacksAt W q c L) (hl : L.length = n) : Calls Try.prog 4 #[.slice q n c] W fun e W' => e = .returned (.bool true) ∧ Below W.heap.size W W' := by
  have hnb : (n : Int) ≤ 6000000000000 := by have := h.small; omega
  have hnc : n ≤ c := by have := h.cap; rw [hl] at this; exact this
  by_cases hn : 2000 < n
  · have hn2 : (2000 : Int) < (n : Int) := by omega
    have hcut := cutB q n c 2000 (by omega) (by omega)
    have HB : Hid (BacksAt W q c (L.take 2000)) := h.cut 2000
    have HL : Hid ((L.take 2000).length = 2000) := by show _ = _; rw [List.length_take]; omega
    have HX : Hid ((tieL (L.take 2000)).length ≤ 6000000000000) := Nat.le_trans (nums_len _ _ _) HB.out.small
    clear h hl
    have K1 := pkTies_in q c 2000 (L.take 2000) W HB.out HL.out
    go_enter Try.func4, Try.ntmps4
    go_wp2_with (first
      | (go_at_call 12; refine K1.mono ?_; clear K1; rintro e w1 ⟨a1, m1, c1, rfl, h1⟩; have H1 : Hid (GotS W w1 a1 m1 c1 (tieL (L.take 2000))) := h1; clear h1; have K2 := rpkTies_in q c 2000 (L.take 2000) w1 (HB.out.fr H1.out.fr (fun _ _ => id)) HL.out)
      | (go_at_call 13; refine K2.mono ?_; clear K2; rintro e w2 ⟨a2, m2, c2, rfl, h2⟩; have H2 : Hid (GotS w1 w2 a2 m2 c2 (tieL (L.take 2000))) := h2; clear h2; have K3 := pkints_in a1 a2 c1 c2 m1 m2 (tieL (L.take 2000)) w2 (H1.out.own.fr H2.out.fr (fun _ _ => id)) H2.out.own HX.out)
      | (go_at_call 8; refine K3.mono ?_; clear K3; rintro e w3 ⟨rfl, f3⟩; have F3 : Hid (Fr (fun _ => False) w2 w3) := f3; clear f3)
      | (go_at_call 11; refine (pkawake_in _).mono ?_; rintro e w4 ⟨rfl, f4⟩))
    go_ret
    exact ⟨rfl, (((H1.out.fr.trans H2.out.fr).trans F3.out).trans f4).below (fun _ _ => id)⟩
  · have hn2 : ¬ (2000 : Int) < (n : Int) := by omega
    have HB : Hid (BacksAt W q c L) := h
    have HL : Hid (L.length = n) := hl
    have HX : Hid ((tieL L).length ≤ 6000000000000) := Nat.le_trans (nums_len _ _ _) HB.out.small
    clear h hl
    have K1 := pkTies_in q c n L W HB.out HL.out
    go_enter Try.func4, Try.ntmps4
    go_wp2_with (first
      | (go_at_call 12; refine K1.mono ?_; clear K1; rintro e w1 ⟨a1, m1, c1, rfl, h1⟩; have H1 : Hid (GotS W w1 a1 m1 c1 (tieL L)) := h1; clear h1; have K2 := rpkTies_in q c n L w1 (HB.out.fr H1.out.fr (fun _ _ => id)) HL.out)
      | (go_at_call 13; refine K2.mono ?_; clear K2; rintro e w2 ⟨a2, m2, c2, rfl, h2⟩; have H2 : Hid (GotS w1 w2 a2 m2 c2 (tieL L)) := h2; clear h2; have K3 := pkints_in a1 a2 c1 c2 m1 m2 (tieL L) w2 (H1.out.own.fr H2.out.fr (fun _ _ => id)) H2.out.own HX.out)
      | (go_at_call 8; refine K3.mono ?_; clear K3; rintro e w3 ⟨rfl, f3⟩; have F3 : Hid (Fr (fun _ => False) w2 w3) := f3; clear f3)
      | (go_at_call 11; refine (pkawake_in _).mono ?_; rintro e w4 ⟨rfl, f4⟩))
    go_ret
    exact ⟨rfl, (((H1.out.fr.trans H2.out.fr).trans F3.out).trans f4).below (fun _ _ => id)⟩
theorem chooses_walk (q : Option Addr) (c n : Nat) (L : List Bk) (d : Int) (W : World) (h : BacksAt W q c L) (hl : L.length = n) (hd : IsI d) : Calls Try.prog 5 #[.slice q n c, .int .i64 d] W fun e W' => e = .returned (.bool true) ∧ Below W.heap.size W W' := by
  have HD : Hid (IsI d) := hd
  clear hd
  have hnb : (n : Int) ≤ 6000000000000 := by have := h.small; omega
  have hnc : n ≤ c := by have := h.cap; rw [hl] at this; exact this
  by_cases hn : 2000 < n
  · have hn2 : (2000 : Int) < (n : Int) := by omega
    have hcut := cutB q n c 2000 (by omega) (by omega)
    have HB : Hid (BacksAt W q c (L.take 2000)) := h.cut 2000
    have HL : Hid ((L.take 2000).length = 2000) := by show _ = _; rw [List.length_take]; omega
    clear h hl
    have K1 := pkChoose_in q c 2000 (L.take 2000) d W HB.out HL.out HD.out
    go_enter Try.func5, Try.ntmps5
    go_wp2_with (first
      | (go_at_call 14; refine K1.mono ?_; clear K1; rintro e w1 ⟨rfl, f1⟩; have F1 : Hid (Fr (fun _ => False) W w1) := f1; clear f1; have K2 := rpkChoose_in q c 2000 (L.take 2000) d w1 (HB.out.fr F1.out (fun _ _ => id)) HL.out HD.out)
      | (go_at_call 15; refine K2.mono ?_; clear K2; rintro e w2 ⟨rfl, f2⟩; have F2 : Hid (Fr (fun _ => False) w1 w2) := f2; clear f2)
      | (go_at_call 11; refine (pkawake_in _).mono ?_; rintro e w4 ⟨rfl, f4⟩))
    go_ret
    exact ⟨rfl, ((F1.out.trans F2.out).trans f4).below (fun _ _ => id)⟩
  · have hn2 : ¬ (2000 : Int) < (n : Int) := by omega
    have HB : Hid (BacksAt W q c L) := h
    have HL : Hid (L.length = n) := hl
    clear h hl
    have K1 := pkChoose_in q c n L d W HB.out HL.out HD.out
    go_enter Try.func5, Try.ntmps5
    go_wp2_with (first
      | (go_at_call 14; refine K1.mono ?_; clear K1; rintro e w1 ⟨rfl, f1⟩; have F1 : Hid (Fr (fun _ => False) W w1) := f1; clear f1; have K2 := rpkChoose_in q c n L d w1 (HB.out.fr F1.out (fun _ _ => id)) HL.out HD.out)
      | (go_at_call 15; refine K2.mono ?_; clear K2; rintro e w2 ⟨rfl, f2⟩; have F2 : Hid (Fr (fun _ => False) w1 w2) := f2; clear f2)
      | (go_at_call 11; refine (pkawake_in _).mono ?_; rintro e w4 ⟨rfl, f4⟩))
    go_ret
    exact ⟨rfl, ((F1.out.trans F2.out).trans f4).below (fun _ _ => id)⟩
end Go.Proofs.Ytedkjlhhgalcfaa
