/- The law's own same: both tell the same. -/
import Derived.Test.YtahlhkpabkplfaaVm
namespace Go.Proofs.Ytahlhkpabkplfaa
open Go.RowKit Go.Maps
set_option linter.unusedVariables false
set_option maxRecDepth 100000
set_option maxHeartbeats 4000000

theorem ysame_in (base g mb g' : Nat) (S : Stm) (vL vG : Value) (d : Int) (w : World) (h : Both base w g mb g' S vL vG) (hd : IsI d) : Calls Try.prog 15 #[.pointer (some ⟨g, 0, none⟩), .pointer (some ⟨g', 0, none⟩), .int .i64 d] w fun e w' => e = .returned (.bool true) ∧ Fr (fun _ => False) w w' := by
  have HB : Hid (Both base w g mb g' S vL vG) := h
  have HS : Hid (∀ W, Hid (Fr (fun _ => False) w W) → W.cell? ⟨g', 5, none⟩ = some (.int .i64 S.theirs)) := fun W hW => (h.r.later hW.out).cells.2.2.2.2.2.1
  obtain ⟨st, hst⟩ : ∃ st, stateS S d = st := ⟨_, rfl⟩
  obtain ⟨dr, hdr⟩ : ∃ dr, S.gone.contains d = dr := ⟨_, rfl⟩
  have K1 : ∀ W, Hid (Fr (fun _ => False) w W) → Calls Try.prog 17 #[.pointer (some ⟨g, 0, none⟩), .int .i64 d] W fun e w' => e = .returned (.int .i64 st) ∧ W = w' := fun W hW => by rw [← hst]; exact yState_in g mb S d W (HB.out.later hW.out).y hd
  have K2 : ∀ W, Hid (Fr (fun _ => False) w W) → Calls Try.prog 32 #[.pointer (some ⟨g', 0, none⟩), .int .i64 d] W fun e w' => e = .returned (.int .i64 st) ∧ W = w' := fun W hW => by rw [← hst]; exact ryState_in base g' S vL vG d W (HB.out.later hW.out).r
  have K3 : ∀ W, Hid (Fr (fun _ => False) w W) → Calls Try.prog 22 #[.pointer (some ⟨g, 0, none⟩), .int .i64 d] W fun e w' => e = .returned (.bool dr) ∧ W = w' := fun W hW => by
    have := yDropped_in g mb S d W (HB.out.later hW.out).y
    rw [gone_num HB.out.ok, hdr] at this
    exact this
  have K4 : ∀ W, Hid (Fr (fun _ => False) w W) → Calls Try.prog 33 #[.pointer (some ⟨g', 0, none⟩), .int .i64 d] W fun e w' => e = .returned (.bool dr) ∧ W = w' := fun W hW => by rw [← hdr]; exact ryDropped_in base g' S vL vG d W (HB.out.later hW.out).r
  obtain ⟨m, hm⟩ : ∃ m, S.L.length = m := ⟨_, rfl⟩
  have hm2 : m ≤ 2048 := by rw [← hm]; exact few_known h.r.inv
  have hml : (listV S).length = m := by unfold listV; rw [List.length_map, List.length_map, hm]
  have K5 : ∀ W, Hid (Fr (fun _ => False) w W) → Calls Try.prog 24 #[.pointer (some ⟨g, 0, none⟩)] W fun e w' => ∃ a c, e = .returned (.slice a m c) ∧ Hid (OwnAt w' 3 (.slice a m c) (listV S)) ∧ Hid (Fr (fun _ => False) w w') := fun W hW => by
    refine (yList_in g mb S W (HB.out.later hW.out).y).mono ?_
    rintro e w' ⟨v, rfl, a1, a2, a3⟩
    obtain ⟨a, c, rfl, -⟩ := a1.form
    rw [hml] at a1 ⊢
    exact ⟨a, c, rfl, a1, hW.out.trans a3⟩
  have K6 : ∀ W, Hid (Fr (fun _ => False) w W) → Calls Try.prog 35 #[.pointer (some ⟨g', 0, none⟩)] W fun e w' => ∃ a c, e = .returned (.slice a m c) ∧ Hid (OwnAt w' 3 (.slice a m c) (listV S)) ∧ Hid (Fr (fun _ => False) w w') ∧ Hid (Fr (fun _ => False) W w') := fun W hW => by
    refine (ryList_in base g' S vL vG W (HB.out.later hW.out).r).mono ?_
    rintro e w' ⟨v, rfl, a1, a2, a3⟩
    change OwnAt w' 3 v (listV S) at a1
    obtain ⟨a, c, rfl, -⟩ := a1.form
    rw [hml] at a1 ⊢
    exact ⟨a, c, rfl, a1, hW.out.trans a3, a3⟩
  have K7 : ∀ a c b e2 W W2, Hid (OwnAt W 3 (.slice a m c) (listV S)) → Hid (Fr (fun _ => False) W W2) → Hid (OwnAt W2 3 (.slice b m e2) (listV S)) → Hid (Fr (fun _ => False) w W2) → Calls Try.prog 34 #[.slice a m c, .slice b m e2] W2 fun e w' => e = .returned (.bool true) ∧ Hid (Fr (fun _ => False) w w') := fun a c b e2 W W2 h1 h2 h3 h4 => by
    refine (yints_in a b c e2 m (S.L.map (fun x : Int × Int => x.1)) W2 (h1.out.fr h2.out (fun _ _ => id)) h3.out (by rw [List.length_map, hm]) (by omega)).mono ?_
    rintro e w' ⟨rfl, hf⟩
    exact ⟨rfl, h4.out.trans hf⟩
  obtain ⟨oc, hoc⟩ : ∃ oc : Bool → Nat, oc = openS S := ⟨_, rfl⟩
  have K8 : ∀ W, Hid (Fr (fun _ => False) w W) → ∀ own, Calls Try.prog 18 #[.pointer (some ⟨g, 0, none⟩), .bool own] W fun e w' => e = .returned (.int .i64 (oc own : Nat)) ∧ W = w' := fun W hW own => by rw [hoc]; exact yOpen_in g mb S own W (HB.out.later hW.out).y
  have K9 : ∀ W, Hid (Fr (fun _ => False) w W) → ∀ own, Calls Try.prog 36 #[.pointer (some ⟨g', 0, none⟩), .bool own] W fun e w' => e = .returned (.int .i64 (oc own : Nat)) ∧ W = w' := fun W hW own => by rw [hoc]; exact ryOpen_in base g' S vL vG own W (HB.out.later hW.out).r
  have K10 : ∀ W, Hid (Fr (fun _ => False) w W) → Calls Try.prog 19 #[.pointer (some ⟨g, 0, none⟩)] W fun e w' => e = .returned (.int .i64 S.theirs) ∧ W = w' := fun W hW => yLast_in g mb S W (HB.out.later hW.out).y
  have W0 : Hid (Fr (fun _ => False) w w.drew) := (Fr.refl _ _).drew
  have c5 : w.cell? ⟨g', 5, none⟩ = some (.int .i64 S.theirs) := HS.out w (Fr.refl _ _)
  clear h hst hdr hm hm2 hml hoc
  go_enter Try.func15, Try.ntmps15
  go_wp2_with (fail)
  go_region_held_law (fun w' => w'.cell? ⟨g', 5, none⟩ = some (.int .i64 S.theirs)) (first | exact c5 | exact HS.out _ P5 | exact HS.out _ P4 | exact HS.out _ P3)
    (first
      | (go_at_call 17; refine (K1 _ W0).mono ?_; rintro e w2 ⟨rfl, rfl⟩)
      | (go_at_call 32; refine (K2 _ W0).mono ?_; rintro e w2 ⟨rfl, rfl⟩)
      | (go_at_call 22; refine (K3 _ W0).mono ?_; rintro e w2 ⟨rfl, rfl⟩)
      | (go_at_call 33; refine (K4 _ W0).mono ?_; rintro e w2 ⟨rfl, rfl⟩)
      | (go_at_call 24; refine (K5 _ W0).mono ?_; rintro e w3 ⟨a3, c3, rfl, L3, P3⟩)
      | (go_at_call 35; refine (K6 _ P3).mono ?_; rintro e w4 ⟨a4, c4, rfl, L4, P4, Q4⟩)
      | (go_at_call 34; refine (K7 _ _ _ _ _ _ L3 Q4 L4 P4).mono ?_; rintro e w5 ⟨rfl, P5⟩)
      | (go_at_call 18; refine (K8 _ P5 _).mono ?_; rintro e w2 ⟨rfl, rfl⟩)
      | (go_at_call 36; refine (K9 _ P5 _).mono ?_; rintro e w2 ⟨rfl, rfl⟩)
      | (go_at_call 19; refine (K10 _ P5).mono ?_; rintro e w2 ⟨rfl, rfl⟩))
  go_wp2_with (fail)
  go_ret
  exact ⟨rfl, P5.out⟩
end Go.Proofs.Ytahlhkpabkplfaa
