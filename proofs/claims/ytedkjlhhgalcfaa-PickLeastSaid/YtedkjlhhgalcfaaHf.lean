/- Choose: the program's. -/
import Derived.Test.YtedkjlhhgalcfaaHe
namespace Go.Proofs.Ytedkjlhhgalcfaa
open Go.RowKit
set_option linter.unusedVariables false
set_option maxRecDepth 100000
set_option maxHeartbeats 4000000

theorem rest_ge {d n : Int} (hn : 0 < n) (h : 0 ≤ d.tmod n) : d.tmod n = d % n := by
  have h1 := Int.emod_nonneg d (b := n) (by omega)
  have h2 := Int.emod_lt_of_pos d (b := n) hn
  rw [Int.tmod_eq_emod] at h ⊢
  split at h
  · rw [if_pos (by assumption)]; omega
  · omega
theorem rest_lt {d n : Int} (hn : 0 < n) (h : d.tmod n < 0) : d.tmod n + n = d % n := by
  have h1 := Int.emod_nonneg d (b := n) (by omega)
  have h2 := Int.emod_lt_of_pos d (b := n) hn
  rw [Int.tmod_eq_emod] at h ⊢
  split at h
  · omega
  · rw [if_neg (by assumption)]; omega
/-- What Choose answers. -/
def ChoA (L : List Bk) (d : Int) (w : World) (e : Ending) (w' : World) : Prop := e = .returned (.tuple #[.int .i64 (chI (tieL L) d), .int .i64 (chE (tieL L))]) ∧ Fr (fun _ => False) w w'
theorem pkChoose_in (q : Option Addr) (c n : Nat) (L : List Bk) (d : Int) (w : World) (h : BacksAt w q c L) (hl : L.length = n) (hd : IsI d) : Calls Try.prog 14 #[.slice q n c, .int .i64 d] w (ChoA L d w) := by
  have K := pkTies_in q c n L w h hl
  have hnb : (n : Int) ≤ 6000000000000 := by have := h.few; rw [hl] at this; have h2 : reachBytes < 2 ^ 47 := reach_lt; omega
  have htl : (tieL L).length ≤ n := by rw [← hl]; exact nums_len _ _ _
  unfold ChoA
  obtain ⟨T, hT⟩ : ∃ T, tieL L = T := ⟨_, rfl⟩
  rw [hT] at K htl ⊢
  obtain ⟨d1, d2⟩ := hd
  clear h hl hT
  obtain ⟨m, hm⟩ : ∃ m, T.length = m := ⟨_, rfl⟩
  have HM : Hid (T.length = m) := hm
  rw [hm] at htl
  clear hm
  by_cases hz : m = 0
  · subst hz
    obtain ⟨e1, e2⟩ := ch_none HM.out d
    rw [e1, e2]
    clear e1 e2
    go_enter Try.func14, Try.ntmps14
    go_wp2_with (go_at_call 12; refine K.mono ?_; clear K; rintro e w1 ⟨a, m, tc, rfl, h1⟩; have e1 := h1.own.lenI.1; rw [HM.out] at e1; subst e1)
    go_ret2
    exact ⟨rfl, h1.fr⟩
  · obtain ⟨r, hr, hrm, hx, hE⟩ := ch_some (t := T) (by rw [HM.out]; exact hz) d
    rw [hE]
    rw [HM.out] at hr hrm
    obtain ⟨X, hX⟩ : ∃ X, chI T d = X := ⟨_, rfl⟩
    rw [hX] at hx ⊢
    clear hX hE
    have hmz : (m : Int) ≠ 0 := by omega
    have hmp : (0 : Int) < m := by omega
    have hrm2 : (r : Int) < (m : Int) := by omega
    have HX : Hid (T[r]? = some X) := hx
    clear hx
    by_cases hneg : d.tmod (m : Int) < 0
    · have hs : d.tmod (m : Int) + (m : Int) = (r : Int) := by rw [hr]; exact rest_lt hmp hneg
      obtain ⟨z, hz2⟩ : ∃ z, d.tmod (m : Int) = z := ⟨_, rfl⟩
      rw [hz2] at hs hneg
      have b1 : z + (m : Int) ≤ 9223372036854775807 := by omega
      have b2 : -9223372036854775808 ≤ z + (m : Int) := by omega
      clear hr
      go_enter Try.func14, Try.ntmps14
      go_wp2_with (go_at_call 12; refine K.mono ?_; clear K; rintro e w1 ⟨a, tm, tc, rfl, h1⟩; obtain ⟨e1, e2⟩ := h1.own.lenI; rw [HM.out] at e1 e2; subst e1; obtain ⟨gt, ot, rfl, -, c0⟩ := h1.own.ints r X HX.out; have F1 : Hid (Fr (fun _ => False) w w1) := h1.fr; clear h1)
      go_ret2
      exact ⟨rfl, F1.out⟩
    · have hs : d.tmod (m : Int) = (r : Int) := by rw [hr]; exact rest_ge hmp (by omega)
      have hneg2 : ¬ (r : Int) < 0 := by omega
      clear hneg hr
      go_enter Try.func14, Try.ntmps14
      go_wp2_with (go_at_call 12; refine K.mono ?_; clear K; rintro e w1 ⟨a, tm, tc, rfl, h1⟩; obtain ⟨e1, e2⟩ := h1.own.lenI; rw [HM.out] at e1 e2; subst e1; obtain ⟨gt, ot, rfl, -, c0⟩ := h1.own.ints r X HX.out; have F1 : Hid (Fr (fun _ => False) w w1) := h1.fr; clear h1)
      go_ret2
      exact ⟨rfl, F1.out⟩
end Go.Proofs.Ytedkjlhhgalcfaa
