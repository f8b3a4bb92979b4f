/- The walk of TablePlays. -/
import Derived.Test.YtpnbpglmcaglfaaY6
namespace Go.Proofs.Ytpnbpglmcaglfaa
open Go.RowKit
set_option maxRecDepth 100000
set_option maxHeartbeats 8000000
set_option linter.unusedVariables false

theorem plays_walk (m0 : Int) (hwf : (Lit.int .i64 m0).wf = true) (q : Option Addr) (n c b o : Nat) (O : Nat → Int × Int × ByteArray × ByteArray × Bool) (w : World) (hO : OpsAt w q n b o O) :
    Calls Try.prog 5 #[.int .i64 m0, .slice q n c] w fun e w' => e = .returned (.bool true) ∧ Below w.heap.size w w' := by
  have HO : Hid (OpsAt w q n b o O) := hO
  have hn := hO.few
  clear hO
  by_cases hm : 0 ≤ m0 ∧ m0 ≤ 65536
  · obtain ⟨m, rfl⟩ : ∃ m : Nat, m0 = (m : Int) := ⟨m0.toNat, by omega⟩
    have hm' : m ≤ 65536 := by omega
    have KN := New_in m w hm'
    have KR := rNew_in m (w.alloc (.cells #[.bool true, .int .i64 (m : Int), .int .i64 0, .slice none 0 0] 55)) hm'
    have HH0 : Hid _ := Both.new (w0 := w) (Below.refl _ w) hm'
    go_enter Try.func5, Try.ntmps5
    go_wp2_with (first
      | (go_at_call 14; refine KN.mono ?_; clear KN; rintro e w' ⟨rfl, rfl⟩)
      | (go_at_call 15; refine KR.mono ?_; clear KR; rintro e w' ⟨rfl, rfl⟩))
    generalize (w.alloc (.cells #[.bool true, .int .i64 (m : Int), .int .i64 0, .slice none 0 0] 55)).alloc (.cells #[.int .i64 (m : Int), .slice none 0 0] 61) = w1 at HH0 ⊢
    obtain ⟨r, hr⟩ : ∃ r, (w.alloc (.cells #[.bool true, .int .i64 (m : Int), .int .i64 0, .slice none 0 0] 55)).heap.size = r := ⟨_, rfl⟩
    rw [hr] at HH0
    rw [World.size_alloc] at hr
    rw [hr]
    obtain ⟨t, ht⟩ : ∃ t, w.heap.size = t := ⟨_, rfl⟩
    rw [ht] at HH0 ⊢
    clear hr ht hwf hm
    go_loopw [9] (fun x9 wr => ∃ (i : Nat), x9 = .int .i64 (i : Int) ∧ i ≤ n ∧ PlayPost w t r wr)
      (fun x9 wr => n - (intOf x9).toNat)
    case atStart => exact ⟨0, rfl, by omega, _, _, _, _, HH0.out⟩
    case round =>
      obtain ⟨i, rfl, hi, v, u, m2, E, hB⟩ := hrel
      have HB : Hid (Both w wr t v m2 E r u m2 E) := hB
      clear hB HH0
      by_cases hin : i < n
      · obtain ⟨hb, c0, c1, c2, c3, c4, wf0, wf1, s1, s2⟩ := (OpsAt.later HO.out HB.out.tab.fr).cells i hin
        obtain rfl := HO.out.addr (by omega)
        generalize O i = op at c0 c1 c2 c3 c4 wf0 wf1 s1 s2
        obtain ⟨wh, N, nm, vl, sc⟩ := op
        dsimp only at c0 c1 c2 c3 c4 wf0 wf1 s1 s2
        have hN : N < 2 ^ 63 := by
          have h2 : IntKind.i64.min ≤ N ∧ N ≤ IntKind.i64.max := by simpa [Lit.wf] using wf1
          have h3 : N ≤ 9223372036854775807 := h2.2
          omega
        have KP := play_in wh N nm vl sc t r m2 v u E w wr HB.out hN s1 s2
        have KS : Hid (∀ v' u' m' E' w', Both w w' t v' m' E' r u' m' E' → Calls Try.prog 17 #[.pointer (some ⟨t, 0, none⟩), .pointer (some ⟨r, 0, none⟩)] w' fun e w'' => e = .returned (.bool true) ∧ Hid (Both w w'' t v' m' E' r u' m' E')) := fun v' u' m' E' w' h' => by
          refine (same_in t r m' v' u' E' w w' h').mono ?_
          rintro e w'' ⟨rfl, b⟩
          exact ⟨rfl, h'.below b⟩
        clear wf0 wf1 hN
        have hd1 : (i : Int) < (n : Int) := by omega
        go_wp2_with (first
          | (go_at_call 16; refine KP.mono ?_; clear KP; rintro e w2 ⟨rfl, v2, u2, m3, E2, h2⟩; have H2 : Hid (Both w w2 t v2 m3 E2 r u2 m3 E2) := h2; clear h2)
          | (go_at_call 17; refine (KS.out v2 u2 m3 E2 w2 H2.out).mono ?_; clear KS; rintro e w3 ⟨rfl, H3⟩))
        go_roundw
        case rel => exact ⟨i + 1, rfl, by omega, _, _, _, _, H3.out⟩
        case measure => simp [intOf]; omega
      · obtain rfl : i = n := by omega
        go_wp2_with (go_at_call 11; refine (awake_in _).mono ?_; rintro e w3 ⟨rfl, b3⟩)
        go_ret
        exact ⟨rfl, (HB.out.below b3).tab.fr⟩
  · have KN := New_bad m0 w hm
    have KR := rNew_bad m0 w hm
    go_enter Try.func5, Try.ntmps5
    go_wp2_with (first
      | (go_at_call 14; refine KN.mono ?_; clear KN; rintro e w' ⟨rfl, rfl⟩)
      | (go_at_call 15; refine KR.mono ?_; clear KR; rintro e w' ⟨rfl, rfl⟩))
    refine wp_loop_rounds 1 ?_
    rw [rounds_succ]
    go_wp2_with (go_at_call 11; refine (awake_in _).mono ?_; rintro e w3 ⟨rfl, b3⟩)
    go_ret
    exact ⟨rfl, b3⟩
end Go.Proofs.Ytpnbpglmcaglfaa
