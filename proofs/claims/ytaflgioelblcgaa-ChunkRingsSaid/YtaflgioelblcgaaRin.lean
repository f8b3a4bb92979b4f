/- The walk of ChunkRings. -/
import Derived.Test.YtaflgioelblcgaaP2
import Derived.Test.YtaflgioelblcgaaP4
namespace Go.Proofs.Ytaflgioelblcgaa.chunkRings
open Go.RowKit
set_option linter.unusedVariables false

/-- The script that came in: n calls, from ⟨sb, so⟩ on, three cells each. -/
def ScriptAt (w : World) (sb so n : Nat) (Wh Nn : Nat → Int) (A : Nat → Option Addr) (Ln Cp : Nat → Nat) (Bs : Nat → List UInt8) : Prop :=
  ∀ r, r < n → sb < w.heap.size ∧ (w.cell? ⟨sb, so + r * 3, none⟩ = some (.int .i64 (Wh r)) ∧ w.cell? ⟨sb, so + r * 3 + 1, none⟩ = some (.int .i64 (Nn r)) ∧ w.cell? ⟨sb, so + r * 3 + 2, none⟩ = some (.slice (A r) (Ln r) (Cp r))) ∧ Ln r ≤ Cp r ∧ Ln r ≤ 140737488355328 ∧
    SrcAt w (A r) (Bs r) ∧ (Bs r).length = Ln r ∧ ∀ a, A r = some a → 0 < Ln r → a.block < w.heap.size

theorem new_bad (n : Int) (w : World) (hn : n < 0 ∨ 1048576 < n) : Calls Try.prog 8 #[.int .i64 n] w fun e w' => e = .returned (.tuple #[.pointer none, .int .i64 1]) ∧ w' = w := by
  rcases hn with h | h
  · go_enter Try.func8, Try.ntmps8
    go_wp2
    go_ret2
    exact ⟨rfl, rfl⟩
  · have h' : ¬ n < 0 := by omega
    go_enter Try.func8, Try.ntmps8
    go_wp2
    go_ret2
    exact ⟨rfl, rfl⟩

theorem rnew_bad (n : Int) (w : World) (hn : n < 0 ∨ 1048576 < n) : Calls Try.prog 9 #[.int .i64 n] w fun e w' => e = .returned (.tuple #[.pointer none, .int .i64 1]) ∧ w' = w := by
  rcases hn with h | h
  · go_enter Try.func9, Try.ntmps9
    go_wp2
    go_ret2
    exact ⟨rfl, rfl⟩
  · have h' : ¬ n < 0 := by omega
    go_enter Try.func9, Try.ntmps9
    go_wp2
    go_ret2
    exact ⟨rfl, rfl⟩

theorem play_any (B b c : Nat) (sv v : Value) (L : List UInt8) (lim : Nat) (what nn : Int) (sp : Option Addr) (slen scap : Nat) (bs : List UInt8) (w : World) (h : Both w B b c sv v L lim) (hB : B ≤ w.heap.size)
    (hs : SrcAt w sp bs) (hlen : bs.length = slen) (hcap : slen ≤ scap) (hmax : slen ≤ 140737488355328) (hsB : ∀ a, sp = some a → 0 < slen → a.block < B) :
    Calls Try.prog 10 #[.pointer (some ⟨b, 0, none⟩), .pointer (some ⟨c, 0, none⟩), .agg #[.int .i64 what, .int .i64 nn, .slice sp slen scap]] w fun e w' => e = .returned (.bool true) ∧ ∃ sv' v' L', Both w' B b c sv' v' L' lim ∧ Fr (fun k => B ≤ k) w w' := by
  by_cases h0 : what = 0
  · exact play_put B b c sv v L lim what nn sp slen scap bs w h hB h0 hs hlen hcap hmax hsB
  by_cases h1 : what = 1
  · exact play_take B b c sv v L lim what nn sp slen scap w h hB h1
  by_cases h2 : what = 2
  · exact play_peek B b c sv v L lim what nn sp slen scap w h hB h2
  · exact play_drop B b c sv v L lim what nn sp slen scap w h hB (by simp [h0]) (by simp [h1]) (by simp [h2])

set_option maxRecDepth 100000 in
set_option maxHeartbeats 4000000 in
theorem walk_bad (n : Int) (hn : n < 0 ∨ 1048576 < n) (as' : Option Addr) (ns scap : Nat) (w : World) :
    Calls Try.prog 3 #[.int .i64 n, .slice as' ns scap] w fun e w' => e = .returned (.bool true) ∧ Below w.heap.size w w' := by
  have H1 : Hid (Calls Try.prog 8 #[.int .i64 n] w fun e w' => e = .returned (.tuple #[.pointer none, .int .i64 1]) ∧ w' = w) := new_bad n w hn
  have H2 : Hid (Calls Try.prog 9 #[.int .i64 n] w fun e w' => e = .returned (.tuple #[.pointer none, .int .i64 1]) ∧ w' = w) := rnew_bad n w hn
  clear hn
  go_enter Try.func3, Try.ntmps3
  go_wp2_with fail
  refine H1.out.mono ?_
  rintro e w1 ⟨rfl, rfl⟩
  go_wp2_with fail
  refine H2.out.mono ?_
  rintro e w2 ⟨rfl, rfl⟩
  go_wp2_with fail
  go_loop [9] (fun i => i = .int .i64 0) (fun _ => 0)
  case atStart => rfl
  case round =>
    subst hrel
    go_wp2_with fail
    refine (awake_any _).mono ?_
    rintro e w5 ⟨rfl, hf5⟩
    have HF5 : Hid (Fr (fun _ => False) w2 w5) := hf5
    clear hf5
    go_wp2
    go_ret
    exact ⟨rfl, HF5.out.below (fun _ _ => id)⟩

set_option maxRecDepth 100000 in
set_option maxHeartbeats 4000000 in
theorem walk_ok (n : Nat) (hn : n ≤ 1048576) (as' : Option Addr) (sb so ns scap : Nat) (Wh Nn : Nat → Int) (A : Nat → Option Addr) (Ln Cp : Nat → Nat) (Bs : Nat → List UInt8) (w : World)
    (hS : ScriptAt w sb so ns Wh Nn A Ln Cp Bs) (has : 0 < ns → as' = some ⟨sb, so, none⟩) (hns : ns ≤ 9223372036854775807) :
    Calls Try.prog 3 #[.int .i64 n, .slice as' ns scap] w fun e w' => e = .returned (.bool true) ∧ Below w.heap.size w w' := by
  have H1 : Hid (Calls Try.prog 8 #[.int .i64 n] w fun e w' => e = .returned (.tuple #[.pointer (some ⟨w.heap.size, 0, none⟩), .int .i64 0]) ∧ RingIs w' w.heap.size (.slice none 0 0) [] n ∧ Fr (fun _ => False) w w') := new_ok n w hn
  have HS : Hid (ScriptAt w sb so ns Wh Nn A Ln Cp Bs) := hS
  have HAS : Hid (0 < ns → as' = some ⟨sb, so, none⟩) := has
  have hni : (n : Int) ≤ 1048576 := by omega
  clear hS has
  go_enter Try.func3, Try.ntmps3
  go_wp2_with fail
  refine H1.out.mono ?_
  rintro e w1 ⟨rfl, hr1, hf1⟩
  have H2 : Hid (Calls Try.prog 9 #[.int .i64 n] w1 fun e w' => e = .returned (.tuple #[.pointer (some ⟨w1.heap.size, 0, none⟩), .int .i64 0]) ∧ RefIs w' w1.heap.size (.slice none 0 0) [] n ∧ Fr (fun _ => False) w1 w') := rnew_ok n w1 hn
  have HR1 : Hid (RingIs w1 w.heap.size (.slice none 0 0) [] n) := hr1
  have HF1 : Hid (Fr (fun _ => False) w w1) := hf1
  clear hr1 hf1 H1
  go_wp2_with fail
  refine H2.out.mono ?_
  rintro e w2 ⟨rfl, hR2, hf2⟩
  obtain ⟨c, hc⟩ : ∃ c, c = w1.heap.size := ⟨_, rfl⟩
  rw [← hc] at hR2 ⊢
  have hlt := HR1.out.lt
  have HST : Hid (∃ sv v L, Both w2 w.heap.size w.heap.size c sv v L n ∧ Fr (fun _ => False) w w2) :=
    ⟨_, _, [], ⟨HR1.out.fr hf2 id (fun _ _ => id), hR2, by omega, by simp [Value.ownBlock], by simp [Value.ownBlock], by simp [Ap, Value.ownBlock], Nat.le_refl _, by omega, by simp [Value.ownBlock], by simp [Value.ownBlock]⟩, Fr.trans HF1.out hf2⟩
  clear hR2 hf2 H2 HR1 HF1 hlt hc
  go_wp2_with fail
  go_loopw [9] (fun i wr => ∃ k : Nat, k ≤ ns ∧ i = .int .i64 k ∧ ∃ sv v L, Both wr w.heap.size w.heap.size c sv v L n ∧ Fr (fun _ => False) w wr) (fun i _ => ns - (intOf i).toNat)
  case atStart => exact ⟨0, Nat.zero_le _, rfl, HST.out⟩
  case round =>
    obtain ⟨k, hk, rfl, sv, v, L, hBo, hF⟩ := hrel
    have HB : Hid (Both wr w.heap.size w.heap.size c sv v L n) := hBo
    have HF : Hid (Fr (fun _ => False) w wr) := hF
    clear hBo hF HST
    by_cases hlt : k < ns
    · have hlt' : (k : Int) < (ns : Int) := by omega
      obtain rfl := HAS.out (by omega)
      obtain ⟨y0, ⟨y1, y2, y3⟩, y4, y5, y6, y7, y8⟩ := HS.out k hlt
      have hsz := HF.out.size
      have keepS : ∀ w', Fr (fun _ => False) w w' → w'.cell? ⟨sb, so + k * 3, none⟩ = some (.int .i64 (Wh k)) ∧ w'.cell? ⟨sb, so + k * 3 + 1, none⟩ = some (.int .i64 (Nn k)) ∧ w'.cell? ⟨sb, so + k * 3 + 2, none⟩ = some (.slice (A k) (Ln k) (Cp k)) := fun w' hf => ⟨by rw [hf.cell (p := ⟨sb, so + k * 3, none⟩) y0 id]; exact y1, by rw [hf.cell (p := ⟨sb, so + k * 3 + 1, none⟩) y0 id]; exact y2, by rw [hf.cell (p := ⟨sb, so + k * 3 + 2, none⟩) y0 id]; exact y3⟩
      obtain ⟨z1, z2, z3⟩ := keepS wr HF.out
      have HPLAY : Hid (Calls Try.prog 10 #[.pointer (some ⟨w.heap.size, 0, none⟩), .pointer (some ⟨c, 0, none⟩), .agg #[.int .i64 (Wh k), .int .i64 (Nn k), .slice (A k) (Ln k) (Cp k)]] wr.drew fun e w' => e = .returned (.bool true) ∧ ∃ (sv' v' : Value) (L' : List UInt8) (l : Nat) (a : Option Addr) (cap : Nat), Hid (l = L'.length) ∧ Hid (Both w' w.heap.size w.heap.size c sv' v' L' n) ∧ Hid (Fr (fun _ => False) w w') ∧ (w'.cell? ⟨sb, so + k * 3, none⟩ = some (.int .i64 (Wh k)) ∧ w'.cell? ⟨sb, so + k * 3 + 1, none⟩ = some (.int .i64 (Nn k)) ∧ w'.cell? ⟨sb, so + k * 3 + 2, none⟩ = some (.slice (A k) (Ln k) (Cp k))) ∧ w'.cell? ⟨c, 0, none⟩ = some (.slice a l cap)) := by
        refine (play_any w.heap.size w.heap.size c sv v L n (Wh k) (Nn k) (A k) (Ln k) (Cp k) (Bs k) wr.drew (HB.out.fr (S := fun _ => False) (Fr.refl _ _).drew id id (fun _ _ => id) (fun _ _ => id)) hsz ((y6.fr HF.out (fun _ _ _ => id)).heap rfl) y7 y4 y5 y8).mono ?_
        rintro e w' ⟨rfl, sv', v', L', hB', hf'⟩
        obtain ⟨a, cap, hv, hcap⟩ := hB'.ref.2.1.form
        rw [bv_length] at hv
        have hF' : Fr (fun _ => False) w w' := by
          have h1 : Fr (fun k => w.heap.size ≤ k) w w' := Fr.trans (b := wr.drew) ((HF.out.mono (fun _ _ e => e.elim)).drew) hf'
          exact h1.mono (fun x hx e => by omega)
        exact ⟨rfl, sv', v', L', L'.length, a, cap, rfl, hB', hF', keepS w' hF', by rw [← hv]; exact (cell2 hB'.ref.1).1⟩
      have HALL : Hid (∀ (w2 : World) (sv' v' : Value) (L' : List UInt8) (l : Nat), l = L'.length → Both w2 w.heap.size w.heap.size c sv' v' L' n → Hid (Calls Try.prog 11 #[.pointer (some ⟨w.heap.size, 0, none⟩)] w2 fun e w' => e = .returned (.int .i64 l) ∧ w' = w2) ∧ Hid (Calls Try.prog 12 #[.pointer (some ⟨w.heap.size, 0, none⟩)] w2 fun e w' => e = .returned (.int .i64 (n - l : Nat)) ∧ ∃ q, w' = w2.drewN q) ∧
          Hid (∀ q, Calls Try.prog 13 #[.pointer (some ⟨c, 0, none⟩)] (w2.drewN q) fun e w' => e = .returned (.int .i64 (n - l : Nat)) ∧ ∃ q', w' = w2.drewN q') ∧ Hid (∀ q, Calls Try.prog 14 #[.pointer (some ⟨w.heap.size, 0, none⟩)] (w2.drewN q) fun e w' => e = .returned (.int .i64 n) ∧ w' = w2.drewN q)) := by
        intro w2 sv' v' L' l e hB2
        subst e
        have hbk := hB2.ring
        obtain ⟨-, cur, first, hbk, -⟩ := hbk
        refine ⟨len_any _ _ _ (cell4 hbk).1, room_ring _ sv' L' n _ _ hB2.ring rfl, fun q => ?_, fun q => cap_any _ _ _ (cell4 hbk).2.2.2⟩
        refine (rroom c v' L' n _ (w2.drewN q) (hB2.ref.fr (S := fun _ => False) ((Fr.refl _ _).drewN q) id (fun _ _ => id)) rfl).mono ?_
        rintro e w' ⟨rfl, q', rfl⟩
        exact ⟨rfl, q + q', by simp⟩
      clear keepS y0 y1 y2 y3 y4 y5 y6 y7 y8 HB
      go_wp2_with fail
      go_region_with (first | (go_at_call 10; refine HPLAY.out.mono ?_; rintro e w2 ⟨rfl, sv', v', L', l, a, cap, Hl, HB2, HF2, s2, q2⟩; obtain ⟨K1, K2, K3, K4⟩ := HALL.out w2 sv' v' L' l Hl.out HB2.out) | (go_at_call 11; refine K1.out.mono ?_; rintro e w3 ⟨rfl, rfl⟩) | (go_at_call 12; refine K2.out.mono ?_; rintro e w4 ⟨rfl, q4, rfl⟩) | (go_at_call 13; refine (K3.out _).mono ?_; rintro e w5 ⟨rfl, q5, rfl⟩) | (go_at_call 14; refine (K4.out _).mono ?_; rintro e w6 ⟨rfl, rfl⟩))
      all_goals
        go_wp2
        go_roundw
        case rel => exact ⟨k + 1, by omega, by go_num, sv', v', L', HB2.out.fr (S := fun _ => False) ((Fr.refl _ _).drewN _) id id (fun _ _ => id) (fun _ _ => id), HF2.out.drewN _⟩
        case measure => simp [intOf]; omega
    · have hlt' : ¬ ((k : Int) < (ns : Int)) := by omega
      go_wp2_with fail
      refine (awake_any _).mono ?_
      rintro e w5 ⟨rfl, hf5⟩
      have HF5 : Hid (Fr (fun _ => False) wr w5) := hf5
      clear hf5
      go_wp2
      go_ret
      exact ⟨rfl, (Fr.trans HF.out HF5.out).below (fun _ _ => id)⟩

end Go.Proofs.Ytaflgioelblcgaa.chunkRings
