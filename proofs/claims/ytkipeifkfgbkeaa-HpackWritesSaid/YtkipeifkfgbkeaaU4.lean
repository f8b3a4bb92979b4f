/- A text's copy; the table as a whole: fall, Resize, Get. -/
import Derived.Test.YtkipeifkfgbkeaaU3
import Derived.Test.YtkipeifkfgbkeaaUt
import Derived.Test.YtkipeifkfgbkeaaUt
import Derived.Lib.BufferWrite
import Derived.Laws.MakeOwn
namespace Go.Proofs.Ytkipeifkfgbkeaa
open Go.RowKit
set_option maxRecDepth 100000
set_option maxHeartbeats 4000000
set_option linter.unusedVariables false

theorem lClone_in (s : ByteArray) (w : World) (hs : s.size ≤ 2 ^ 47) :
    Calls Try.prog 49 #[.string s] w fun e w' => e = .returned (.string s) ∧ Below w.heap.size w w' := Any.stringslite_Clone oClone s w (by omega)
theorem Clone_in (s : ByteArray) (w : World) (hs : s.size ≤ 2 ^ 47) :
    Calls Try.prog 43 #[.string s] w fun e w' => e = .returned (.string s) ∧ Below w.heap.size w w' := by
  have K := lClone_in s w hs
  go_enter Try.func43, Try.ntmps43
  go_wp2_with (go_at_call 49; refine K.mono ?_; clear K; rintro e w' ⟨rfl, hb⟩)
  go_ret
  exact ⟨rfl, hb⟩

/-- A table in memory, its entries the oldest first. -/
structure TabIs (w : World) (t : Nat) (v : Value) (m : Nat) (E : List (ByteArray × ByteArray)) : Prop where
  at_ : TabAt w t true m (total E) v
  row : w.ownsRow 0 59 3 v E.length (cellsE E)
theorem TabIs.form {w : World} {t : Nat} {v : Value} {m : Nat} {E : List (ByteArray × ByteArray)} (h : TabIs w t v m E) : ∃ q cap, v = .slice q E.length cap := by
  rcases h.row.2 with ⟨rfl, h0⟩ | ⟨g, cap, cur, rfl, _⟩
  · exact ⟨none, 0, by rw [h0]⟩
  · exact ⟨_, cap, rfl⟩
/-- It lies on where its blocks are left alone. -/
theorem TabIs.kept {w w' : World} {t : Nat} {v : Value} {m : Nat} {E : List (ByteArray × ByteArray)} (h : TabIs w t v m E) {S : Nat → Prop} (f : Fr S w w') (hS : ∀ k, (k = t ∨ v.ownBlock = some k) → ¬ S k) : TabIs w' t v m E := by
  refine ⟨(f.block t h.at_.lt (hS t (.inl rfl))).trans h.at_, h.row.1, ?_⟩
  rcases h.row.2 with hn | ⟨g, cap, cur, rfl, h1, h2, h3⟩
  · exact .inl hn
  · exact .inr ⟨g, cap, cur, rfl, h1, (f.block g (lt_of_heap h2) (hS g (.inr rfl))).trans h2, h3⟩
theorem fall_in (t m : Nat) (v : Value) (E : List (ByteArray × ByteArray)) (n : Int) (w : World) (h : TabIs w t v m E) (hT : total E < 2 ^ 60) (hn : -2 ^ 63 ≤ n) :
    Calls Try.prog 39 #[.pointer (some ⟨t, 0, none⟩), .int .i64 n] w fun e w' => e = .returned (.tuple #[]) ∧ ∃ v', TabIs w' t v' m (fallen n E) ∧ v'.ownBlock = v.ownBlock ∧ Fr (fun k => k = t ∨ v.ownBlock = some k) w w' := by
  rcases h.row.2 with ⟨rfl, h0⟩ | ⟨g, cap, cur, rfl, h1, h2, h3, h4, h5, h6⟩
  · obtain rfl : E = [] := List.eq_nil_of_length_eq_zero h0
    refine (fall_nil t m n w h.at_).mono ?_
    rintro e w' ⟨rfl, rfl⟩
    exact ⟨rfl, _, h, rfl, Fr.refl _ _⟩
  · refine (fall_some t m g cap E cur n w h.at_ h2 h5 h3 h6 hT hn).mono ?_
    rintro e w' ⟨rfl, cur', k1, k2, k3, k4, k5⟩
    refine ⟨rfl, .slice (some ⟨g, 0, none⟩) (fallen n E).length cap, ⟨k1, cellsE_length _, .inr ⟨g, cap, cur', rfl, Nat.zero_le _, k2, ?_, h4, k3, k4⟩⟩, rfl, k5.mono ?_⟩
    · have e1 := congrArg List.length k4
      have e2 : cur'.toList.length = cur'.size := Array.length_toList
      rw [List.length_take, cellsE_length, e2] at e1
      omega
    · rintro k _ (rfl | rfl)
      · exact .inl rfl
      · exact .inr rfl

theorem Resize_bad (t m : Nat) (v : Value) (E : List (ByteArray × ByteArray)) (n : Int) (w : World) (h : TabIs w t v m E) (hn : ¬ (0 ≤ n ∧ n ≤ 65536)) :
    Calls Try.prog 26 #[.pointer (some ⟨t, 0, none⟩), .int .i64 n] w fun e w' => e = .returned (.int .i64 1) ∧ w' = w := by
  have KN := none_in t true m _ v _ h.at_
  have KM := mayBe_in n w
  rw [decide_eq_false hn] at KM
  go_enter Try.func26, Try.ntmps26
  go_wp2_with (first
    | (go_at_call 38; refine KN.mono ?_; clear KN; rintro e w' ⟨rfl, rfl⟩)
    | (go_at_call 25; refine KM.mono ?_; clear KM; rintro e w' ⟨rfl, rfl⟩))
  go_ret
  exact ⟨rfl, rfl⟩
theorem Resize_in (t m n : Nat) (v : Value) (E : List (ByteArray × ByteArray)) (w : World) (h : TabIs w t v m E) (hn : n ≤ 65536) (hT : total E < 2 ^ 60) :
    Calls Try.prog 26 #[.pointer (some ⟨t, 0, none⟩), .int .i64 (n : Int)] w fun e w' => e = .returned (.int .i64 0) ∧ ∃ v', TabIs w' t v' n (fallen n E) ∧ v'.ownBlock = v.ownBlock ∧ Fr (fun k => k = t ∨ v.ownBlock = some k) w w' := by
  have KN := none_in t true m _ v _ h.at_
  have KM := mayBe_in (n : Int) w
  rw [decide_eq_true (show (0 : Int) ≤ n ∧ (n : Int) ≤ 65536 by omega)] at KM
  have c1 := h.at_.c1
  have z1 : w.frozen? ⟨t, 1, none⟩ = false := frozen_of_heap h.at_
  have fr1 : Fr (fun k => k = t ∨ v.ownBlock = some k) w (w.setCell ⟨t, 1, none⟩ (.int .i64 (n : Int))) := (Fr.refl _ w).setCell ⟨t, 1, none⟩ (fun _ => .inl rfl) _
  have h2 : TabIs (w.setCell ⟨t, 1, none⟩ (.int .i64 (n : Int))) t v n E := by
    refine ⟨heap_set _ h.at_, h.row.1, ?_⟩
    rcases h.row.2 with hn | ⟨g, cap, cur, rfl, a1, a2, a3⟩
    · exact .inl hn
    · exact .inr ⟨g, cap, cur, rfl, a1, (heap_set_other (h.at_.ne a2) _).trans a2, a3⟩
  have KF := fall_in t n v E (n : Int) _ h2 hT (by omega)
  have HFR : Hid (Fr (fun k => k = t ∨ v.ownBlock = some k) w (w.setCell ⟨t, 1, none⟩ (.int .i64 (n : Int)))) := fr1
  clear fr1 h2
  go_enter Try.func26, Try.ntmps26
  go_wp2_with (first
    | (go_at_call 38; refine KN.mono ?_; clear KN; rintro e w' ⟨rfl, rfl⟩)
    | (go_at_call 25; refine KM.mono ?_; clear KM; rintro e w' ⟨rfl, rfl⟩)
    | (go_at_call 39; refine KF.mono ?_; clear KF; rintro e w2 ⟨rfl, v2, hv2, ho2, hf2⟩))
  go_ret
  exact ⟨rfl, v2, hv2, ho2, HFR.out.trans hf2⟩
end Go.Proofs.Ytkipeifkfgbkeaa
