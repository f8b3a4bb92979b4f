/- A text's copy; the table as a whole: fall, Resize, Get. -/
import Derived.Test.YtpnbpglmcaglfabU3
import Derived.Test.YtpnbpglmcaglfabUt
import Derived.Lib.BufferWrite
import Derived.Laws.MakeOwn
namespace Go.Proofs.Ytpnbpglmcaglfab
open Go.RowKit
set_option maxRecDepth 100000
set_option maxHeartbeats 4000000
set_option linter.unusedVariables false

theorem lClone_in (s : ByteArray) (w : World) (hs : s.size ≤ 2 ^ 47) :
    Calls Try.prog 16 #[.string s] w fun e w' => e = .returned (.string s) ∧ Below w.heap.size w w' := Any.stringslite_Clone oClone s w (by omega)
theorem Clone_in (s : ByteArray) (w : World) (hs : s.size ≤ 2 ^ 47) :
    Calls Try.prog 14 #[.string s] w fun e w' => e = .returned (.string s) ∧ Below w.heap.size w w' := by
  have K := lClone_in s w hs
  go_enter Try.func14, Try.ntmps14
  go_wp2_with (go_at_call 16; refine K.mono ?_; clear K; rintro e w' ⟨rfl, hb⟩)
  go_ret
  exact ⟨rfl, hb⟩

/-- A table in memory, its entries the oldest first. -/
structure TabIs (w : World) (t : Nat) (v : Value) (m : Nat) (E : List (ByteArray × ByteArray)) : Prop where
  at_ : TabAt w t true m (total E) v
  row : w.ownsRow 0 30 3 v E.length (cellsE E)
theorem TabIs.form {w : World} {t : Nat} {v : Value} {m : Nat} {E : List (ByteArray × ByteArray)} (h : TabIs w t v m E) : ∃ q cap, v = .slice q E.length cap := by
  rcases h.row.2 with ⟨rfl, h0⟩ | ⟨g, cap, cur, rfl, _⟩
  · exact ⟨none, 0, by rw [h0]⟩
  · exact ⟨_, cap, rfl⟩
/-- It lies on where its blocks are left alone. -/
theorem TabIs.kept {w w' : World} {t : Nat} {v : Value} {m : Nat} {E : List (ByteArray × ByteArray)} (h : TabIs w t v m E) {S : Nat → Prop} (f : Fr S w w') (hS : ∀ k, (k = t ∨ v.ownBlock = some k) → ¬ S k) : TabIs w' t v m E := by
  refine ⟨(f.block t h.at_.lt (hS t (.inl rfl))).trans h.at_, h.row.1, ?_⟩
  rcases h.row.2 with hn | ⟨g, cap, cur, rfl, h1, h2, h3⟩
  · exact .inl hn
  · exact .inr ⟨g, cap, cur, rfl, h1, (f.block g (lt_of_heap h2) (hS g (.inr rfl))).trans h2, h3⟩
theorem fall_in (t m : Nat) (v : Value) (E : List (ByteArray × ByteArray)) (n : Int) (w : World) (h : TabIs w t v m E) (hT : total E < 2 ^ 60) (hn : -2 ^ 63 ≤ n) :
    Calls Try.prog 13 #[.pointer (some ⟨t, 0, none⟩), .int .i64 n] w fun e w' => e = .returned (.tuple #[]) ∧ ∃ v', TabIs w' t v' m (fallen n E) ∧ v'.ownBlock = v.ownBlock ∧ Fr (fun k => k = t ∨ v.ownBlock = some k) w w' := by
  rcases h.row.2 with ⟨rfl, h0⟩ | ⟨g, cap, cur, rfl, h1, h2, h3, h4, h5, h6⟩
  · obtain rfl : E = [] := List.eq_nil_of_length_eq_zero h0
    refine (fall_nil t m n w h.at_).mono ?_
    rintro e w' ⟨rfl, rfl⟩
    exact ⟨rfl, _, h, rfl, Fr.refl _ _⟩
  · refine (fall_some t m g cap E cur n w h.at_ h2 h5 h3 h6 hT hn).mono ?_
    rintro e w' ⟨rfl, cur', k1, k2, k3, k4, k5⟩
    refine ⟨rfl, .slice (some ⟨g, 0, none⟩) (fallen n E).length cap, ⟨k1, cellsE_length _, .inr ⟨g, cap, cur', rfl, Nat.zero_le _, k2, ?_, h4, k3, k4⟩⟩, rfl, k5.mono ?_⟩
    · have e1 := congrArg List.length k4
      have e2 : cur'.toList.length = cur'.size := Array.length_toList
      rw [List.length_take, cellsE_length, e2] at e1
      omega
    · rintro k _ (rfl | rfl)
      · exact .inl rfl
      · exact .inr rfl

theorem Get_static (t m : Nat) (v : Value) (E : List (ByteArray × ByteArray)) (i : Int) (w : World) (h : TabIs w t v m E) (hi : i ≤ 61) :
    Calls Try.prog 7 #[.pointer (some ⟨t, 0, none⟩), .int .i64 i] w fun e w' => e = .returned (.tuple #[.agg #[.string (stN i), .string (stV i), .bool false], .int .i64 (stE i)]) ∧ Below w.heap.size w w' := by
  have KN := none_in t true m _ v _ (h.at_.laid (.cells #[.string ⟨#[]⟩, .string ⟨#[]⟩, .bool false] 30))
  have KS := Static_in i (w.alloc (.cells #[.string ⟨#[]⟩, .string ⟨#[]⟩, .bool false] 30))
  have hd : i ≤ 61 := hi
  generalize stN i = n at *
  generalize stV i = u at *
  generalize stE i = x at *
  have HC : Hid (∀ w', Below (w.alloc (.cells #[.string ⟨#[]⟩, .string ⟨#[]⟩, .bool false] 30)).heap.size (w.alloc (.cells #[.string ⟨#[]⟩, .string ⟨#[]⟩, .bool false] 30)) w' → w'.heap[w.heap.size]? = some (.cells #[.string ⟨#[]⟩, .string ⟨#[]⟩, .bool false] 30)) := fun w' b => heap_below b (by simp) (heap_alloc_new w _)
  go_enter Try.func7, Try.ntmps7
  go_wp2_with (first
    | (go_at_call 12; refine KN.mono ?_; clear KN; rintro e w' ⟨rfl, rfl⟩)
    | (go_at_call 15; refine KS.mono ?_; clear KS; rintro e w1 ⟨rfl, b1⟩; have g1 := HC.out w1 b1; have q0 := cell_of_heap g1 (i := 0) rfl; have q1 := cell_of_heap g1 (i := 1) rfl; have q2 := cell_of_heap g1 (i := 2) rfl; have z0 : w1.frozen? ⟨w.heap.size, 0, none⟩ = false := frozen_of_heap g1; have z1 : w1.frozen? ⟨w.heap.size, 1, none⟩ = false := frozen_of_heap g1; have z2 : w1.frozen? ⟨w.heap.size, 2, none⟩ = false := frozen_of_heap g1))
  have g3 : (((w1.setCell ⟨w.heap.size, 0, none⟩ (.string n)).setCell ⟨w.heap.size, 1, none⟩ (.string u)).setCell ⟨w.heap.size, 2, none⟩ (.bool false)).heap[w.heap.size]? = some (.cells #[.string n, .string u, .bool false] 30) := heap_set _ (heap_set _ (heap_set _ g1))
  have r0 := cell_of_heap g3 (i := 0) rfl
  have r1 := cell_of_heap g3 (i := 1) rfl
  have r2 := cell_of_heap g3 (i := 2) rfl
  refine bodyPost_ret (v := .tuple #[.agg #[.string n, .string u, .bool false], .int .i64 x]) (by simp [results, Try.results7, go_sem, r0, r1, r2]) rfl ⟨rfl, ?_⟩
  have hb : Below w.heap.size w w1 := Below.trans ((Below.refl _ w).alloc (Nat.le_refl _) _) (b1.mono (by simp))
  exact ((hb.setCell (p := ⟨w.heap.size, 0, none⟩) (Nat.le_refl _) _).setCell (p := ⟨w.heap.size, 1, none⟩) (Nat.le_refl _) _).setCell (p := ⟨w.heap.size, 2, none⟩) (Nat.le_refl _) _
theorem Get_none (t m : Nat) (v : Value) (E : List (ByteArray × ByteArray)) (i : Int) (w : World) (h : TabIs w t v m E) (hi : (E.length : Int) + 61 < i) (hi2 : i < 2 ^ 63) :
    Calls Try.prog 7 #[.pointer (some ⟨t, 0, none⟩), .int .i64 i] w fun e w' => e = .returned (.tuple #[.agg #[.string ⟨#[]⟩, .string ⟨#[]⟩, .bool false], .int .i64 50]) ∧ Below w.heap.size w w' := by
  have KN := none_in t true m _ v _ (h.at_.laid (.cells #[.string ⟨#[]⟩, .string ⟨#[]⟩, .bool false] 30))
  obtain ⟨q, cap, rfl⟩ := h.form
  have c3 := (h.at_.laid (.cells #[.string ⟨#[]⟩, .string ⟨#[]⟩, .bool false] 30)).c3
  obtain ⟨L, hL⟩ : ∃ L, E.length = L := ⟨_, rfl⟩
  rw [hL] at hi c3
  have hd : ¬ i ≤ 61 := by omega
  have hd2 : (L : Int) < i - 61 := by omega
  go_enter Try.func7, Try.ntmps7
  go_wp2_with (go_at_call 12; refine KN.mono ?_; clear KN; rintro e w' ⟨rfl, rfl⟩)
  refine bodyPost_ret (v := .tuple #[.agg #[.string ⟨#[]⟩, .string ⟨#[]⟩, .bool false], .int .i64 50]) (by simp [results, Try.results7, go_sem]) rfl ⟨rfl, (Below.refl _ w).alloc (Nat.le_refl _) _⟩
theorem Get_some (t m : Nat) (v : Value) (E : List (ByteArray × ByteArray)) (k : Nat) (e : ByteArray × ByteArray) (w : World) (h : TabIs w t v m E) (hk : k < E.length) (he : E[E.length - 1 - k]? = some e) (hT : E.length < 2 ^ 58) :
    Calls Try.prog 7 #[.pointer (some ⟨t, 0, none⟩), .int .i64 ((k : Int) + 62)] w fun r w' => r = .returned (.tuple #[.agg #[.string e.1, .string e.2, .bool false], .int .i64 0]) ∧ Below w.heap.size w w' := by
  have KN := none_in t true m _ v _ (h.at_.laid (.cells #[.string ⟨#[]⟩, .string ⟨#[]⟩, .bool false] 30))
  rcases h.row.2 with ⟨rfl, h0⟩ | ⟨g, cap, cur, rfl, h1, h2, h3, h4, h5, h6⟩
  · omega
  · have c3 := (h.at_.laid (.cells #[.string ⟨#[]⟩, .string ⟨#[]⟩, .bool false] 30)).c3
    obtain ⟨k0, k1, k2⟩ := row_cells (n := 0) (cap := 0) (heap_of_alloc h2 (.cells #[.string ⟨#[]⟩, .string ⟨#[]⟩, .bool false] 30)) h6 he
    obtain ⟨L, hL⟩ : ∃ L, E.length = L := ⟨_, rfl⟩
    rw [hL] at k0 k1 k2 c3 hk hT
    obtain ⟨j, hj⟩ : ∃ j, L - 1 - k = j := ⟨_, rfl⟩
    rw [hj] at k0 k1 k2
    have hd : ¬ (k : Int) + 62 ≤ 61 := by omega
    have hd1 : (k : Int) + 62 - 61 = ((k + 1 : Nat) : Int) := by omega
    have hd2 : ¬ (L : Int) < ((k + 1 : Nat) : Int) := by omega
    have hd3 : (L : Int) - ((k + 1 : Nat) : Int) = (j : Int) := by omega
    have hd4 : j < L := by omega
    generalize k + 1 = k' at hd1 hd2 hd3
    clear hj
    go_enter Try.func7, Try.ntmps7
    go_wp2_with (go_at_call 12; refine KN.mono ?_; clear KN; rintro e w' ⟨rfl, rfl⟩)
    go_region
    all_goals go_wp2_with (fail)
    all_goals refine bodyPost_ret (v := .tuple #[.agg #[.string e.1, .string e.2, .bool false], .int .i64 0]) (by simp [results, Try.results7, go_sem]) rfl ⟨rfl, ((Below.refl _ w).alloc (Nat.le_refl _) _).drew⟩

end Go.Proofs.Ytpnbpglmcaglfab
