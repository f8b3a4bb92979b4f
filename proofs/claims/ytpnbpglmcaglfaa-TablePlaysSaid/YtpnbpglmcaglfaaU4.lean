/- A text's copy; the table as a whole: fall, Resize, Get. -/
import Derived.Test.YtpnbpglmcaglfaaU3
import Derived.Lib.UnsafeStr
import Derived.Lib.BufferWrite
import Derived.Laws.MakeOwn
namespace Go.Proofs.Ytpnbpglmcaglfaa
open Go.RowKit
set_option maxRecDepth 100000
set_option maxHeartbeats 4000000
set_option linter.unusedVariables false

theorem info_byte : (Try.prog.info? 5).map (fun i => (i.zero, i.size, i.bytes)) = some (some (.int .u8 0), 1, 1) := by kernel_rfl
theorem lClone_in (s : ByteArray) (w : World) (hs : s.size ≤ 2 ^ 47) :
    Calls Try.prog 39 #[.string s] w fun e w' => e = .returned (.string s) ∧ Below w.heap.size w w' := by
  by_cases h0 : s.size = 0
  · obtain rfl : s = ⟨#[]⟩ := ByteArray.ext (Array.eq_empty_of_size_eq_zero h0)
    go_enter Try.func39, Try.ntmps39
    go_wp2_with (fail)
    go_ret
    exact ⟨rfl, Below.refl _ _⟩
  · obtain ⟨i, hi, hz0, hz1, hz2⟩ := info_parts info_byte
    have hone : (Try.prog.info? 5).map (·.size) = some 1 := by rw [hi]; simp [hz1]
    have hcell : Try.prog.cellsOf 5 = 1 := by simp [Program.cellsOf, hi, hz1]
    obtain ⟨Z, hZs, hmk⟩ : ∃ Z : Array Value, Z.size = s.size ∧ ∀ W : World, (Instr.makeSlice 70 (.int .i64 (s.size : Int)) (.int .i64 (s.size : Int))).run Try.prog W = .ok (.slice (some ⟨W.heap.size, 0, none⟩) s.size s.size) (W.alloc (.cells Z 5)) := by
      refine ⟨madeCells (Value.int .u8 0).cells (((s.size : Nat) : Int).toNat * i.size), by rw [size_madeCells, hz1]; simp, fun W => ?_⟩
      simpa using run_make (P := Try.prog) W 70 5 i (.int .u8 0) Try.underlying70 hi hz0 .i64 .i64 (s.size : Int) (s.size : Int) (by omega) (by omega) (by rw [hz2]; omega) (by omega)
    have hnew := heap_alloc_new w (.cells Z 5)
    have hcopy := Lib.run_copy_row_string (P := Try.prog) (w.alloc (.cells Z 5)) 70 9 3 5 w.heap.size 0 s.size s.size s Z 5 Try.underlying70 hone hnew (Nat.le_refl _) (by omega)
    have hfill : (Z.toList.take 0 ++ Lib.byteCells s.data.toList ++ Z.toList.drop (0 + s.size)) = Lib.byteCells s.data.toList := by
      rw [List.take_zero, List.nil_append, List.drop_of_length_le (by rw [Array.length_toList]; omega), List.append_nil]
    rw [hfill] at hcopy
    have hlen : (Lib.byteCells s.data.toList).length = s.size := by rw [Lib.byteCells_length, ← Lib.size_eq]
    have hrow := setRow_heap (w.alloc (.cells Z 5)) w.heap.size Z (Lib.byteCells s.data.toList).toArray 5 (0, 0) hnew
    have hb : Below w.heap.size w ((w.alloc (.cells Z 5)).setRow w.heap.size (Lib.byteCells s.data.toList).toArray) :=
      ((Below.refl _ w).alloc (Nat.le_refl _) _).trans ⟨rfl, rfl, rfl, by simp, fun k hk => setRow_other _ _ _ _ (by omega)⟩
    have hstr := Lib.run_unsafeString_row (P := Try.prog) ((w.alloc (.cells Z 5)).setRow w.heap.size (Lib.byteCells s.data.toList).toArray) 71 3 9 5 Try.underlying71 hcell w.heap.size s.size (by unfold World.shape?; rw [hrow]; simp [hlen]) s.data.toList
      (fun e => h0 (by rw [Lib.size_eq, e]; rfl)) (by rw [← Lib.size_eq]; exact Nat.le_refl _) (by rw [← Lib.size_eq]; omega)
      (fun j x hx => Lib.cells_of_row hrow s.size j _ (by rw [List.take_of_length_le (by rw [hlen]; exact Nat.le_refl _)]; simp [Lib.byteCells, hx]))
    rw [← Lib.size_eq] at hstr
    generalize (Lib.byteCells s.data.toList).toArray = Y at hcopy hrow hb hstr
    go_enter Try.func39, Try.ntmps39
    go_wp2_with (fail)
    go_ret
    exact ⟨rfl, Lib.below_freeze hb (p := ⟨w.heap.size, 0, none⟩) (Nat.le_refl _) _⟩
theorem Clone_in (s : ByteArray) (w : World) (hs : s.size ≤ 2 ^ 47) :
    Calls Try.prog 35 #[.string s] w fun e w' => e = .returned (.string s) ∧ Below w.heap.size w w' := by
  have K := lClone_in s w hs
  go_enter Try.func35, Try.ntmps35
  go_wp2_with (go_at_call 39; refine K.mono ?_; clear K; rintro e w' ⟨rfl, hb⟩)
  go_ret
  exact ⟨rfl, hb⟩

/-- A table in memory, its entries the oldest first. -/
structure TabIs (w : World) (t : Nat) (v : Value) (m : Nat) (E : List (ByteArray × ByteArray)) : Prop where
  at_ : TabAt w t true m (total E) v
  row : w.ownsRow 0 23 3 v E.length (cellsE E)
theorem TabIs.form {w : World} {t : Nat} {v : Value} {m : Nat} {E : List (ByteArray × ByteArray)} (h : TabIs w t v m E) : ∃ q cap, v = .slice q E.length cap := by
  rcases h.row.2 with ⟨rfl, h0⟩ | ⟨g, cap, cur, rfl, _⟩
  · exact ⟨none, 0, by rw [h0]⟩
  · exact ⟨_, cap, rfl⟩
/-- It lies on where its blocks are left alone. -/
theorem TabIs.kept {w w' : World} {t : Nat} {v : Value} {m : Nat} {E : List (ByteArray × ByteArray)} (h : TabIs w t v m E) {S : Nat → Prop} (f : Fr S w w') (hS : ∀ k, (k = t ∨ v.ownBlock = some k) → ¬ S k) : TabIs w' t v m E := by
  refine ⟨(f.block t h.at_.lt (hS t (.inl rfl))).trans h.at_, h.row.1, ?_⟩
  rcases h.row.2 with hn | ⟨g, cap, cur, rfl, h1, h2, h3⟩
  · exact .inl hn
  · exact .inr ⟨g, cap, cur, rfl, h1, (f.block g (lt_of_heap h2) (hS g (.inr rfl))).trans h2, h3⟩
theorem fall_in (t m : Nat) (v : Value) (E : List (ByteArray × ByteArray)) (n : Int) (w : World) (h : TabIs w t v m E) (hT : total E < 2 ^ 60) (hn : -2 ^ 63 ≤ n) :
    Calls Try.prog 34 #[.pointer (some ⟨t, 0, none⟩), .int .i64 n] w fun e w' => e = .returned (.tuple #[]) ∧ ∃ v', TabIs w' t v' m (fallen n E) ∧ v'.ownBlock = v.ownBlock ∧ Fr (fun k => k = t ∨ v.ownBlock = some k) w w' := by
  rcases h.row.2 with ⟨rfl, h0⟩ | ⟨g, cap, cur, rfl, h1, h2, h3, h4, h5, h6⟩
  · obtain rfl : E = [] := List.eq_nil_of_length_eq_zero h0
    refine (fall_nil t m n w h.at_).mono ?_
    rintro e w' ⟨rfl, rfl⟩
    exact ⟨rfl, _, h, rfl, Fr.refl _ _⟩
  · refine (fall_some t m g cap E cur n w h.at_ h2 h5 h3 h6 hT hn).mono ?_
    rintro e w' ⟨rfl, cur', k1, k2, k3, k4, k5⟩
    refine ⟨rfl, .slice (some ⟨g, 0, none⟩) (fallen n E).length cap, ⟨k1, cellsE_length _, .inr ⟨g, cap, cur', rfl, Nat.zero_le _, k2, ?_, h4, k3, k4⟩⟩, rfl, k5.mono ?_⟩
    · have e1 := congrArg List.length k4
      have e2 : cur'.toList.length = cur'.size := Array.length_toList
      rw [List.length_take, cellsE_length, e2] at e1
      omega
    · rintro k _ (rfl | rfl)
      · exact .inl rfl
      · exact .inr rfl

theorem Get_static (t m : Nat) (v : Value) (E : List (ByteArray × ByteArray)) (i : Int) (w : World) (h : TabIs w t v m E) (hi : i ≤ 61) :
    Calls Try.prog 19 #[.pointer (some ⟨t, 0, none⟩), .int .i64 i] w fun e w' => e = .returned (.tuple #[.agg #[.string (stN i), .string (stV i), .bool false], .int .i64 (stE i)]) ∧ Below w.heap.size w w' := by
  have KN := none_in t true m _ v _ (h.at_.laid (.cells #[.string ⟨#[]⟩, .string ⟨#[]⟩, .bool false] 23))
  have KS := Static_in i (w.alloc (.cells #[.string ⟨#[]⟩, .string ⟨#[]⟩, .bool false] 23))
  have hd : i ≤ 61 := hi
  generalize stN i = n at *
  generalize stV i = u at *
  generalize stE i = x at *
  have HC : Hid (∀ w', Below (w.alloc (.cells #[.string ⟨#[]⟩, .string ⟨#[]⟩, .bool false] 23)).heap.size (w.alloc (.cells #[.string ⟨#[]⟩, .string ⟨#[]⟩, .bool false] 23)) w' → w'.heap[w.heap.size]? = some (.cells #[.string ⟨#[]⟩, .string ⟨#[]⟩, .bool false] 23)) := fun w' b => heap_below b (by simp) (heap_alloc_new w _)
  go_enter Try.func19, Try.ntmps19
  go_wp2_with (first
    | (go_at_call 33; refine KN.mono ?_; clear KN; rintro e w' ⟨rfl, rfl⟩)
    | (go_at_call 9; refine KS.mono ?_; clear KS; rintro e w1 ⟨rfl, b1⟩; have g1 := HC.out w1 b1; have q0 := cell_of_heap g1 (i := 0) rfl; have q1 := cell_of_heap g1 (i := 1) rfl; have q2 := cell_of_heap g1 (i := 2) rfl; have z0 : w1.frozen? ⟨w.heap.size, 0, none⟩ = false := frozen_of_heap g1; have z1 : w1.frozen? ⟨w.heap.size, 1, none⟩ = false := frozen_of_heap g1; have z2 : w1.frozen? ⟨w.heap.size, 2, none⟩ = false := frozen_of_heap g1))
  have g3 : (((w1.setCell ⟨w.heap.size, 0, none⟩ (.string n)).setCell ⟨w.heap.size, 1, none⟩ (.string u)).setCell ⟨w.heap.size, 2, none⟩ (.bool false)).heap[w.heap.size]? = some (.cells #[.string n, .string u, .bool false] 23) := heap_set _ (heap_set _ (heap_set _ g1))
  have r0 := cell_of_heap g3 (i := 0) rfl
  have r1 := cell_of_heap g3 (i := 1) rfl
  have r2 := cell_of_heap g3 (i := 2) rfl
  refine bodyPost_ret (v := .tuple #[.agg #[.string n, .string u, .bool false], .int .i64 x]) (by simp [results, Try.results19, go_sem, r0, r1, r2]) rfl ⟨rfl, ?_⟩
  have hb : Below w.heap.size w w1 := Below.trans ((Below.refl _ w).alloc (Nat.le_refl _) _) (b1.mono (by simp))
  exact ((hb.setCell (p := ⟨w.heap.size, 0, none⟩) (Nat.le_refl _) _).setCell (p := ⟨w.heap.size, 1, none⟩) (Nat.le_refl _) _).setCell (p := ⟨w.heap.size, 2, none⟩) (Nat.le_refl _) _
theorem Get_none (t m : Nat) (v : Value) (E : List (ByteArray × ByteArray)) (i : Int) (w : World) (h : TabIs w t v m E) (hi : (E.length : Int) + 61 < i) (hi2 : i < 2 ^ 63) :
    Calls Try.prog 19 #[.pointer (some ⟨t, 0, none⟩), .int .i64 i] w fun e w' => e = .returned (.tuple #[.agg #[.string ⟨#[]⟩, .string ⟨#[]⟩, .bool false], .int .i64 50]) ∧ Below w.heap.size w w' := by
  have KN := none_in t true m _ v _ (h.at_.laid (.cells #[.string ⟨#[]⟩, .string ⟨#[]⟩, .bool false] 23))
  obtain ⟨q, cap, rfl⟩ := h.form
  have c3 := (h.at_.laid (.cells #[.string ⟨#[]⟩, .string ⟨#[]⟩, .bool false] 23)).c3
  obtain ⟨L, hL⟩ : ∃ L, E.length = L := ⟨_, rfl⟩
  rw [hL] at hi c3
  have hd : ¬ i ≤ 61 := by omega
  have hd2 : (L : Int) < i - 61 := by omega
  go_enter Try.func19, Try.ntmps19
  go_wp2_with (go_at_call 33; refine KN.mono ?_; clear KN; rintro e w' ⟨rfl, rfl⟩)
  refine bodyPost_ret (v := .tuple #[.agg #[.string ⟨#[]⟩, .string ⟨#[]⟩, .bool false], .int .i64 50]) (by simp [results, Try.results19, go_sem]) rfl ⟨rfl, (Below.refl _ w).alloc (Nat.le_refl _) _⟩
theorem Get_some (t m : Nat) (v : Value) (E : List (ByteArray × ByteArray)) (k : Nat) (e : ByteArray × ByteArray) (w : World) (h : TabIs w t v m E) (hk : k < E.length) (he : E[E.length - 1 - k]? = some e) (hT : E.length < 2 ^ 58) :
    Calls Try.prog 19 #[.pointer (some ⟨t, 0, none⟩), .int .i64 ((k : Int) + 62)] w fun r w' => r = .returned (.tuple #[.agg #[.string e.1, .string e.2, .bool false], .int .i64 0]) ∧ Below w.heap.size w w' := by
  have KN := none_in t true m _ v _ (h.at_.laid (.cells #[.string ⟨#[]⟩, .string ⟨#[]⟩, .bool false] 23))
  rcases h.row.2 with ⟨rfl, h0⟩ | ⟨g, cap, cur, rfl, h1, h2, h3, h4, h5, h6⟩
  · omega
  · have c3 := (h.at_.laid (.cells #[.string ⟨#[]⟩, .string ⟨#[]⟩, .bool false] 23)).c3
    obtain ⟨k0, k1, k2⟩ := row_cells (n := 0) (cap := 0) (heap_of_alloc h2 (.cells #[.string ⟨#[]⟩, .string ⟨#[]⟩, .bool false] 23)) h6 he
    obtain ⟨L, hL⟩ : ∃ L, E.length = L := ⟨_, rfl⟩
    rw [hL] at k0 k1 k2 c3 hk hT
    obtain ⟨j, hj⟩ : ∃ j, L - 1 - k = j := ⟨_, rfl⟩
    rw [hj] at k0 k1 k2
    have hd : ¬ (k : Int) + 62 ≤ 61 := by omega
    have hd1 : (k : Int) + 62 - 61 = ((k + 1 : Nat) : Int) := by omega
    have hd2 : ¬ (L : Int) < ((k + 1 : Nat) : Int) := by omega
    have hd3 : (L : Int) - ((k + 1 : Nat) : Int) = (j : Int) := by omega
    have hd4 : j < L := by omega
    generalize k + 1 = k' at hd1 hd2 hd3
    clear hj
    go_enter Try.func19, Try.ntmps19
    go_wp2_with (go_at_call 33; refine KN.mono ?_; clear KN; rintro e w' ⟨rfl, rfl⟩)
    go_region
    all_goals go_wp2_with (fail)
    all_goals refine bodyPost_ret (v := .tuple #[.agg #[.string e.1, .string e.2, .bool false], .int .i64 0]) (by simp [results, Try.results19, go_sem]) rfl ⟨rfl, ((Below.refl _ w).alloc (Nat.le_refl _) _).drew⟩

theorem Resize_bad (t m : Nat) (v : Value) (E : List (ByteArray × ByteArray)) (n : Int) (w : World) (h : TabIs w t v m E) (hn : ¬ (0 ≤ n ∧ n ≤ 65536)) :
    Calls Try.prog 21 #[.pointer (some ⟨t, 0, none⟩), .int .i64 n] w fun e w' => e = .returned (.int .i64 1) ∧ w' = w := by
  have KN := none_in t true m _ v _ h.at_
  have KM := mayBe_in n w
  rw [decide_eq_false hn] at KM
  go_enter Try.func21, Try.ntmps21
  go_wp2_with (first
    | (go_at_call 33; refine KN.mono ?_; clear KN; rintro e w' ⟨rfl, rfl⟩)
    | (go_at_call 27; refine KM.mono ?_; clear KM; rintro e w' ⟨rfl, rfl⟩))
  go_ret
  exact ⟨rfl, rfl⟩
theorem Resize_in (t m n : Nat) (v : Value) (E : List (ByteArray × ByteArray)) (w : World) (h : TabIs w t v m E) (hn : n ≤ 65536) (hT : total E < 2 ^ 60) :
    Calls Try.prog 21 #[.pointer (some ⟨t, 0, none⟩), .int .i64 (n : Int)] w fun e w' => e = .returned (.int .i64 0) ∧ ∃ v', TabIs w' t v' n (fallen n E) ∧ v'.ownBlock = v.ownBlock ∧ Fr (fun k => k = t ∨ v.ownBlock = some k) w w' := by
  have KN := none_in t true m _ v _ h.at_
  have KM := mayBe_in (n : Int) w
  rw [decide_eq_true (show (0 : Int) ≤ n ∧ (n : Int) ≤ 65536 by omega)] at KM
  have c1 := h.at_.c1
  have z1 : w.frozen? ⟨t, 1, none⟩ = false := frozen_of_heap h.at_
  have fr1 : Fr (fun k => k = t ∨ v.ownBlock = some k) w (w.setCell ⟨t, 1, none⟩ (.int .i64 (n : Int))) := (Fr.refl _ w).setCell ⟨t, 1, none⟩ (fun _ => .inl rfl) _
  have h2 : TabIs (w.setCell ⟨t, 1, none⟩ (.int .i64 (n : Int))) t v n E := by
    refine ⟨heap_set _ h.at_, h.row.1, ?_⟩
    rcases h.row.2 with hn | ⟨g, cap, cur, rfl, a1, a2, a3⟩
    · exact .inl hn
    · exact .inr ⟨g, cap, cur, rfl, a1, (heap_set_other (h.at_.ne a2) _).trans a2, a3⟩
  have KF := fall_in t n v E (n : Int) _ h2 hT (by omega)
  have HFR : Hid (Fr (fun k => k = t ∨ v.ownBlock = some k) w (w.setCell ⟨t, 1, none⟩ (.int .i64 (n : Int)))) := fr1
  clear fr1 h2
  go_enter Try.func21, Try.ntmps21
  go_wp2_with (first
    | (go_at_call 33; refine KN.mono ?_; clear KN; rintro e w' ⟨rfl, rfl⟩)
    | (go_at_call 27; refine KM.mono ?_; clear KM; rintro e w' ⟨rfl, rfl⟩)
    | (go_at_call 34; refine KF.mono ?_; clear KF; rintro e w2 ⟨rfl, v2, hv2, ho2, hf2⟩))
  go_ret
  exact ⟨rfl, v2, hv2, ho2, HFR.out.trans hf2⟩
end Go.Proofs.Ytpnbpglmcaglfaa
