/- The document's table in memory, the newest entry first: New, Bytes, fall. -/
import Derived.Test.YtkipeifkfgbkeaaV1
namespace Go.Proofs.Ytkipeifkfgbkeaa
open Go.RowKit
set_option maxRecDepth 100000
set_option maxHeartbeats 8000000
set_option linter.unusedVariables false

/-- The document's table: what it may have, its entries. -/
structure RIs (w : World) (t : Nat) (v : Value) (m : Nat) (F : List (ByteArray × ByteArray)) : Prop where
  at_ : w.heap[t]? = some (.cells #[.int .i64 (m : Int), v] 62)
  row : w.ownsRow 0 59 3 v F.length (cellsE F)
theorem RIs.form {w : World} {t : Nat} {v : Value} {m : Nat} {F : List (ByteArray × ByteArray)} (h : RIs w t v m F) : ∃ q cap, v = .slice q F.length cap := by
  rcases h.row.2 with ⟨rfl, h0⟩ | ⟨g, cap, cur, rfl, _⟩
  · exact ⟨none, 0, by rw [h0]⟩
  · exact ⟨_, cap, rfl⟩
theorem RIs.kept {w w' : World} {t : Nat} {v : Value} {m : Nat} {F : List (ByteArray × ByteArray)} (h : RIs w t v m F) {S : Nat → Prop} (f : Fr S w w') (hS : ∀ k, (k = t ∨ v.ownBlock = some k) → ¬ S k) : RIs w' t v m F := by
  refine ⟨(f.block t (lt_of_heap h.at_) (hS t (.inl rfl))).trans h.at_, h.row.1, ?_⟩
  rcases h.row.2 with hn | ⟨g, cap, cur, rfl, h1, h2, h3⟩
  · exact .inl hn
  · exact .inr ⟨g, cap, cur, rfl, h1, (f.block g (lt_of_heap h2) (hS g (.inr rfl))).trans h2, h3⟩
theorem RIs.below {w w' : World} {t : Nat} {v : Value} {m : Nat} {F : List (ByteArray × ByteArray)} (h : RIs w t v m F) (b : Below w.heap.size w w') : RIs w' t v m F := h.kept (S := fun _ => False) (Fr.of_below b) (fun _ _ => id)
theorem RIs.laid {w : World} {t : Nat} {v : Value} {m : Nat} {F : List (ByteArray × ByteArray)} (h : RIs w t v m F) (o : Obj) : RIs (w.alloc o) t v m F := h.below ((Below.refl _ w).alloc (Nat.le_refl _) o)
theorem RIs.own_lt {w : World} {t : Nat} {v : Value} {m : Nat} {F : List (ByteArray × ByteArray)} (h : RIs w t v m F) {k : Nat} (hk : k = t ∨ v.ownBlock = some k) : k < w.heap.size := by
  rcases hk with rfl | hk
  · exact lt_of_heap h.at_
  · rcases h.row.2 with ⟨rfl, _⟩ | ⟨g, cap, cur, rfl, _, h2, _⟩
    · cases hk
    · cases hk; exact lt_of_heap h2
/-- The cells of an entry. -/
theorem RIs.cells {w : World} {t : Nat} {v : Value} {m : Nat} {F : List (ByteArray × ByteArray)} (h : RIs w t v m F) {i : Nat} {e : ByteArray × ByteArray} (he : F[i]? = some e) :
    ∃ g cap, v = .slice (some ⟨g, 0, none⟩) F.length cap ∧ w.cell? ⟨g, i * 3, none⟩ = some (.string e.1) ∧ w.cell? ⟨g, i * 3 + 1, none⟩ = some (.string e.2) ∧ w.cell? ⟨g, i * 3 + 2, none⟩ = some (.bool false) := by
  have hi := (List.getElem?_eq_some_iff.1 he).1
  rcases h.row.2 with ⟨rfl, h0⟩ | ⟨g, cap, cur, rfl, h1, h2, h3, h4, h5, h6⟩
  · omega
  · exact ⟨g, cap, rfl, row_cells (n := 0) (cap := 0) h2 h6 he⟩

theorem rNew_in (n : Nat) (w : World) (hn : n ≤ 65536) :
    Calls Try.prog 14 #[.int .i64 (n : Int)] w fun e w' => e = .returned (.tuple #[.pointer (some ⟨w.heap.size, 0, none⟩), .int .i64 0]) ∧ w' = w.alloc (.cells #[.int .i64 (n : Int), .slice none 0 0] 62) := by
  have hd1 : ¬ (n : Int) < 0 := by omega
  have hd2 : ¬ (65536 : Int) < (n : Int) := by omega
  go_enter Try.func14, Try.ntmps14
  go_wp2_with (fail)
  go_ret2
  exact ⟨rfl, rfl⟩
theorem rNew_bad (n : Int) (w : World) (hn : ¬ (0 ≤ n ∧ n ≤ 65536)) :
    Calls Try.prog 14 #[.int .i64 n] w fun e w' => e = .returned (.tuple #[.pointer none, .int .i64 1]) ∧ w' = w := by
  by_cases h0 : n < 0
  · have hd : decide (n < 0) = true := decide_eq_true h0
    go_enter Try.func14, Try.ntmps14
    go_wp2_with (fail)
    go_ret2
    exact ⟨rfl, rfl⟩
  · have hd : (65536 : Int) < n := by omega
    go_enter Try.func14, Try.ntmps14
    go_wp2_with (fail)
    go_ret2
    exact ⟨rfl, rfl⟩
theorem New_bad (n : Int) (w : World) (hn : ¬ (0 ≤ n ∧ n ≤ 65536)) :
    Calls Try.prog 13 #[.int .i64 n] w fun e w' => e = .returned (.tuple #[.pointer none, .int .i64 1]) ∧ w' = w := by
  have K := mayBe_in n w
  rw [decide_eq_false hn] at K
  go_enter Try.func13, Try.ntmps13
  go_wp2_with (go_at_call 25; refine K.mono ?_; clear K; rintro e w' ⟨rfl, rfl⟩)
  go_ret2
  exact ⟨rfl, rfl⟩
theorem total_take {F : List (ByteArray × ByteArray)} {i : Nat} {e : ByteArray × ByteArray} (h : F[i]? = some e) : total (F.take (i + 1)) = total (F.take i) + esz e := by
  obtain ⟨hi, he⟩ := List.getElem?_eq_some_iff.1 h
  rw [List.take_add_one, h, total_append]
  simp [total]
theorem total_take_le (F : List (ByteArray × ByteArray)) (i : Nat) : total (F.take i) ≤ total F := by
  have h := total_append (F.take i) (F.drop i)
  rw [List.take_append_drop] at h
  omega
theorem rBytes_in (t m : Nat) (v : Value) (F : List (ByteArray × ByteArray)) (w : World) (h : RIs w t v m F) (hT : total F < 2 ^ 50) :
    Calls Try.prog 11 #[.pointer (some ⟨t, 0, none⟩)] w fun e w' => e = .returned (.int .i64 (total F : Int)) ∧ Below w.heap.size w w' := by
  have HT : Hid (RIs w t v m F) := h
  clear h
  go_enter Try.func11, Try.ntmps11
  go_wp2_with (fail)
  go_loopw [3, 4] (fun x3 x4 wr => ∃ i : Nat, x4 = .int .i64 (i : Int) ∧ x3 = .int .i64 ((total (F.take i) : Nat) : Int) ∧ i ≤ F.length ∧ Below w.heap.size w wr)
    (fun x3 x4 wr => F.length - (intOf x4).toNat)
  case atStart => exact ⟨0, rfl, by simp [total], by omega, Below.refl _ _⟩
  case round =>
    obtain ⟨i, rfl, rfl, hi, hB⟩ := hrel
    have HR : Hid (RIs wr t v m F) := HT.out.below hB
    have HB : Hid (Below w.heap.size w wr) := hB
    obtain ⟨q, cap, rfl⟩ := HT.out.form
    have c1 : wr.cell? ⟨t, 1, none⟩ = some (.slice q F.length cap) := cell_of_heap HR.out.at_ rfl
    have htl := total_take_le F i
    have hlen := total_len F
    clear hB
    by_cases hiL : i < F.length
    · obtain ⟨e, he⟩ : ∃ e, F[i]? = some e := ⟨F[i]'hiL, List.getElem?_eq_getElem _⟩
      obtain ⟨g, cap', hv, k0, k1, k2⟩ := HR.out.cells he
      cases hv
      have hnx := total_take he
      have hle := total_take_le F (i + 1)
      have hesz : esz e = e.1.size + e.2.size + 32 := rfl
      have KS := fun w' => rSize_in e.1 e.2 false w' (by omega) (by omega)
      rw [← hesz] at KS
      have HNX : Hid (total (F.take (i + 1)) = total (F.take i) + esz e) := hnx
      obtain ⟨tk, htk⟩ : ∃ tk, total (F.take i) = tk := ⟨_, rfl⟩
      obtain ⟨sz, hsz⟩ : ∃ sz, esz e = sz := ⟨_, rfl⟩
      obtain ⟨L, hL⟩ : ∃ L, F.length = L := ⟨_, rfl⟩
      have HE : Hid (total (F.take i) = tk ∧ esz e = sz ∧ F.length = L) := ⟨htk, hsz, hL⟩
      rw [htk]
      rw [hsz] at KS
      rw [hL] at c1 hiL hlen
      have b1 : tk + sz < 2 ^ 50 := by omega
      have b2 : L < 2 ^ 50 := by omega
      have d1 : (i : Int) < (L : Int) := by omega
      clear hnx hle hesz htk hsz hL htl hlen hT hi
      go_wp2_with (go_at_call 24; refine (KS _).mono ?_; rintro e w' ⟨rfl, rfl⟩)
      go_roundw
      case rel => exact ⟨i + 1, rfl, by rw [HNX.out, HE.out.1, HE.out.2.1]; simp, by have := HE.out.2.2; omega, HB.out.alloc HB.out.size _⟩
      case measure => have := HE.out.2.2; simp only [intOf]; omega
    · obtain rfl : i = F.length := by omega
      rw [List.take_length]
      go_wp2_with (fail)
      go_ret
      exact ⟨rfl, HB.out⟩
/-- A shorter look at the same row. -/
theorem row_cut {w : World} {g n cap : Nat} {F : List (ByteArray × ByteArray)} (h : w.ownsRow 0 59 3 (.slice (some ⟨g, 0, none⟩) F.length cap) F.length (cellsE F)) (hn : n ≤ F.length) :
    w.ownsRow 0 59 3 (.slice (some ⟨g, 0, none⟩) n cap) (F.take n).length (cellsE (F.take n)) := by
  have hl : (F.take n).length = n := by simp; omega
  rcases h.2 with ⟨e, _⟩ | ⟨g', cap', cur, hv, h1, h2, h3, h4, h5, h6⟩
  · cases e
  · cases hv
    refine ⟨by rw [cellsE_length], .inr ⟨g, cap, cur, by rw [hl], h1, h2, by omega, h4, h5, ?_⟩⟩
    have e1 : cellsE (F.take n) = (cellsE F).take (n * 3) := by
      have := cellsE_append (F.take n) (F.drop n)
      rw [List.take_append_drop] at this
      rw [this, List.take_left' (by rw [cellsE_length, hl])]
    rw [e1, hl, ← h6, List.take_take, Nat.min_eq_left (by omega)]
theorem fallen_tail {k : Int} {e : ByteArray × ByteArray} {r : List (ByteArray × ByteArray)} (h : k < ((total (e :: r) : Nat) : Int)) : fallen k (e :: r) = fallen k r := by rw [fallen, if_pos h]
theorem total_reverse (E : List (ByteArray × ByteArray)) : total E.reverse = total E := by
  induction E with
  | nil => rfl
  | cons e r ih => rw [List.reverse_cons, total_append, ih]; simp [total]; omega
end Go.Proofs.Ytkipeifkfgbkeaa
