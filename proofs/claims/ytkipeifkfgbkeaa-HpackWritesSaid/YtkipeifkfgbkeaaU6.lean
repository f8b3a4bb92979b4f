/- Contract of Add. -/
import Derived.Test.YtkipeifkfgbkeaaU5
namespace Go.Proofs.Ytkipeifkfgbkeaa
open Go.RowKit
set_option maxRecDepth 100000
set_option maxHeartbeats 8000000
set_option linter.unusedVariables false

theorem Add_in (t m : Nat) (v : Value) (E : List (ByteArray × ByteArray)) (n u : ByteArray) (s : Bool) (w : World) (h : TabIs w t v m E) (hm : m ≤ 65536) (hT : total E ≤ 65536) (hn : n.size < 2 ^ 47) (hu : u.size < 2 ^ 47) :
    Calls Try.prog 33 #[.pointer (some ⟨t, 0, none⟩), .agg #[.string n, .string u, .bool s]] w fun e w' => e = .returned (.int .i64 0) ∧ AddPost t m v (added m E (n, u)) w w' := by
  have H0 : Hid (AddSt t m v v E n u s w (w.alloc (.cells #[.string n, .string u, .bool s] 59))) := AddSt.start h n u s
  have KN := none_in t true m _ v _ H0.out.tab.at_
  obtain ⟨sz, hsz⟩ : ∃ sz, n.size + u.size + 32 = sz := ⟨_, rfl⟩
  have KS : Calls Try.prog 32 #[.agg #[.string n, .string u, .bool s]] (w.alloc (.cells #[.string n, .string u, .bool s] 59)) fun e w2 => e = .returned (.int .i64 (sz : Int)) ∧ AddSt t m v v E n u s w w2 := by
    refine (Size_in n u s _ (by omega) (by omega)).mono ?_
    rintro e w2 ⟨rfl, rfl⟩
    rw [hsz]
    exact ⟨rfl, H0.out.below ((Below.refl _ _).alloc (Nat.le_refl _) _)⟩
  have hesz : esz (n, u) = sz := hsz
  have hszb : sz < 2 ^ 50 := by omega
  have HH : Hid (TabIs w t v m E) := h
  have KF : Hid (∀ w2, AddSt t m v v E n u s w w2 → Calls Try.prog 39 #[.pointer (some ⟨t, 0, none⟩), .int .i64 ((m : Int) - (sz : Int))] w2 fun e w3 => e = .returned (.tuple #[]) ∧ ∃ v3, AddSt t m v v3 (fallen ((m : Int) - (sz : Int)) E) n u s w w3) := fun w2 h2 => by
    refine (fall_in t m v E _ w2 h2.tab (by omega) (by omega)).mono ?_
    rintro e w3 ⟨rfl, v3, a1, a2, a3⟩
    exact ⟨rfl, v3, AddSt.fell h h2 a1 a2 a3⟩
  have hadd : added m E (n, u) = if m < sz then fallen ((m : Int) - (sz : Int)) E else fallen ((m : Int) - (sz : Int)) E ++ [(n, u)] := by rw [added, hesz]
  rw [hadd]
  have hFt : total (fallen ((m : Int) - (sz : Int)) E) ≤ 65536 := Nat.le_trans (fallen_le _ _) hT
  have hFs : ¬ m < sz → total (fallen ((m : Int) - (sz : Int)) E) + sz ≤ m := fun hms => by have := fallen_fits ((m : Int) - (sz : Int)) E (by omega); omega
  generalize fallen ((m : Int) - (sz : Int)) E = F at KF hFt hFs ⊢
  clear hadd h hsz
  go_enter Try.func33, Try.ntmps33
  go_wp2_with (first
    | (go_at_call 38; refine KN.mono ?_; clear KN; rintro e w' ⟨rfl, rfl⟩)
    | (go_at_call 32; refine KS.mono ?_; clear KS; rintro e w2 ⟨rfl, h2⟩; have H2 : Hid (AddSt t m v v E n u s w w2) := h2; clear h2; have c1 := TabAt.c1 H2.out.tab.at_)
    | (go_at_call 39; refine (KF.out w2 H2.out).mono ?_; clear KF; rintro e w3 ⟨rfl, v3, h3⟩; have H3 : Hid (AddSt t m v v3 F n u s w w3) := h3; clear h3; have c13 := TabAt.c1 H3.out.tab.at_))
  · refine ?_
    go_ret
    exact ⟨rfl, v3, H3.out.tab, fun k hk => .inl (by rw [← H3.out.own]; exact hk), H3.out.fr⟩
  · have HMS : Hid (¬ m < sz) := by show ¬ _; assumption
    have HSM : Hid (total F + sz ≤ 65536) := by have := hFs HMS.out; show _ ≤ _; omega
    clear hFs
    have KC : Hid (∀ (x : ByteArray) (w' : World), x.size ≤ 2 ^ 47 → Calls Try.prog 43 #[.string x] w' fun e w'' => e = .returned (.string x) ∧ Hid (Below w'.heap.size w' w'')) := fun x w' hx => Clone_in x w' hx
    have hn' : n.size ≤ 2 ^ 47 := by omega
    have hu' : u.size ≤ 2 ^ 47 := by omega
    have HB : Hid (∀ w', Below w3.heap.size w3 w' → w'.cell? ⟨w.heap.size, 0, none⟩ = some (.string n) ∧ w'.cell? ⟨w.heap.size, 1, none⟩ = some (.string u)) := fun w' b => by
      have hb := heap_below b (lt_of_heap H3.out.box) H3.out.box
      exact ⟨cell_of_heap hb rfl, cell_of_heap hb rfl⟩
    obtain ⟨s0, s1⟩ := HB.out w3 (Below.refl _ _)
    go_region_held_law (fun w' => w'.cell? ⟨w.heap.size, 0, none⟩ = some (.string n) ∧ w'.cell? ⟨w.heap.size, 1, none⟩ = some (.string u)) (first | exact ⟨s0, s1⟩ | exact ⟨r0, r1⟩ | exact ⟨t0, t1⟩ | exact HB.out _ (Below.alloc B5.out B5.out.size _) | exact HB.out _ (((Below.setCell B5.out (p := ⟨_, 0, none⟩) (by first | exact Nat.le_refl _ | exact B4.out.size) _).setCell (p := ⟨_, 1, none⟩) (by first | exact Nat.le_refl _ | exact B4.out.size) _).setCell (p := ⟨_, 2, none⟩) (by first | exact Nat.le_refl _ | exact B4.out.size) _) | go_keep)
      (first
        | (go_at_call 43; refine (KC.out n _ hn').mono ?_; rintro e w4 ⟨rfl, b4⟩; (first | (have B4 : Hid (Below w3.heap.size w3 w4) := Below.trans (Below.refl w3.heap.size w3).drew b4.out) | (have B4 : Hid (Below w3.heap.size w3 w4) := Below.trans ((Below.refl w3.heap.size w3).alloc (Nat.le_refl _) (.cells #[.string ⟨#[]⟩, .string ⟨#[]⟩, .bool false] 59)).drew (Below.mono b4.out (by simp)); have A4 : Hid (w4.heap[w3.heap.size]? = some (.cells #[.string ⟨#[]⟩, .string ⟨#[]⟩, .bool false] 59)) := heap_below b4.out (by simp) (heap_alloc_new w3 _))); obtain ⟨r0, r1⟩ := HB.out w4 B4.out)
        | (go_at_call 43; refine (KC.out u _ hu').mono ?_; rintro e w5 ⟨rfl, b5⟩; (first | (have B5 : Hid (Below w3.heap.size w3 w5) := Below.trans B4.out (Below.mono b5.out B4.out.size); (first | (have A5 : Hid (w5.heap[w3.heap.size]? = some (.cells #[.string ⟨#[]⟩, .string ⟨#[]⟩, .bool false] 59)) := heap_below b5.out (lt_of_heap A4.out) A4.out; have p0 := cell_of_heap A5.out (i := 0) rfl; have p1 := cell_of_heap A5.out (i := 1) rfl; have p2 := cell_of_heap A5.out (i := 2) rfl; have y0 : w5.frozen? ⟨w3.heap.size, 0, none⟩ = false := frozen_of_heap A5.out; have y1 : w5.frozen? ⟨w3.heap.size, 1, none⟩ = false := frozen_of_heap A5.out; have y2 : w5.frozen? ⟨w3.heap.size, 2, none⟩ = false := frozen_of_heap A5.out) | skip)) | (have B5 : Hid (Below w3.heap.size w3 w5) := Below.trans (B4.out.alloc B4.out.size (.cells #[.string ⟨#[]⟩, .string ⟨#[]⟩, .bool false] 59)) (Below.mono b5.out (by have := B4.out.size; simp; omega)); have A5 : Hid (w5.heap[w4.heap.size]? = some (.cells #[.string ⟨#[]⟩, .string ⟨#[]⟩, .bool false] 59)) := heap_below b5.out (by simp) (heap_alloc_new w4 _); have p0 := cell_of_heap A5.out (i := 0) rfl; have p1 := cell_of_heap A5.out (i := 1) rfl; have p2 := cell_of_heap A5.out (i := 2) rfl; have y0 : w5.frozen? ⟨w4.heap.size, 0, none⟩ = false := frozen_of_heap A5.out; have y1 : w5.frozen? ⟨w4.heap.size, 1, none⟩ = false := frozen_of_heap A5.out; have y2 : w5.frozen? ⟨w4.heap.size, 2, none⟩ = false := frozen_of_heap A5.out)); obtain ⟨t0, t1⟩ := HB.out w5 B5.out))
    all_goals (first
      | (have A6 : Hid ((((w5.setCell ⟨w4.heap.size, 0, none⟩ (.string n)).setCell ⟨w4.heap.size, 1, none⟩ (.string u)).setCell ⟨w4.heap.size, 2, none⟩ (.bool false)).heap[w4.heap.size]? = some (.cells #[.string n, .string u, .bool false] 59)) := heap_set _ (heap_set _ (heap_set _ A5.out)); have B6 : Hid (Below w3.heap.size w3 (((w5.setCell ⟨w4.heap.size, 0, none⟩ (.string n)).setCell ⟨w4.heap.size, 1, none⟩ (.string u)).setCell ⟨w4.heap.size, 2, none⟩ (.bool false))) := ((Below.setCell B5.out (p := ⟨_, 0, none⟩) B4.out.size _).setCell (p := ⟨_, 1, none⟩) B4.out.size _).setCell (p := ⟨_, 2, none⟩) B4.out.size _; generalize ((w5.setCell ⟨w4.heap.size, 0, none⟩ (.string n)).setCell ⟨w4.heap.size, 1, none⟩ (.string u)).setCell ⟨w4.heap.size, 2, none⟩ (.bool false) = w6 at A6 B6 ⊢; generalize w4.heap.size = b6 at A6 ⊢)
      | (have A6 : Hid ((((w5.setCell ⟨w3.heap.size, 0, none⟩ (.string n)).setCell ⟨w3.heap.size, 1, none⟩ (.string u)).setCell ⟨w3.heap.size, 2, none⟩ (.bool false)).heap[w3.heap.size]? = some (.cells #[.string n, .string u, .bool false] 59)) := heap_set _ (heap_set _ (heap_set _ A5.out)); have B6 : Hid (Below w3.heap.size w3 (((w5.setCell ⟨w3.heap.size, 0, none⟩ (.string n)).setCell ⟨w3.heap.size, 1, none⟩ (.string u)).setCell ⟨w3.heap.size, 2, none⟩ (.bool false))) := ((Below.setCell B5.out (p := ⟨_, 0, none⟩) (Nat.le_refl _) _).setCell (p := ⟨_, 1, none⟩) (Nat.le_refl _) _).setCell (p := ⟨_, 2, none⟩) (Nat.le_refl _) _; generalize ((w5.setCell ⟨w3.heap.size, 0, none⟩ (.string n)).setCell ⟨w3.heap.size, 1, none⟩ (.string u)).setCell ⟨w3.heap.size, 2, none⟩ (.bool false) = w6 at A6 B6 ⊢; generalize w3.heap.size = b6 at A6 ⊢)
      | (have A6 : Hid ((w5.alloc (.cells #[.string n, .string u, .bool false] 59)).heap[w5.heap.size]? = some (.cells #[.string n, .string u, .bool false] 59)) := heap_alloc_new w5 _; have B6 : Hid (Below w3.heap.size w3 (w5.alloc (.cells #[.string n, .string u, .bool false] 59))) := Below.alloc B5.out B5.out.size _; generalize w5.alloc (.cells #[.string n, .string u, .bool false] 59) = w6 at A6 B6 ⊢; generalize w5.heap.size = b6 at A6 ⊢))
    all_goals go_wp2_with (fail)
    all_goals
      have H6 : Hid (AddSt t m v v3 F n u s w w6) := H3.out.below B6.out
      have c36 := TabAt.c3 H6.out.tab.at_
      have c36' : ∀ o, (w6.alloc o).cell? ⟨t, 3, none⟩ = some v3 := fun o => TabAt.c3 (H6.out.tab.at_.laid o)
      have p60 := cell_of_heap A6.out (i := 0) rfl
      have p61 := cell_of_heap A6.out (i := 1) rfl
      have p62 := cell_of_heap A6.out (i := 2) rfl
      have HR : Hid (∀ o, (w6.alloc o).ownsRow 0 59 3 v3 F.length (cellsE F)) := fun o => row_alloc H6.out.tab.row o
      have HN : Hid (∀ (j : Nat) x, [Value.string n, Value.string u, Value.bool false][j]? = some x → (w6.alloc (.cells #[.string n, .string u, .bool false] 59)).cell? ((⟨w6.heap.size, 0, none⟩ : Addr).add j) = some x) := fun j x hj => by
        rw [add_none, Nat.zero_add]
        exact cell_of_heap (heap_alloc_new w6 _) (by simpa using hj)
      have HN1 : Hid (∀ x ∈ [Value.string n, Value.string u, Value.bool false], x.oneCell' = true) := fun x hx => by
        simp at hx; rcases hx with rfl | rfl | rfl <;> rfl
      have hF2 := total_len F
      have HM63 : Hid (F.length + 1 ≤ maxLen) := by show _ ≤ _; simp only [maxLen]; omega
      have HBY : Hid (((F.length + 1) + (F.length + 1) / 4 + 192) * 40 ≤ 281474976710656) := by show _ ≤ _; omega
      obtain ⟨i, J1, J2, J3, J4⟩ : ∃ i, Hid (Try.prog.info? 59 = some i) ∧ Hid (i.zero = some (.agg #[.string ⟨#[]⟩, .string ⟨#[]⟩, .bool false])) ∧ Hid (i.size = 3) ∧ Hid (i.bytes = 40) := info_parts info_hdr
      have hsum : total F + sz ≤ 65536 := HSM.out
      have HSZ : Hid (esz (n, u) = sz) := hesz
      clear hF2 hesz
      go_region_law (refine step_append_wide rfl (.tmp 36) (.tmp 38) 30 rfl 59 i (.agg #[.string ⟨#[]⟩, .string ⟨#[]⟩, .bool false]) 3 40 Try.underlying30 J1.out J2.out J3.out J4.out rfl (by decide) v3 F.length (cellsE F) (by go_simp) (HR.out _) ⟨w6.heap.size, 0, none⟩ 1 1 [.string n, .string u, .bool false] (by go_simp) (by decide) rfl HN.out HN1.out HM63.out HBY.out ?_; intro v7 w7 HO7 HG7 HW7; obtain ⟨g7, cap7, rfl⟩ := ownsRow_succ HO7.out; have T7 : Hid (TabAt w7 t true m (total F) v3) := add_mid H6.out (grown_drew HG7.out); have c37 := TabAt.c3 T7.out; have z37 : w7.frozen? ⟨t, 3, none⟩ = false := frozen_of_heap T7.out; have c27 := TabAt.c2 T7.out; have z27 : w7.frozen? ⟨t, 2, none⟩ = false := frozen_of_heap T7.out)
      all_goals go_wp2_with (fail)
      all_goals go_ret
      all_goals exact ⟨rfl, add_end HH.out H6.out (grown_drew HG7.out) HO7.out HW7.out HSZ.out⟩
end Go.Proofs.Ytkipeifkfgbkeaa
