/- A number's word. -/
import Derived.Test.YtfehmlopndklcaaDoorScb
namespace Go.Proofs.YtfehmlopndklcaaDoor
open Go.RowKit
set_option maxRecDepth 100000
set_option maxHeartbeats 4000000
set_option linter.unusedVariables false

def errV (n : Int) : Value := .iface 25 (.int .i64 n)
def numA (o : Option Nat) : Value := match o with | some n => .tuple #[.iface 86 (.int .i64 (n : Int)), .nilIface] | none => .tuple #[.nilIface, .iface 25 (.int .i64 4)]
theorem numO_long {l : List UInt8} (h : 9 < l.length) : numO l = none := by unfold numO; simp [h]
theorem numO_zero {l : List UInt8} (h : 1 < l.length) (h0 : l.head? = some 48) : numO l = none := by unfold numO; simp [h, h0]
theorem numO_go {l : List UInt8} (h0 : 0 < l.length) (h9 : ¬ 9 < l.length) (hz : ¬ (1 < l.length ∧ l.head? = some 48)) : numO l = numV l := by
  unfold numO
  rw [if_neg]
  simp only [Bool.or_eq_true, Bool.and_eq_true, beq_iff_eq, decide_eq_true_eq, not_or]
  exact ⟨⟨by omega, h9⟩, hz⟩
theorem pow9 {i n : Nat} (hi : i ≤ 9) (h : n < 10 ^ i) : n < 1000000000 := Nat.lt_of_lt_of_le h (Nat.pow_le_pow_right (by omega) hi : 10 ^ i ≤ 10 ^ 9)
theorem num_core (s : ByteArray) (w : World) (h0 : 0 < s.size) (h9 : s.size ≤ 9) (hz : s.size = 1 ∨ (1 < s.size ∧ ∃ c0 : Nat, (∀ w : World, (Instr.index 9 (.string s) (.int .i64 0)).run Tryd.prog w = .ok (.int .u8 (c0 : Int)) w) ∧ ¬ c0 = 48)) :
    Calls Tryd.prog 37 #[.string s] w fun e w' => e = .returned (numA (numV (tx s))) ∧ Fr (fun _ => False) w w' := by
  obtain ⟨V, hV⟩ : ∃ V, numA (numV (tx s)) = V := ⟨_, rfl⟩
  have HV : Hid (numA (numV (tx s)) = V) := hV
  rw [hV]
  clear hV
  have h9i : ¬ (9 : Int) < (s.size : Int) := by omega
  go_enter Tryd.func37, Tryd.ntmps37
  rcases hz with h1 | ⟨h1, c0, hc0, hne⟩
  · have h1i : ¬ (1 : Int) < (s.size : Int) := by omega
    clear h1
    go_wp2_with (fail)
    go_loopw [4] (fun v wr => ∃ pos n : Nat, v = .int .i64 (n : Int) ∧ pos ≤ s.size ∧ wr.heap[w.heap.size]? = some (.stringIter s pos) ∧ Fr (fun _ => False) w wr ∧ Hid (numV ((tx s).take pos) = some n)) (fun _ wr => s.size - wr.iterPos w.heap.size)
    case atStart => exact ⟨0, 0, rfl, by omega, World.iter_heap w s 0, (Fr.refl _ _).alloc _, rfl⟩
    case round =>
      obtain ⟨pos, n, rfl, hp, hit, hf, HA⟩ := hrel
      by_cases hlt : pos < s.size
      · have hnx : ∀ ty, (Instr.next (.pointer (some ⟨w.heap.size, 0, none⟩)) true ty).run Tryd.prog wr = _ := fun ty => Lib.run_next_any_at wr w.heap.size s pos ty hit hlt
        have hit2 := Lib.iterAt_heap wr w.heap.size s pos (pos + (Utf8.decode s pos).2) hit
        have hf2 : Fr (fun _ => False) w (wr.iterAt w.heap.size s (pos + (Utf8.decode s pos).2)) := hf.iterAt (Nat.le_refl _) s _
        have HT : Hid ((tx s)[pos]? = some (s[pos]'hlt)) := tx_at s pos hlt
        obtain ⟨r, k, hrk, hd, hk⟩ := rune_digit s pos 10 hlt
        obtain ⟨c, hc⟩ : ∃ c, (s[pos]'hlt) = c := ⟨_, rfl⟩
        rw [hc] at HT hd hk
        rw [hrk] at hnx hit2 hf2
        dsimp only at hnx hit2 hf2
        generalize wr.iterAt w.heap.size s (pos + k) = W1 at hnx hit2 hf2
        clear hc hrk
        have K : Hid (∀ W, Calls Tryd.prog 36 #[.int .i32 (r : Int), .int .i64 10] W fun e w' => e = .returned (.int .i64 (dgI 10 c)) ∧ Fr (fun _ => False) W w') := fun W => by
          have := digit10_in (r : Int) W (by omega)
          rwa [hd] at this
        have hnb : n < 1000000000 := pow9 (by omega) (num_lt (by rw [tx_len]; exact hp) HA.out)
        have HK : Hid (dg 10 c ≠ none → k = 1) := hk
        clear hd hk
        cases hdg : dg 10 c with
        | none =>
          have hI : dgI 10 c = -1 := by unfold dgI; rw [hdg]
          have HN : Hid (numV (tx s) = none) := num_bad HT.out hdg
          rw [hI] at K
          clear hI hdg
          go_wp2_with (go_at_call 36; refine (K.out _).mono ?_; rintro e w' ⟨rfl, hf3⟩)
          go_ret2
          exact ⟨by rw [← HV.out, HN.out]; rfl, hf2.trans hf3⟩
        | some d =>
          have hI : dgI 10 c = (d : Int) := by unfold dgI; rw [hdg]
          have hd10 := (dg_ten hdg).1
          have HN : Hid (numV ((tx s).take (pos + 1)) = some (10 * n + d)) := num_step HT.out HA.out hdg
          have HK1 : Hid (k = 1) := HK.out (by rw [hdg]; simp)
          rw [hI] at K
          clear hI hdg
          go_wp2_with (go_at_call 36; refine (K.out _).mono ?_; rintro e w' ⟨rfl, hf3⟩)
          have hit3 : w'.heap[w.heap.size]? = some (.stringIter s (pos + k)) := (hf3.block _ (Array.getElem?_eq_some_iff.1 hit2).1 id).trans hit2
          go_roundw
          case rel =>
            have e1 := HK1.out
            subst e1
            exact ⟨pos + 1, 10 * n + d, by go_num, by omega, hit3, hf2.trans hf3, HN.out⟩
          case measure =>
            have e1 := HK1.out
            simp [World.iterPos, hit, hit3]; omega
      · have hnx : ∀ ty, (Instr.next (.pointer (some ⟨w.heap.size, 0, none⟩)) true ty).run Tryd.prog wr = .ok (.tuple #[.bool false]) wr := fun ty => Lib.run_next_end_at wr w.heap.size s pos ty hit hlt
        have HN : Hid (numV (tx s) = some n) := num_end (by rw [tx_len]; omega) HA.out
        go_wp2
        go_ret2
        exact ⟨by rw [← HV.out, HN.out]; rfl, hf⟩
  · have h1i : (1 : Int) < (s.size : Int) := by omega
    have hne2 : ¬ (c0 : Int) = 48 := by omega
    go_wp2_with (fail)
    go_loopw [4] (fun v wr => ∃ pos n : Nat, v = .int .i64 (n : Int) ∧ pos ≤ s.size ∧ wr.heap[w.heap.size]? = some (.stringIter s pos) ∧ Fr (fun _ => False) w wr ∧ Hid (numV ((tx s).take pos) = some n)) (fun _ wr => s.size - wr.iterPos w.heap.size)
    case atStart => exact ⟨0, 0, rfl, by omega, World.iter_heap w s 0, (Fr.refl _ _).alloc _, rfl⟩
    case round =>
      obtain ⟨pos, n, rfl, hp, hit, hf, HA⟩ := hrel
      by_cases hlt : pos < s.size
      · have hnx : ∀ ty, (Instr.next (.pointer (some ⟨w.heap.size, 0, none⟩)) true ty).run Tryd.prog wr = _ := fun ty => Lib.run_next_any_at wr w.heap.size s pos ty hit hlt
        have hit2 := Lib.iterAt_heap wr w.heap.size s pos (pos + (Utf8.decode s pos).2) hit
        have hf2 : Fr (fun _ => False) w (wr.iterAt w.heap.size s (pos + (Utf8.decode s pos).2)) := hf.iterAt (Nat.le_refl _) s _
        have HT : Hid ((tx s)[pos]? = some (s[pos]'hlt)) := tx_at s pos hlt
        obtain ⟨r, k, hrk, hd, hk⟩ := rune_digit s pos 10 hlt
        obtain ⟨c, hc⟩ : ∃ c, (s[pos]'hlt) = c := ⟨_, rfl⟩
        rw [hc] at HT hd hk
        rw [hrk] at hnx hit2 hf2
        dsimp only at hnx hit2 hf2
        generalize wr.iterAt w.heap.size s (pos + k) = W1 at hnx hit2 hf2
        clear hc hrk
        have K : Hid (∀ W, Calls Tryd.prog 36 #[.int .i32 (r : Int), .int .i64 10] W fun e w' => e = .returned (.int .i64 (dgI 10 c)) ∧ Fr (fun _ => False) W w') := fun W => by
          have := digit10_in (r : Int) W (by omega)
          rwa [hd] at this
        have hnb : n < 1000000000 := pow9 (by omega) (num_lt (by rw [tx_len]; exact hp) HA.out)
        have HK : Hid (dg 10 c ≠ none → k = 1) := hk
        clear hd hk
        cases hdg : dg 10 c with
        | none =>
          have hI : dgI 10 c = -1 := by unfold dgI; rw [hdg]
          have HN : Hid (numV (tx s) = none) := num_bad HT.out hdg
          rw [hI] at K
          clear hI hdg
          go_wp2_with (go_at_call 36; refine (K.out _).mono ?_; rintro e w' ⟨rfl, hf3⟩)
          go_ret2
          exact ⟨by rw [← HV.out, HN.out]; rfl, hf2.trans hf3⟩
        | some d =>
          have hI : dgI 10 c = (d : Int) := by unfold dgI; rw [hdg]
          have hd10 := (dg_ten hdg).1
          have HN : Hid (numV ((tx s).take (pos + 1)) = some (10 * n + d)) := num_step HT.out HA.out hdg
          have HK1 : Hid (k = 1) := HK.out (by rw [hdg]; simp)
          rw [hI] at K
          clear hI hdg
          go_wp2_with (go_at_call 36; refine (K.out _).mono ?_; rintro e w' ⟨rfl, hf3⟩)
          have hit3 : w'.heap[w.heap.size]? = some (.stringIter s (pos + k)) := (hf3.block _ (Array.getElem?_eq_some_iff.1 hit2).1 id).trans hit2
          go_roundw
          case rel =>
            have e1 := HK1.out
            subst e1
            exact ⟨pos + 1, 10 * n + d, by go_num, by omega, hit3, hf2.trans hf3, HN.out⟩
          case measure =>
            have e1 := HK1.out
            simp [World.iterPos, hit, hit3]; omega
      · have hnx : ∀ ty, (Instr.next (.pointer (some ⟨w.heap.size, 0, none⟩)) true ty).run Tryd.prog wr = .ok (.tuple #[.bool false]) wr := fun ty => Lib.run_next_end_at wr w.heap.size s pos ty hit hlt
        have HN : Hid (numV (tx s) = some n) := num_end (by rw [tx_len]; omega) HA.out
        go_wp2
        go_ret2
        exact ⟨by rw [← HV.out, HN.out]; rfl, hf⟩
theorem readNumber_in (s : ByteArray) (w : World) (h0 : 0 < s.size) :
    Calls Tryd.prog 37 #[.string s] w fun e w' => e = .returned (numA (numO (tx s))) ∧ Fr (fun _ => False) w w' := by
  have hl := tx_len s
  by_cases h9 : 9 < s.size
  · rw [numO_long (by omega)]
    have h9i : (9 : Int) < (s.size : Int) := by omega
    clear hl
    go_enter Tryd.func37, Tryd.ntmps37
    go_wp2_with (fail)
    go_ret2
    exact ⟨rfl, Fr.refl _ _⟩
  · have hh : (tx s).head? = some (s[0]'h0) := by rw [List.head?_eq_getElem?]; exact tx_at s 0 h0
    obtain ⟨c0, hc0⟩ : ∃ c0 : Nat, (s[0]'h0).toNat = c0 := ⟨_, rfl⟩
    have hix : ∀ w : World, (Instr.index 9 (.string s) (.int .i64 0)).run Tryd.prog w = .ok (.int .u8 (c0 : Int)) w := fun w => by
      rw [run_index_string w 9 s .i64 0 Tryd.underlying9, dif_pos (by omega), ← hc0]
      rfl
    by_cases h1 : 1 < s.size
    · by_cases h48 : c0 = 48
      · have e48 : s[0]'h0 = 48 := UInt8.toNat_inj.1 (by rw [hc0, h48]; rfl)
        rw [numO_zero (by omega) (by rw [hh, e48])]
        subst h48
        have h9i : ¬ (9 : Int) < (s.size : Int) := by omega
        have h1i : (1 : Int) < (s.size : Int) := by omega
        clear hc0 e48 hh hl
        go_enter Tryd.func37, Tryd.ntmps37
        go_wp2_with (fail)
        go_ret2
        exact ⟨rfl, Fr.refl _ _⟩
      · rw [numO_go (by omega) (by omega) (fun e => h48 (by rw [hh] at e; have e2 := e.2; injection e2 with e3; rw [← hc0, e3]; rfl))]
        exact num_core s w h0 (by omega) (.inr ⟨h1, c0, hix, h48⟩)
    · rw [numO_go (by omega) (by omega) (fun e => h1 (by omega))]
      exact num_core s w h0 (by omega) (.inl (by omega))
end Go.Proofs.YtfehmlopndklcaaDoor
