/- The document's word, names, digit, number. -/
import Derived.Test.YtfehmlopndklcaaDoorScg
import Derived.Test.YtfehmlopndklcaaDoorSck
namespace Go.Proofs.YtfehmlopndklcaaDoor
open Go.RowKit
set_option maxRecDepth 100000
set_option maxHeartbeats 4000000
set_option linter.unusedVariables false

theorem index_tx4 (s : ByteArray) (i : Nat) (h : i < s.size) : ∀ w : World, (Instr.index 9 (.string s) (.int .i64 (i : Int))).run Tryd.prog w = .ok (.int .u8 ((s[i]'h).toNat : Int)) w := fun w => by
  rw [run_index_string w 9 s .i64 (i : Int) Tryd.underlying9, dif_pos (by omega)]
  rfl
/-- Where a word that begins at b ends. -/
structure WE (l : List UInt8) (b e : Nat) : Prop where
  ge : b ≤ e
  le : e ≤ l.length
  hit : e < l.length → l[e]? = some 32
  no : ∀ j, b ≤ j → j < e → l[j]? ≠ some 32
theorem rword_in (s : ByteArray) (b : Nat) (w : World) (hb : b ≤ s.size) (hs : s.size ≤ 100000) : Calls Tryd.prog 15 #[.string s, .int .i64 (b : Int)] w fun e w' => (∃ n : Nat, e = .returned (.int .i64 (n : Int)) ∧ WE (tx s) b n) ∧ w = w' := by
  have HS : Hid (s.size ≤ 100000) := hs
  have HB : Hid (b ≤ s.size) := hb
  clear hs hb
  go_enter Tryd.func15, Tryd.ntmps15
  go_wp2_with (fail)
  go_loopw [1] (fun v wr => ∃ i : Nat, v = .int .i64 (i : Int) ∧ w = wr ∧ Hid (b ≤ i ∧ i ≤ s.size ∧ ∀ j, b ≤ j → j < i → (tx s)[j]? ≠ some 32)) (fun v _ => s.size - (intOf v).toNat)
  case atStart => exact ⟨b, rfl, rfl, Nat.le_refl _, HB.out, fun j h1 h2 => by omega⟩
  case round =>
    obtain ⟨i, rfl, rfl, HI⟩ := hrel
    by_cases hlt : i < s.size
    · have hlt2 : (i : Int) < (s.size : Int) := by omega
      have HT : Hid ((tx s)[i]? = some (s[i]'hlt)) := tx_at s i hlt
      have hix := index_tx4 s i hlt
      generalize (s[i]'hlt) = c at HT hix
      have hi0 : (0 : Int) ≤ (i : Int) := by omega
      have hib : i ≤ 100000 := by have := HS.out; omega
      obtain ⟨cn, hcn⟩ : ∃ cn : Nat, c.toNat = cn := ⟨_, rfl⟩
      have HCN : Hid (c.toNat = cn) := hcn
      rw [hcn] at hix
      clear hcn
      by_cases h32 : cn = 32
      · subst h32
        have HE : Hid ((tx s)[i]? = some 32) := by
          show _ = _
          rw [HT.out]
          congr 1
          exact UInt8.toNat_inj.1 HCN.out
        go_wp2_with (fail)
        go_ret
        exact ⟨⟨i, rfl, HI.out.1, by rw [tx_len]; exact HI.out.2.1, fun _ => HE.out, HI.out.2.2⟩, rfl⟩
      · have h32i : ¬ (cn : Int) = 32 := by omega
        have h32b : ((cn : Int) != 32) = true := bne_iff_ne.2 h32i
        have HN : Hid (∀ j, b ≤ j → j < i + 1 → (tx s)[j]? ≠ some 32) := not_step HI.out.2.2 HT.out (fun e => by subst e; exact h32 HCN.out.symm)
        clear h32
        go_wp2_with (fail)
        go_roundw
        case rel => exact ⟨i + 1, by go_num, trivial, by have := HI.out.1; omega, by omega, HN.out⟩
        case measure => simp [intOf]; omega
    · have hlt2 : ¬ (i : Int) < (s.size : Int) := by omega
      go_wp2_with (fail)
      go_ret
      exact ⟨⟨i, rfl, HI.out.1, by rw [tx_len]; exact HI.out.2.1, fun h => by rw [tx_len] at h; omega, HI.out.2.2⟩, rfl⟩
theorem rnames_in (w : World) : Calls Tryd.prog 16 #[] w fun e w' => e = .returned (.slice (some ⟨w.heap.size, 0, none⟩) 8 8) ∧ w.alloc (.cells (namesS.map Value.string).toArray 9) = w' := by
  go_enter Tryd.func16, Tryd.ntmps16
  go_wp2
  go_ret
  exact ⟨rfl, rfl⟩
theorem rdigit_in (c : UInt8) (w : World) : Calls Tryd.prog 27 #[.int .u8 (c.toNat : Int)] w fun e w' => e = .returned (.int .i64 (dgI 16 c)) ∧ w = w' := by
  have hc := c.toNat_lt
  by_cases h1 : 48 ≤ c.toNat ∧ c.toNat ≤ 57
  · have hI : dgI 16 c = ((c.toNat - 48 : Nat) : Int) := by unfold dgI dg; rw [if_pos h1]
    rw [hI]
    clear hI
    generalize c.toNat = n at h1 hc
    obtain ⟨h1, h2⟩ := h1
    have e1 : ((n : Int) - 48) % 256 = ((n - 48 : Nat) : Int) := by omega
    have e2 : ((n : Int) - 48) = ((n - 48 : Nat) : Int) := by omega
    generalize n - 48 = m at e1 e2
    go_enter Tryd.func27, Tryd.ntmps27
    go_wp2_with (fail)
    go_ret
    exact ⟨rfl, rfl⟩
  · by_cases h2 : 97 ≤ c.toNat ∧ c.toNat ≤ 102
    · have hI : dgI 16 c = ((c.toNat - 87 : Nat) : Int) := by unfold dgI dg; rw [if_neg h1, if_pos ⟨rfl, h2⟩]
      rw [hI]
      clear hI
      generalize c.toNat = n at h1 h2 hc
      have h3 : ¬ n ≤ 57 := by omega
      have h4 : 48 ≤ n := by omega
      obtain ⟨h5, h6⟩ := h2
      clear h1
      have e3 : ((n - 87 : Nat) : Int) = (n : Int) - 97 + 10 := by omega
      rw [e3]
      clear e3
      go_enter Tryd.func27, Tryd.ntmps27
      go_wp2_with (fail)
      go_ret
      exact ⟨rfl, rfl⟩
    · have hI : dgI 16 c = -1 := by unfold dgI dg; rw [if_neg h1, if_neg (fun e => h2 e.2)]
      rw [hI]
      clear hI
      generalize c.toNat = n at h1 h2 hc
      by_cases h3 : 48 ≤ n
      · have h4 : ¬ n ≤ 57 := fun h => h1 ⟨h3, h⟩
        clear h1
        by_cases h5 : 97 ≤ n
        · have h6 : ¬ n ≤ 102 := fun h => h2 ⟨h5, h⟩
          clear h2
          go_enter Tryd.func27, Tryd.ntmps27
          go_wp2_with (fail)
          go_ret
          exact ⟨rfl, rfl⟩
        · clear h2
          go_enter Tryd.func27, Tryd.ntmps27
          go_wp2_with (fail)
          go_ret
          exact ⟨rfl, rfl⟩
      · have h5 : ¬ 97 ≤ n := by omega
        clear h1 h2
        go_enter Tryd.func27, Tryd.ntmps27
        go_wp2_with (fail)
        go_ret
        exact ⟨rfl, rfl⟩
end Go.Proofs.YtfehmlopndklcaaDoor
