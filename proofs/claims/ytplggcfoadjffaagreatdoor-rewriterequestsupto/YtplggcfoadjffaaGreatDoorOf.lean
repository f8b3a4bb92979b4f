/- Values: the program's and the document's. -/
import Derived.Test.YtplggcfoadjffaaGreatDoorOd
import Derived.Test.YtplggcfoadjffaaGreatDoorOt
namespace Go.Proofs.YtplggcfoadjffaaGreatDoor
open Go.RowKit
set_option maxRecDepth 100000
set_option maxHeartbeats 4000000
set_option linter.unusedVariables false

theorem Trim_in (s : ByteArray) (w : World) (hs : s.size < 2 ^ 60) :
    Calls Tryz.prog 82 #[.string s, .string ⟨#[32, 9]⟩] w fun e w' => e = .returned (.string ⟨(Lib.trimS s.data.toList [32, 9]).toArray⟩) ∧ Fr (fun _ => False) w w' := by
  have hcon := Any.strings_Trim_laid oTrim (by kernel_rfl) s ⟨#[32, 9]⟩ w (by omega) (by decide) (ascii_of_all (by decide))
  exact hcon.mono fun e w' h => ⟨h.1, Fr.of_below h.2⟩
theorem drop_len (p : UInt8 → Bool) : ∀ l : List UInt8, (l.dropWhile p).length ≤ l.length
  | [] => by simp
  | x :: t => by
    rw [List.dropWhile_cons]
    split
    · exact Nat.le_succ_of_le (drop_len p t)
    · exact Nat.le_refl _
theorem blank_cut (c : UInt8) : ([32, 9] : List UInt8).contains c = blankB c := by
  unfold blankB
  simp only [List.contains_cons, List.contains_nil, Bool.or_false]
theorem trim_edge (l : List UInt8) : (l == Lib.trimS l [32, 9]) = edgeB l := by
  unfold Lib.trimS Lib.trimLeftS Lib.trimRightS edgeB
  have hp : (fun c => ([32, 9] : List UInt8).contains c) = blankB := funext blank_cut
  rw [hp]
  cases hr : l.reverse with
  | nil =>
    have : l = [] := by simpa using hr
    subst this
    rfl
  | cons x t =>
    have hl : l = t.reverse ++ [x] := by rw [← List.reverse_reverse l, hr, List.reverse_cons]
    have hlast : l.getLast? = some x := by rw [hl]; simp
    rw [hlast, List.dropWhile_cons]
    cases hx : blankB x with
    | true =>
      have h1 := drop_len blankB t
      have h2 := drop_len blankB (t.dropWhile blankB).reverse
      have hlen : l.length = t.length + 1 := by rw [hl]; simp
      have hne : ¬ l = (t.dropWhile blankB).reverse.dropWhile blankB := fun e => by
        have := congrArg List.length e
        rw [List.length_reverse] at h2
        omega
      rw [if_pos rfl]
      simp [hne, hx]
    | false =>
      rw [if_neg (by simp), ← hr, List.reverse_reverse]
      cases hl2 : l with
      | nil => rw [hl2] at hr; simp at hr
      | cons y u =>
        rw [List.dropWhile_cons]
        cases hy : blankB y with
        | true =>
          have h1 := drop_len blankB u
          have hne : ¬ y :: u = u.dropWhile blankB := fun e => by
            have := congrArg List.length e
            rw [List.length_cons] at this
            omega
          rw [if_pos rfl]
          simp [hne, hy]
        | false =>
          rw [if_neg (by simp)]
          simp [hy, hx]

theorem val_rel {s : ByteArray} {w W : World} {pos k : Nat} (hi : W.heap[w.heap.size]? = some (.stringIter s (pos + k))) (hf : Fr (fun _ => False) w W) (hk : ∀ j, j < k → ∃ c, (tx s)[pos + j]? = some c ∧ okB c = true) (ha : ((tx s).take pos).all okB = true) (hp : pos ≤ s.size) :
    ∃ pos : Nat, pos ≤ s.size ∧ W.heap[w.heap.size]? = some (.stringIter s pos) ∧ Fr (fun _ => False) w W ∧ Hid (((tx s).take pos).all okB = true) := by
  refine ⟨pos + k, ?_, hi, hf, all_take_add ha k hk⟩
  cases k with
  | zero => exact hp
  | succ k =>
    obtain ⟨c, hc, _⟩ := hk k (by omega)
    have := (List.getElem?_eq_some_iff.1 hc).1
    rw [tx_len] at this
    omega
theorem val_not {s : ByteArray} {pos : Nat} {c : UInt8} (ht : (tx s)[pos]? = some c) (h1 : okB c = false) : valueB (tx s) = false := by
  unfold valueB
  rw [all_not ht h1]
  rfl
theorem val_end {s : ByteArray} {pos : Nat} (ha : ((tx s).take pos).all okB = true) (hlt : ¬ pos < s.size) : (s.toList == (⟨(Lib.trimS s.data.toList [32, 9]).toArray⟩ : ByteArray).toList) = valueB (tx s) := by
  have h1 : valueB (tx s) = edgeB (tx s) := by
    unfold valueB
    rw [all_end (by rw [tx_len]; omega) ha]
    rfl
  rw [h1, ← trim_edge, tx_toList, tx_toList, tx_mk]
  rfl
theorem Value_in (s : ByteArray) (w : World) (hs : s.size < 2 ^ 60) : Calls Tryz.prog 63 #[.string s] w fun e w' => e = .returned (.bool (valueB (tx s))) ∧ Fr (fun _ => False) w w' := by
  have KT : Hid (∀ W, Calls Tryz.prog 82 #[.string s, .string ⟨#[32, 9]⟩] W fun e w' => e = .returned (.string ⟨(Lib.trimS s.data.toList [32, 9]).toArray⟩) ∧ Fr (fun _ => False) W w') := fun W => Trim_in s W hs
  obtain ⟨V, hV⟩ : ∃ V, valueB (tx s) = V := ⟨_, rfl⟩
  rw [hV]
  have HV : Hid (valueB (tx s) = V) := hV
  clear hV
  go_enter Tryz.func63, Tryz.ntmps63
  go_wp2_with (fail)
  go_loopw [4] (fun v wr => ∃ pos : Nat, pos ≤ s.size ∧ wr.heap[w.heap.size]? = some (.stringIter s pos) ∧ Fr (fun _ => False) w wr ∧ Hid (((tx s).take pos).all okB = true)) (fun _ wr => s.size - wr.iterPos w.heap.size)
  case atStart => exact ⟨0, by omega, World.iter_heap w s 0, (Fr.refl _ _).alloc _, by show _ = _; simp⟩
  case round =>
    obtain ⟨pos, hp, hit, hf, HA⟩ := hrel
    by_cases hlt : pos < s.size
    · have hnx : ∀ ty, (Instr.next (.pointer (some ⟨w.heap.size, 0, none⟩)) true ty).run Tryz.prog wr = _ := fun ty => Lib.run_next_any_at wr w.heap.size s pos ty hit hlt
      have hit2 := Lib.iterAt_heap wr w.heap.size s pos (pos + (Utf8.decode s pos).2) hit
      have hf2 : Fr (fun _ => False) w (wr.iterAt w.heap.size s (pos + (Utf8.decode s pos).2)) := hf.iterAt (Nat.le_refl _) s _
      have hwd := width_pos s pos hlt
      have hcase : (∃ c : UInt8, (tx s)[pos]? = some c ∧ c.toNat < 128 ∧ (Utf8.decode s pos) = (c.toNat, 1)) ∨ (128 ≤ (Utf8.decode s pos).1 ∧ ∀ j, j < (Utf8.decode s pos).2 → ∃ c, (tx s)[pos + j]? = some c ∧ okB c = true) := by
        by_cases ha : (s[pos]'hlt).toNat < 128
        · exact .inl ⟨_, tx_at s pos hlt, ha, decode_ascii s pos hlt ha⟩
        · refine .inr ⟨(decode_high s pos hlt (by omega)).1, fun j hj => ?_⟩
          obtain ⟨c, hc, h1⟩ := high_bytes s pos hlt (by omega) j hj
          exact ⟨c, hc, okB_high h1⟩
      obtain ⟨⟨r, k⟩, hrk⟩ : ∃ x, Utf8.decode s pos = x := ⟨_, rfl⟩
      rw [hrk] at hnx hit2 hf2 hcase hwd
      dsimp only at hnx hit2 hf2 hcase hwd
      generalize wr.iterAt w.heap.size s (pos + k) = W1 at hnx hit2 hf2
      clear hrk
      by_cases hr : r = 0 ∨ r = 10 ∨ r = 13
      · have hvf : V = false := by
          rcases hcase with ⟨c, hc, h1, h2⟩ | ⟨h1, _⟩
          · simp only [Prod.mk.injEq] at h2
            rw [← HV.out]
            refine val_not hc ?_
            unfold okB
            have hx : c = 0 ∨ c = 10 ∨ c = 13 := by
              rcases hr with h | h | h
              · exact .inl (UInt8.toNat_inj.1 (by rw [← h2.1, h]; rfl))
              · exact .inr (.inl (UInt8.toNat_inj.1 (by rw [← h2.1, h]; rfl)))
              · exact .inr (.inr (UInt8.toNat_inj.1 (by rw [← h2.1, h]; rfl)))
            rcases hx with rfl | rfl | rfl <;> rfl
          · omega
        clear HV hcase
        subst hvf
        rcases hr with rfl | rfl | rfl
        · go_wp2_with (fail)
          go_ret
          exact ⟨rfl, hf2⟩
        · go_wp2_with (fail)
          go_ret
          exact ⟨rfl, hf2⟩
        · go_wp2_with (fail)
          go_ret
          exact ⟨rfl, hf2⟩
      · have hr0 : ¬ (r : Int) = 0 := by omega
        have hr1 : ¬ (r : Int) = 10 := by omega
        have hr2 : ¬ (r : Int) = 13 := by omega
        have HK : Hid (∀ j, j < k → ∃ c, (tx s)[pos + j]? = some c ∧ okB c = true) := by
          rcases hcase with ⟨c, hc, h1, h2⟩ | ⟨_, h⟩
          · simp only [Prod.mk.injEq] at h2
            obtain ⟨h2, rfl⟩ := h2
            intro j hj
            obtain rfl : j = 0 := by omega
            refine ⟨c, hc, ?_⟩
            unfold okB
            have e0 : (c == 0) = false := by simpa using fun e => hr (.inl (by rw [h2, e]; rfl))
            have e1 : (c == 10) = false := by simpa using fun e => hr (.inr (.inl (by rw [h2, e]; rfl)))
            have e2 : (c == 13) = false := by simpa using fun e => hr (.inr (.inr (by rw [h2, e]; rfl)))
            simp [e0, e1, e2]
          · exact h
        have HW : Hid (1 ≤ k) := hwd
        have q0 : ((r : Int) == 0) = false := beq_eq_false_iff_ne.2 hr0
        have q1 : ((r : Int) == 10) = false := beq_eq_false_iff_ne.2 hr1
        have q2 : ((r : Int) == 13) = false := beq_eq_false_iff_ne.2 hr2
        clear hcase hr hwd hr0 hr1 hr2
        go_wp2_with (fail)
        go_roundw
        case rel => exact val_rel hit2 hf2 HK.out HA.out hp
        case measure =>
          have := HW.out
          simp [World.iterPos, hit2, hit]
          omega
    · have hnx : ∀ ty, (Instr.next (.pointer (some ⟨w.heap.size, 0, none⟩)) true ty).run Tryz.prog wr = .ok (.tuple #[.bool false]) wr := fun ty => Lib.run_next_end_at wr w.heap.size s pos ty hit hlt
      obtain ⟨r, hr⟩ : ∃ r, (⟨(Lib.trimS s.data.toList [32, 9]).toArray⟩ : ByteArray) = r := ⟨_, rfl⟩
      rw [hr] at KT
      have hv : (s.toList == r.toList) = V := by
        rw [← HV.out, ← hr]
        exact val_end HA.out hlt
      clear HV hr
      subst hv
      go_wp2_with (fail)
      refine (KT.out _).mono ?_
      rintro e w1 ⟨rfl, f1⟩
      go_wp2_with (fail)
      go_ret
      exact ⟨rfl, hf.trans f1⟩
theorem blank_in (c : UInt8) (w : World) : Calls Tryz.prog 76 #[.int .u8 (c.toNat : Int)] w fun e w' => e = .returned (.bool (blankB c)) ∧ w = w' := by
  have h1 : ((c.toNat : Int) == 32) = (c == 32) := by
    by_cases h : c = 32
    · subst h; rfl
    · have e1 : (c == 32) = false := by simpa using h
      rw [e1]
      have : c.toNat ≠ 32 := fun e => h (UInt8.toNat_inj.1 (by simpa using e))
      exact beq_eq_false_iff_ne.2 (by omega)
  have h2 : ((c.toNat : Int) == 9) = (c == 9) := by
    by_cases h : c = 9
    · subst h; rfl
    · have e1 : (c == 9) = false := by simpa using h
      rw [e1]
      have : c.toNat ≠ 9 := fun e => h (UInt8.toNat_inj.1 (by simpa using e))
      exact beq_eq_false_iff_ne.2 (by omega)
  unfold blankB
  generalize (c == 32) = a at h1 ⊢
  generalize (c == 9) = b at h2 ⊢
  generalize (c.toNat : Int) = n at h1 h2 ⊢
  cases a with
  | true =>
    go_enter Tryz.func76, Tryz.ntmps76
    go_wp2
    go_ret
    exact ⟨rfl, rfl⟩
  | false =>
    go_enter Tryz.func76, Tryz.ntmps76
    go_wp2
    go_ret
    exact ⟨rfl, rfl⟩
theorem okB_eqs (c : UInt8) : okB c = !(((c.toNat : Int) == 0) || ((c.toNat : Int) == 10) || ((c.toNat : Int) == 13)) := by
  have h : ∀ k : Nat, k < 256 → ((c.toNat : Int) == (k : Int)) = (c == UInt8.ofNat k) := fun k hk => by
    by_cases h : c = UInt8.ofNat k
    · subst h
      have : (UInt8.ofNat k).toNat = k := by simp; omega
      rw [this]
      simp
    · have e1 : (c == UInt8.ofNat k) = false := by simpa using h
      rw [e1]
      have : c.toNat ≠ k := fun e => h (by rw [← e]; simp)
      exact beq_eq_false_iff_ne.2 (by omega)
  unfold okB
  have h0 := h 0 (by omega)
  have h1 := h 10 (by omega)
  have h2 := h 13 (by omega)
  rw [show ((c.toNat : Int) == 0) = (c == 0) from h0, show ((c.toNat : Int) == 10) = (c == 10) from h1, show ((c.toNat : Int) == 13) = (c == 13) from h2]
theorem rvalue_end {s : ByteArray} {i : Nat} (ha : ((tx s).take i).all okB = true) (hlt : ¬ i < s.size) : valueB (tx s) = edgeB (tx s) := by
  unfold valueB
  rw [all_end (by rw [tx_len]; omega) ha]
  rfl
theorem edge_at {s : ByteArray} (h : 0 < s.size) : edgeB (tx s) = (!blankB (s[0]'h) && !blankB (s[s.size - 1]'(by omega))) := by
  unfold edgeB
  rw [List.head?_eq_getElem?, tx_at s 0 h, List.getLast?_eq_getElem?, tx_len, tx_at s (s.size - 1) (by omega)]
  rfl
theorem rValue_in (s : ByteArray) (w : World) (hs : s.size < 2 ^ 60) : Calls Tryz.prog 55 #[.string s] w fun e w' => e = .returned (.bool (valueB (tx s))) ∧ w = w' := by
  have KB : Hid (∀ (c : UInt8) (W : World), Calls Tryz.prog 76 #[.int .u8 (c.toNat : Int)] W fun e w' => e = .returned (.bool (blankB c)) ∧ W = w') := fun c W => blank_in c W
  obtain ⟨V, hV⟩ : ∃ V, valueB (tx s) = V := ⟨_, rfl⟩
  rw [hV]
  have HV : Hid (valueB (tx s) = V) := hV
  clear hV
  go_enter Tryz.func55, Tryz.ntmps55
  go_wp2_with (fail)
  go_loopw [3] (fun v wr => ∃ i : Nat, v = .int .i64 (i : Int) ∧ i ≤ s.size ∧ w = wr ∧ Hid (((tx s).take i).all okB = true)) (fun v _ => s.size - (intOf v).toNat)
  case atStart => exact ⟨0, rfl, by omega, rfl, by show _ = _; simp⟩
  case round =>
    obtain ⟨i, rfl, hi, rfl, HA⟩ := hrel
    by_cases hlt : i < s.size
    · have hlt2 : (i : Int) < (s.size : Int) := by omega
      have HT : Hid ((tx s)[i]? = some (s[i]'hlt)) := tx_at s i hlt
      have hix := index_tx s i hlt
      generalize (s[i]'hlt) = c at HT hix
      have HO : Hid (okB c = !(((c.toNat : Int) == 0) || ((c.toNat : Int) == 10) || ((c.toNat : Int) == 13))) := okB_eqs c
      obtain ⟨b0, e0⟩ : ∃ b, ((c.toNat : Int) == 0) = b := ⟨_, rfl⟩
      obtain ⟨b1, e1⟩ : ∃ b, ((c.toNat : Int) == 10) = b := ⟨_, rfl⟩
      obtain ⟨b2, e2⟩ : ∃ b, ((c.toNat : Int) == 13) = b := ⟨_, rfl⟩
      rw [e0, e1, e2] at HO
      generalize (c.toNat : Int) = n at hix e0 e1 e2
      clear KB
      cases b0 with
      | true =>
        have hv : V = false := by rw [← HV.out]; exact val_not HT.out HO.out
        clear HV
        subst hv
        clear e1 e2
        go_wp2_with (fail)
        go_ret
        exact ⟨rfl, rfl⟩
      | false =>
        cases b1 with
        | true =>
          have hv : V = false := by rw [← HV.out]; exact val_not HT.out HO.out
          clear HV
          subst hv
          clear e2
          go_wp2_with (fail)
          go_ret
          exact ⟨rfl, rfl⟩
        | false =>
          cases b2 with
          | true =>
            have hv : V = false := by rw [← HV.out]; exact val_not HT.out HO.out
            clear HV
            subst hv
            go_wp2_with (fail)
            go_ret
            exact ⟨rfl, rfl⟩
          | false =>
            go_wp2_with (fail)
            go_roundw
            case rel => exact ⟨i + 1, by go_num, by omega, trivial, all_take_succ HT.out HA.out HO.out⟩
            case measure => simp [intOf]; omega
    · have hlt2 : ¬ (i : Int) < (s.size : Int) := by omega
      have HE : Hid (valueB (tx s) = edgeB (tx s)) := rvalue_end HA.out hlt
      by_cases h0 : 0 < s.size
      · have hem : s.toList.isEmpty = false := by
          rw [tx_toList]
          cases h : tx s with
          | nil => have := tx_len s; rw [h] at this; simp at this; omega
          | cons _ _ => rfl
        have hv : (!blankB (s[0]'h0) && !blankB (s[s.size - 1]'(by omega))) = V := by rw [← HV.out, HE.out, edge_at h0]
        have hi0 : ∀ w : World, (Instr.index 9 (.string s) (.int .i64 0)).run Tryz.prog w = .ok (.int .u8 ((s[0]'h0).toNat : Int)) w := index_tx s 0 h0
        have hi1 := index_tx s (s.size - 1) (by omega)
        have hsz1 : ((s.size - 1 : Nat) : Int) = (s.size : Int) - 1 := by omega
        rw [hsz1] at hi1
        generalize (s[0]'h0) = c at hv hi0
        generalize (s[s.size - 1]'(by omega)) = d at hv hi1
        have K1 := KB.out c
        have K2 := KB.out d
        generalize blankB c = bc at hv K1
        generalize blankB d = bd at hv K2
        generalize (c.toNat : Int) = cn at hi0 K1
        generalize (d.toNat : Int) = dn at hi1 K2
        have K1' : Hid (∀ (W : World), Calls Tryz.prog 76 #[.int .u8 cn] W fun e w' => e = .returned (.bool bc) ∧ W = w') := K1
        have K2' : Hid (∀ (W : World), Calls Tryz.prog 76 #[.int .u8 dn] W fun e w' => e = .returned (.bool bd) ∧ W = w') := K2
        clear HV HE KB K1 K2 hsz1
        cases bc with
        | true =>
          have hv2 : V = false := hv.symm
          clear hv
          subst hv2
          go_wp2_with (fail)
          refine (K1'.out _).mono ?_
          rintro e w1 ⟨rfl, rfl⟩
          go_wp2_with (fail)
          go_ret
          exact ⟨rfl, rfl⟩
        | false =>
          have hv2 : V = !bd := hv.symm
          clear hv
          subst hv2
          go_wp2_with (fail)
          refine (K1'.out _).mono ?_
          rintro e w1 ⟨rfl, rfl⟩
          go_wp2_with (fail)
          refine (K2'.out _).mono ?_
          rintro e w1 ⟨rfl, rfl⟩
          go_wp2_with (fail)
          go_ret
          exact ⟨rfl, rfl⟩
      · have hnil : tx s = [] := List.eq_nil_of_length_eq_zero (by rw [tx_len]; omega)
        have hem : s.toList.isEmpty = true := by rw [tx_toList, hnil]; rfl
        have hv : V = true := by rw [← HV.out, HE.out, hnil]; rfl
        clear HV HE hnil KB
        subst hv
        go_wp2_with (fail)
        go_ret
        exact ⟨rfl, rfl⟩
end Go.Proofs.YtplggcfoadjffaaGreatDoor
