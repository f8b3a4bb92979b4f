/- strings.ContainsRune at a text of ASCII, whatever the rune. -/
import Derived.Test.YtfehmlopndklcaaDoorRows
import Derived.Test.YtfehmlopndklcaaDoorB1
import Derived.Test.YtfehmlopndklcaaDoorYx
import Derived.Test.YtfehmlopndklcaaDoorOb
import Derived.Deep.QuietTactic
import Derived.Scope
namespace Go.Proofs.YtfehmlopndklcaaDoor
open Go.RowKit
set_option maxRecDepth 100000
set_option maxHeartbeats 4000000
set_option linter.unusedVariables false

theorem Fr.iterAt {S : Nat → Prop} {a w : World} (h : Fr S a w) {k : Nat} (hk : a.heap.size ≤ k) (s : ByteArray) (p : Nat) : Fr S a (w.iterAt k s p) :=
  ⟨h.os, h.tape, h.output, by rw [Lib.iterAt_size]; exact h.size, fun i hi hs => (Lib.iterAt_other w k i s p (by omega)).trans (h.block i hi hs)⟩
theorem ValidRune_in (r : Int) (w : World) : Calls Tryd.prog 53 #[.int .i32 r] w fun e w' => e = .returned (.bool (validRune r)) ∧ w = w' := by
  by_cases h1 : 0 ≤ r ∧ r < 55296
  · have hv : validRune r = true := by unfold validRune; exact decide_eq_true (.inl h1)
    obtain ⟨h0, h2⟩ := h1
    rw [hv]
    go_enter Tryd.func53, Tryd.ntmps53
    go_wp2
    go_ret
    exact ⟨rfl, rfl⟩
  · by_cases h2 : 57343 < r ∧ r ≤ 1114111
    · have hv : validRune r = true := by unfold validRune; exact decide_eq_true (.inr h2)
      obtain ⟨h3, h4⟩ := h2
      have h5 : 0 ≤ r := by omega
      have h6 : ¬ r < 55296 := by omega
      rw [hv]
      clear h1
      go_enter Tryd.func53, Tryd.ntmps53
      go_wp2
      go_ret
      exact ⟨rfl, rfl⟩
    · have hv : validRune r = false := by unfold validRune; exact decide_eq_false (fun h => h.elim h1 h2)
      rw [hv]
      by_cases h5 : 0 ≤ r
      · have h6 : ¬ r < 55296 := fun h => h1 ⟨h5, h⟩
        by_cases h7 : 57343 < r
        · have h8 : ¬ r ≤ 1114111 := fun h => h2 ⟨h7, h⟩
          clear h1 h2
          go_enter Tryd.func53, Tryd.ntmps53
          go_wp2
          go_ret
          exact ⟨rfl, rfl⟩
        · clear h1 h2
          go_enter Tryd.func53, Tryd.ntmps53
          go_wp2
          go_ret
          exact ⟨rfl, rfl⟩
      · have h7 : ¬ 57343 < r := by omega
        clear h1 h2
        go_enter Tryd.func53, Tryd.ntmps53
        go_wp2
        go_ret
        exact ⟨rfl, rfl⟩

theorem indexByte_none {l : List UInt8} {c : UInt8} (h : ∀ b ∈ l, b ≠ c) : Lib.indexByte l c = -1 := by
  induction l with
  | nil => rfl
  | cons b l ih =>
    have h1 : (b == c) = false := by simpa using h b (by simp)
    have h2 := ih (fun x hx => h x (by simp [hx]))
    simp [Lib.indexByte, h1, h2]
theorem Rune_low (s : ByteArray) (r : Int) (w : World) (h0 : 0 ≤ r) (h1 : r < 128) :
    Calls Tryd.prog 47 #[.string s, .int .i32 r] w fun e w' => e = .returned (.int .i64 (Lib.indexByte s.data.toList r.toNat.toUInt8)) ∧ w = w' := by
  go_enter Tryd.func47, Tryd.ntmps47
  go_wp2_with (go_at_call 52; refine (yIndex_in _ _ _).mono ?_; rintro e w' ⟨rfl, rfl⟩)
  go_ret
  exact ⟨rfl, rfl⟩
theorem Rune_error (s : ByteArray) (w : World) (hs : ∀ b ∈ tx s, b.toNat < 128) (hb : s.size ≤ 1000) :
    Calls Tryd.prog 47 #[.string s, .int .i32 65533] w fun e w' => e = .returned (.int .i64 (-1)) ∧ Fr (fun _ => False) w w' := by
  go_enter Tryd.func47, Tryd.ntmps47
  go_wp2
  go_loopw [5] (fun v wr => ∃ pos : Nat, pos ≤ s.size ∧ wr.heap[w.heap.size]? = some (.stringIter s pos) ∧ Fr (fun _ => False) w wr) (fun _ wr => s.size - wr.iterPos w.heap.size)
  case atStart => exact ⟨0, by omega, World.iter_heap w s 0, (Fr.refl _ _).alloc _⟩
  case round =>
    obtain ⟨pos, hp, hit, hf⟩ := hrel
    have hpos0 : wr.iterPos w.heap.size = pos := by simp [World.iterPos, hit]
    by_cases hlt : pos < s.size
    · have ha : (s[pos]'hlt).toNat < 128 := hs _ (List.mem_of_getElem? (tx_at s pos hlt))
      obtain ⟨c, hc⟩ : ∃ c : Nat, (s[pos]'hlt).toNat = c := ⟨_, rfl⟩
      have hnx : ∀ ty, (Instr.next (.pointer (some ⟨w.heap.size, 0, none⟩)) true ty).run Tryd.prog wr = .ok (.tuple #[.bool true, .int .i64 (pos : Int), .int .i32 (c : Int)]) (wr.iterAt w.heap.size s (pos + 1)) := fun ty => by
        rw [Lib.run_next_ascii_at wr w.heap.size s pos ty hit hlt ha, hc]
      rw [hc] at ha
      have hne : ¬ ((c : Int) = 65533) := by omega
      have hit2 := Lib.iterAt_heap wr w.heap.size s pos (pos + 1) hit
      have hf2 : Fr (fun _ => False) w (wr.iterAt w.heap.size s (pos + 1)) := hf.iterAt (Nat.le_refl _) s (pos + 1)
      generalize wr.iterAt w.heap.size s (pos + 1) = W1 at hnx hit2 hf2
      clear hc hs
      go_wp2
      go_roundw
      case rel => exact ⟨pos + 1, by omega, hit2, hf2⟩
      case measure => simp [World.iterPos, hit2, hit]; omega
    · have hnx : ∀ ty, (Instr.next (.pointer (some ⟨w.heap.size, 0, none⟩)) true ty).run Tryd.prog wr = .ok (.tuple #[.bool false]) wr := fun ty => Lib.run_next_end_at wr w.heap.size s pos ty hit hlt
      go_wp2
      go_ret
      exact ⟨rfl, hf⟩
theorem Rune_bad (s : ByteArray) (r : Int) (w : World) (h : 128 ≤ r) (hv : validRune r = false) :
    Calls Tryd.prog 47 #[.string s, .int .i32 r] w fun e w' => e = .returned (.int .i64 (-1)) ∧ Fr (fun _ => False) w w' := by
  have h0 : 0 ≤ r := by omega
  have h1 : ¬ r < 128 := by omega
  have h2 : ¬ r = 65533 := by rintro rfl; revert hv; decide
  have K := ValidRune_in r w
  rw [hv] at K
  go_enter Tryd.func47, Tryd.ntmps47
  go_wp2_with (go_at_call 53; refine K.mono ?_; rintro e w' ⟨rfl, rfl⟩)
  go_ret
  exact ⟨rfl, Fr.refl _ _⟩
theorem Rune_far (s : ByteArray) (r : Int) (w : World) (hs : ∀ b ∈ tx s, b.toNat < 128) (hb : s.size ≤ 1000) (h4 : 4 ≤ s.size) (h : 128 ≤ r) (h2 : ¬ r = 65533) (hv : validRune r = true) :
    Calls Tryd.prog 47 #[.string s, .int .i32 r] w fun e w' => e = .returned (.int .i64 (-1)) ∧ Fr (fun _ => False) w w' := by
  have h0 : 0 ≤ r := by omega
  have h1 : ¬ r < 128 := by omega
  have K := ValidRune_in r w
  rw [hv] at K
  obtain ⟨e1, e2, e3⟩ := encode_facts r (by rw [validRune_eq]; exact hv) h
  obtain ⟨rs, hrs⟩ : ∃ rs, Utf8.encode r = rs := ⟨_, rfl⟩
  rw [hrs] at e1 e2 e3
  have hcv : ∀ w : World, (convert 21 9 (.int .i32 r)).run Tryd.prog w = .ok (.string rs) w := fun w => by
    rw [run_convert_int_string w 21 9 .i32 r (by rw [Tryd.underlying21]; rfl) Tryd.underlying9, hrs]
  obtain ⟨L, hL⟩ : ∃ L : Nat, rs.size = L + 1 := ⟨rs.size - 1, by omega⟩
  have hLs : L < rs.size := by omega
  have hLt : L < s.size := by omega
  obtain ⟨c, hc⟩ : ∃ c : Nat, (rs[L]'hLs).toNat = c := ⟨_, rfl⟩
  obtain ⟨d, hd⟩ : ∃ d : Nat, (s[L]'hLt).toNat = d := ⟨_, rfl⟩
  have hd2 : d < 128 := by rw [← hd]; exact hs _ (List.mem_of_getElem? (tx_at s L hLt))
  have hc2 : 128 ≤ c := by
    have := e3 (by omega)
    rw [← hc]
    simpa [hL] using this
  have hc3 : c < 256 := by rw [← hc]; exact (rs[L]'hLs).toNat_lt
  have ix1 : ∀ w : World, (Instr.index 9 (.string rs) (.int .i64 (L : Int))).run Tryd.prog w = .ok (.int .u8 (c : Int)) w := fun w => by
    rw [run_index_string w 9 rs .i64 (L : Int) Tryd.underlying9, dif_pos (by omega)]
    simp [hc]
  have ix2 : ∀ w : World, (Instr.index 9 (.string s) (.int .i64 (L : Int))).run Tryd.prog w = .ok (.int .u8 (d : Int)) w := fun w => by
    rw [run_index_string w 9 s .i64 (L : Int) Tryd.underlying9, dif_pos (by omega)]
    simp [hd]
  have hne : ¬ (d : Int) = (c : Int) := by omega
  have hsl : ∀ w : World, (Instr.slice 9 (.string s) (some (.int .i64 ((L : Int) + 1))) none none).run Tryd.prog w = .ok (.string (s.extract (L + 1) s.size)) w := fun w => by
    rw [run_slice_string_from_if w 9 s .i64 _ Tryd.underlying9, if_pos (by omega)]
    rfl
  have hix : Lib.indexByte (s.extract (L + 1) s.size).data.toList (c : Int).toNat.toUInt8 = -1 := indexByte_none (fun b hb e => by
    have h7 := hs b (mem_extract hb)
    rw [e] at h7
    have h8 : ((c : Int).toNat.toUInt8).toNat = c := by simp; omega
    omega)
  have KX : Hid (∀ W : World, Calls Tryd.prog 52 #[.string (s.extract (L + 1) s.size), .int .u8 (c : Int)] W fun e w' => e = .returned (.int .i64 (-1)) ∧ w' = W) := fun W => by
    have := yIndex_in (s.extract (L + 1) s.size) (c : Int) W
    rw [hix] at this
    exact this.mono fun e w' h => ⟨h.1, h.2.symm⟩
  have hwr : IntKind.i64.wrap ((L : Int) + 1) = (L : Int) + 1 := wrap_small _ (by omega) (by omega)
  have hLb : L ≤ 3 := by omega
  clear hs hc hd hrs e1 e2 e3
  go_enter Tryd.func47, Tryd.ntmps47
  go_wp2_with (go_at_call 53; refine K.mono ?_; rintro e w' ⟨rfl, rfl⟩)
  refine wp_scope_straight ?_
  have hL1 : (rs.size : Int) - 1 = (L : Int) := by omega
  have hlt : (L : Int) < (s.size : Int) := by omega
  go_wp2_with (fail)
  go_loopw [9] (fun v wr => v = .int .i64 (L : Int) ∧ w = wr) (fun _ _ => 0)
  case atStart => exact ⟨rfl, rfl⟩
  case round =>
    obtain ⟨rfl, rfl⟩ := hrel
    go_wp2_with (fail)
    refine wp_scope_straight ?_
    go_wp2_with (fail)
    go_quiet (fail)
    have hf1 : Fr (fun _ => False) w (w.drewN nq) := (Fr.refl _ _).drewN _
    generalize w.drewN nq = w1 at hf1 ⊢
    go_wp2_with (fail)
    go_quiet ((go_at_call 52; exact Calls.quiet_of_same (KX.out _)))
    go_wp2_with (fail)
    simp +zetaDelta only [Exit.noGoto, Exit.inBlock, Exit.then]
    go_ret
    exact ⟨rfl, hf1.drewN _⟩
def marksS : ByteArray := ⟨#[33, 35, 36, 37, 38, 39, 42, 43, 45, 46, 94, 95, 96, 124, 126]⟩
/-- Whether a rune is one of the signs that may be in a name. -/
def markR (r : Int) : Bool := decide (r < 128) && marksL.contains r.toNat.toUInt8
theorem indexByte_any (l : List UInt8) (c : UInt8) : decide (0 ≤ Lib.indexByte l c) = l.contains c := by
  induction l with
  | nil => rfl
  | cons b l ih =>
    by_cases h : b = c
    · subst h; simp [Lib.indexByte]
    · have h1 : (b == c) = false := by simpa using h
      have h2 : (c == b) = false := by simpa using (fun e => h e.symm)
      have hge := Lib.indexByte_ge l c
      simp only [Lib.indexByte, h1, List.contains_cons, h2, Bool.false_or, ← ih]
      by_cases h3 : Lib.indexByte l c = -1
      · simp [h3]
      · have h4 : (Lib.indexByte l c == -1) = false := by simpa using h3
        simp only [h4]
        simp
        omega
end Go.Proofs.YtfehmlopndklcaaDoor
