/- Small questions of the program's look: prefixes, lists of texts, headers of a connection, what a map of pseudo headers holds. -/
import Derived.Test.YtplggcfoadjffaaGreatDoorOj
namespace Go.Proofs.YtplggcfoadjffaaGreatDoor
open Go.RowKit Go.Maps
set_option linter.unusedVariables false
set_option maxRecDepth 100000
set_option maxHeartbeats 4000000

theorem lHasPrefix_in (s : ByteArray) (w : World) : Calls Tryz.prog 77 #[.string s, .string ⟨#[58]⟩] w fun e w' => e = .returned (.bool (pseudoB (tx s))) ∧ w = w' := by
  have hz : (⟨#[58]⟩ : ByteArray).size = 1 := rfl
  by_cases h0 : 1 ≤ s.size
  · have hsl : ∀ w : World, (Instr.slice 9 (.string s) none (some (.int .i64 1)) none).run Tryz.prog w = .ok (.string (s.extract 0 1)) w := fun w => by
      rw [run_slice_string_to_if w 9 s .i64 1 Tryz.underlying9, if_pos (by omega)]
      rfl
    have hb : ((s.extract 0 1).toList == [58]) = pseudoB (tx s) := by
      rw [Lib.extract_toList]
      unfold pseudoB
      show (((tx s).drop 0).take (1 - 0) == [58]) = _
      cases ht : tx s with
      | nil => have := tx_len s; rw [ht] at this; simp at this; omega
      | cons a t => simp
    have h1 : (1 : Int) ≤ (s.size : Int) := by omega
    generalize s.extract 0 1 = r at hsl hb
    generalize pseudoB (tx s) = V at hb ⊢
    subst hb
    go_enter Tryz.func77, Tryz.ntmps77
    go_wp2_with (fail)
    go_ret
    exact ⟨rfl, rfl⟩
  · have hv : pseudoB (tx s) = false := by
      have : tx s = [] := List.eq_nil_of_length_eq_zero (by rw [tx_len]; omega)
      rw [this]
      rfl
    have h1 : ¬ (1 : Int) ≤ (s.size : Int) := by omega
    rw [hv]
    go_enter Tryz.func77, Tryz.ntmps77
    go_wp2_with (fail)
    go_ret
    exact ⟨rfl, rfl⟩
theorem HasPrefix_in (s : ByteArray) (w : World) : Calls Tryz.prog 60 #[.string s, .string ⟨#[58]⟩] w fun e w' => e = .returned (.bool (pseudoB (tx s))) ∧ w = w' := by
  have K := lHasPrefix_in s w
  generalize pseudoB (tx s) = V at K ⊢
  go_enter Tryz.func60, Tryz.ntmps60
  go_wp2_with (go_at_call 77; refine K.mono ?_; rintro e w' ⟨rfl, rfl⟩)
  go_ret
  exact ⟨rfl, rfl⟩
theorem tx_drop (s : ByteArray) : tx (s.extract 1 s.size) = (tx s).tail := by
  unfold tx
  rw [Lib.extract_data, List.take_of_length_le (by rw [List.length_drop]; have := tx_len s; unfold tx at this; omega), List.drop_one]
/-- A text without the colon at its front. -/
def bareS (s : ByteArray) : ByteArray := if pseudoB (tx s) then s.extract 1 s.size else s
theorem bare_tx (s : ByteArray) : tx (bareS s) = if pseudoB (tx s) then (tx s).tail else tx s := by
  unfold bareS
  split
  · exact tx_drop s
  · rfl
theorem lTrimPrefix_in (s : ByteArray) (w : World) (hs : s.size < 2 ^ 60) : Calls Tryz.prog 81 #[.string s, .string ⟨#[58]⟩] w fun e w' => e = .returned (.string (bareS s)) ∧ w = w' := by
  have hz : (⟨#[58]⟩ : ByteArray).size = 1 := rfl
  have K := lHasPrefix_in s w
  obtain ⟨b, hb⟩ : ∃ b, pseudoB (tx s) = b := ⟨_, rfl⟩
  unfold bareS
  rw [hb] at K ⊢
  cases b with
  | true =>
    have h1 : 1 ≤ s.size := by
      rcases Nat.eq_zero_or_pos s.size with h | h
      · have : tx s = [] := List.eq_nil_of_length_eq_zero (by rw [tx_len]; omega)
        rw [this] at hb
        cases hb
      · exact h
    have hsl : ∀ w : World, (Instr.slice 9 (.string s) (some (.int .i64 1)) none none).run Tryz.prog w = .ok (.string (s.extract 1 s.size)) w := fun w => by
      rw [run_slice_string_from_if w 9 s .i64 1 Tryz.underlying9, if_pos (by omega)]
      rfl
    rw [if_pos rfl]
    generalize s.extract 1 s.size = r at hsl ⊢
    clear hb
    go_enter Tryz.func81, Tryz.ntmps81
    go_wp2_with (go_at_call 77; refine K.mono ?_; rintro e w' ⟨rfl, rfl⟩)
    go_ret
    exact ⟨rfl, rfl⟩
  | false =>
    rw [if_neg (by simp)]
    clear hb
    go_enter Tryz.func81, Tryz.ntmps81
    go_wp2_with (go_at_call 77; refine K.mono ?_; rintro e w' ⟨rfl, rfl⟩)
    go_ret
    exact ⟨rfl, rfl⟩
theorem TrimPrefix_in (s : ByteArray) (w : World) (hs : s.size < 2 ^ 60) : Calls Tryz.prog 62 #[.string s, .string ⟨#[58]⟩] w fun e w' => e = .returned (.string (bareS s)) ∧ w = w' := by
  have K := lTrimPrefix_in s w hs
  generalize bareS s = r at K ⊢
  go_enter Tryz.func62, Tryz.ntmps62
  go_wp2_with (go_at_call 81; refine K.mono ?_; rintro e w' ⟨rfl, rfl⟩)
  go_ret
  exact ⟨rfl, rfl⟩

/-- Texts in memory. -/
structure StrsAt (w : World) (q : Option Addr) (zs : List ByteArray) : Prop where
  few : zs.length ≤ 1000
  cells : ∀ r z, zs[r]? = some z → ∃ b o, q = some ⟨b, o, none⟩ ∧ b < w.heap.size ∧ w.cell? ⟨b, o + r, none⟩ = some (.string z)
theorem StrsAt.fr {S : Nat → Prop} {w w' : World} {q : Option Addr} {zs : List ByteArray} (h : StrsAt w q zs) (f : Fr S w w') (hs : ∀ b o, q = some ⟨b, o, none⟩ → ¬ S b) : StrsAt w' q zs := by
  refine ⟨h.few, fun r z hz => ?_⟩
  obtain ⟨b, o, hq, hb, hc⟩ := h.cells r z hz
  exact ⟨b, o, hq, Nat.lt_of_lt_of_le hb f.size, (f.cell (p := ⟨b, o + r, none⟩) hb (hs b o hq)).trans hc⟩
theorem Index_in (q : Option Addr) (c : Nat) (zs : List ByteArray) (d : ByteArray) (w : World) (hz : StrsAt w q zs) :
    Calls Tryz.prog 83 #[.slice q zs.length c, .string d] w fun e w' => (∃ r : Int, e = .returned (.int .i64 r) ∧ (0 ≤ r ↔ tx d ∈ zs.map tx)) ∧ w = w' := by
  have HZ : Hid (StrsAt w q zs) := hz
  have hn := hz.few
  obtain ⟨n, hlen⟩ : ∃ n, zs.length = n := ⟨_, rfl⟩
  have HN : Hid (zs.length = n) := hlen
  rw [hlen] at hn ⊢
  clear hz hlen
  go_enter Tryz.func83, Tryz.ntmps83
  go_wp2_with (fail)
  go_loopw [8] (fun x8 wr => ∃ i : Nat, x8 = .int .i64 (i : Int) ∧ i ≤ n ∧ w = wr ∧ Hid (tx d ∉ (zs.take i).map tx)) (fun x8 _ => n - (intOf x8).toNat)
  case atStart => exact ⟨0, rfl, by omega, rfl, by show _ ∉ _; simp⟩
  case round =>
    obtain ⟨i, rfl, hin, rfl, HM⟩ := hrel
    by_cases hlt : i < n
    · have hlt2 : (i : Int) < (n : Int) := by omega
      obtain ⟨z, hz⟩ : ∃ z, zs[i]? = some z := ⟨_, List.getElem?_eq_getElem (by rw [HN.out]; exact hlt)⟩
      obtain ⟨b, o, rfl, hb, c0⟩ := HZ.out.cells i z hz
      have HX : Hid (zs[i]? = some z) := hz
      clear hz
      by_cases hd : tx d = tx z
      · have h1 : (d.toList == z.toList) = true := by rw [tx_toList, tx_toList, hd]; exact beq_self_eq_true _
        have h2 : d.toList = z.toList := by rw [tx_toList, tx_toList, hd]
        have HD : Hid (tx d = tx z) := hd
        clear hd
        go_wp2_with (fail)
        go_ret
        exact ⟨⟨i, rfl, ⟨fun _ => by rw [HD.out]; exact List.mem_map.2 ⟨z, List.mem_of_getElem? HX.out, rfl⟩, fun _ => by omega⟩⟩, rfl⟩
      · have h2 : ¬ d.toList = z.toList := by rw [tx_toList, tx_toList]; exact hd
        have h1 : (d.toList == z.toList) = false := beq_eq_false_iff_ne.2 h2
        have HM2 : Hid (tx d ∉ (zs.take (i + 1)).map tx) := by
          show _ ∉ _
          rw [List.take_add_one, HX.out, List.map_append]
          simp only [Option.toList_some, List.map_cons, List.map_nil, List.mem_append, List.mem_singleton, not_or]
          exact ⟨HM.out, hd⟩
        clear hd
        go_wp2_with (fail)
        go_roundw
        case rel => exact ⟨i + 1, by go_num, by omega, trivial, HM2.out⟩
        case measure => simp [intOf]; omega
    · have hlt2 : ¬ (i : Int) < (n : Int) := by omega
      have HM2 : Hid (tx d ∉ zs.map tx) := by
        have := HM.out
        rw [List.take_of_length_le (by rw [HN.out]; omega)] at this
        exact this
      go_wp2_with (fail)
      go_ret
      exact ⟨⟨-1, rfl, ⟨fun h => absurd h (by decide), fun h => absurd (List.mem_map.2 h) HM2.out⟩⟩, rfl⟩
theorem Contains_in (q : Option Addr) (c : Nat) (zs : List ByteArray) (d : ByteArray) (w : World) (hz : StrsAt w q zs) :
    Calls Tryz.prog 64 #[.slice q zs.length c, .string d] w fun e w' => e = .returned (.bool ((zs.map tx).contains (tx d))) ∧ w = w' := by
  have K := Index_in q c zs d w hz
  obtain ⟨V, hV⟩ : ∃ V, (zs.map tx).contains (tx d) = V := ⟨_, rfl⟩
  rw [hV]
  have HV : Hid ((zs.map tx).contains (tx d) = V) := hV
  clear hz hV
  go_enter Tryz.func64, Tryz.ntmps64
  go_wp2_with (fail)
  refine K.mono ?_
  rintro e w1 ⟨⟨r, rfl, hr⟩, rfl⟩
  have hv : V = decide (0 ≤ r) := by
    rw [← HV.out]
    by_cases h : 0 ≤ r
    · rw [decide_eq_true h]; exact List.contains_iff_mem.2 (hr.1 h)
    · rw [decide_eq_false h]
      cases e : (zs.map tx).contains (tx d) with
      | false => rfl
      | true => exact absurd (hr.2 (List.contains_iff_mem.1 e)) h
  clear HV hr
  subst hv
  go_wp2_with (fail)
  go_ret
  exact ⟨rfl, rfl⟩
end Go.Proofs.YtplggcfoadjffaaGreatDoor
