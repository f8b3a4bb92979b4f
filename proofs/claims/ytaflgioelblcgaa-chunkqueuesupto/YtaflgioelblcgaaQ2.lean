/- Contracts of package chunk's Queue: forget. -/
import Derived.Test.YtaflgioelblcgaaQ1
import Derived.Test.YtaflgioelblcgaaA3
namespace Go.Proofs.Ytaflgioelblcgaa
open Go.RowKit
set_option linter.unusedVariables false

/-- clear on a stretch of a row of one's own: zeros, nothing else turns. -/
theorem run_clear_row {P : Program} (w : World) (t ty e : TypeId) (i : TypeInfo) (z : Value) (ht : P.underlying t = some (.slice e)) (hi : P.info? e = some i) (hz : i.zero = some z) (hzc : z.cells = #[z]) (hz1 : z.oneCell' = true)
    (g off n c : Nat) (cur : Array Value) (hg : w.heap[g]? = some (.cells cur e (0, 0))) (hfit : off + n ≤ cur.size) :
    (Builtin.clear_ #[t] ty #[.slice (some ⟨g, off, none⟩) n c]).run P w = .ok (.tuple #[]) (w.setRow g (cur.toList.take off ++ List.replicate n z ++ cur.toList.drop (off + n)).toArray) := by
  cases n with
  | zero =>
    have e : (cur.toList.take off ++ List.replicate 0 z ++ cur.toList.drop (off + 0)).toArray = cur := by simp
    rw [e, setRow_self w g cur _ _ hg]
    simp [Builtin.clear_, run_underlying ht]
  | succ k =>
    have hzl : (Builtin.zeroCells z.cells (k + 1)).toList = List.replicate (k + 1) z := by
      apply List.ext_getElem
      · simp [Builtin.zeroCells, hzc]
      · intro j h1 h2
        simp [Builtin.zeroCells, hzc, Nat.mod_one]
    have hst := run_storeCells_at P g off e (List.replicate (k + 1) z) 0 cur w hg (by simpa using hfit) (fun v hv => by rw [(List.mem_replicate.1 hv).2]; exact hz1)
    simp only [Nat.add_zero, List.length_replicate] at hst
    simp [Builtin.clear_, run_underlying ht, zeroValue, typeInfo, hi, hz, hzl, hst]

theorem forget_any (b : Nat) (held : Value) (v : Value) (xs : List Value) (gone : Nat) (w : World) (hb : w.heap[b]? = some (.cells #[held, .bool true, v] 58 (0, 0))) (hown : OwnAt w 31 v xs) (hvb : v.ownBlock ≠ some b) (hg : gone ≤ xs.length) (hx : xs.length ≤ 1048576) :
    Calls Try.prog 35 #[.pointer (some ⟨b, 0, none⟩), .int .i64 gone] w fun e w' => e = .returned (.tuple #[]) ∧ ∃ v', w'.heap[b]? = some (.cells #[held, .bool true, v'] 58 (0, 0)) ∧ OwnAt w' 31 v' (xs.drop gone) ∧ v'.ownBlock = v.ownBlock ∧ Fr (fun k => k = b ∨ v.ownBlock = some k) w w' := by
  obtain ⟨c0, c1, c2⟩ := cell3 hb
  have hbs := lt_of_heap hb
  obtain ⟨i, hi1, hi2, hi3, hi4⟩ := info31
  have HB : Hid (w.heap[b]? = some (.cells #[held, .bool true, v] 58 (0, 0))) := hb
  have HVB : Hid (v.ownBlock ≠ some b) := hvb
  rcases hown with ⟨rfl, rfl⟩ | ⟨g, off, cap, cur, rfl, hgr, h1, h2, h3, h4⟩
  · obtain rfl : gone = 0 := by simpa using hg
    have z2 : w.frozen? ⟨b, 2, none⟩ = false := frozen_of_heap hb
    have hcl : ∀ ty w, (Builtin.clear_ #[39] ty #[.slice none 0 0]).run Try.prog w = .ok (.tuple #[]) w := fun ty w => by simp [Builtin.clear_, run_underlying Try.underlying39]
    clear hb hvb hg hi1 hi2 hi3 hi4 hx
    go_enter Try.func35, Try.ntmps35
    go_wp2
    go_end0
    refine ⟨rfl, .slice none 0 0, ?_, .inl ⟨rfl, by simp⟩, rfl, (Fr.refl _ _).setS (c := b) (.inl rfl) _ _⟩
    exact setCell_heap _ HB.out
  · have hgb : g ≠ b := fun e => hvb (by rw [← e]; rfl)
    obtain ⟨w2, hw2⟩ : ∃ w2, w2 = w.setRow g (cur.toList.take off ++ List.replicate gone (Value.slice none 0 0) ++ cur.toList.drop (off + gone)).toArray := ⟨_, rfl⟩
    have hcl : ∀ ty, (Builtin.clear_ #[39] ty #[.slice (some ⟨g, off, none⟩) gone cap]).run Try.prog w = .ok (.tuple #[]) w2 := fun ty => by
      rw [hw2]
      exact run_clear_row w 39 ty 31 i (.slice none 0 0) Try.underlying39 hi1 hi2 rfl rfl g off gone cap cur hgr (by omega)
    have hf2 : Fr (fun k => k = g) w w2 := by rw [hw2]; exact Fr.setRow (S := fun k => k = g) (Fr.refl _ _) g (fun _ => rfl) _
    have hb2 : w2.heap[b]? = some (.cells #[held, .bool true, .slice (some ⟨g, off, none⟩) xs.length cap] 58 (0, 0)) := (hf2.block b hbs (Ne.symm hgb)).trans hb
    have hg2 : w2.heap[g]? = some (.cells (cur.toList.take off ++ List.replicate gone (Value.slice none 0 0) ++ cur.toList.drop (off + gone)).toArray 31 (0, 0)) := by rw [hw2]; exact setRow_heap w g cur _ _ _ hgr
    have hcut := cut_to Try.prog 39 31 Try.underlying39 (by kernel_rfl) (some ⟨g, off, none⟩) xs.length cap gone .i64 (by omega)
    obtain ⟨dp, hcut2, hdp⟩ : ∃ dp : Option Addr, (∀ w, (Instr.slice 39 (.slice (some ⟨g, off, none⟩) xs.length cap) (some (.int .i64 (gone : Int))) none none).run Try.prog w = .ok (.slice dp (xs.length - gone) (cap - gone)) w) ∧ ∃ off', dp = some ⟨g, off', none⟩ ∧ (gone < cap → off' = off + gone) ∧ (gone = cap → off' = off) := by
      by_cases hc : gone < cap
      · exact ⟨some ⟨g, off + gone, none⟩, cut_from_lt Try.prog 39 31 Try.underlying39 (by kernel_rfl) g off xs.length cap gone .i64 hg hc, _, rfl, fun _ => rfl, fun e => by omega⟩
      · refine ⟨some ⟨g, off, none⟩, fun w => ?_, off, rfl, fun e => absurd e hc, fun _ => rfl⟩
        have hb' := run_sliceBound (P := Try.prog) (w := w) .i64 (gone : Int) xs.length .sliceB (by omega) (by omega)
        have hcg : cap = gone := by omega
        simp [Instr.slice, run_underlying Try.underlying39, Instr.sliceBounds, hb', sizeOf, typeInfo, hi1, hcg]
    obtain ⟨off', rfl, ho1, ho2⟩ := hdp
    obtain ⟨d0, d1, d2⟩ := cell3 hb2
    have y2 : w2.frozen? ⟨b, 2, none⟩ = false := frozen_of_heap hb2
    have HB2 : Hid (w2.heap[b]? = some (.cells #[held, .bool true, .slice (some ⟨g, off, none⟩) xs.length cap] 58 (0, 0))) := hb2
    have HG2 : Hid (w2.heap[g]? = some (.cells (cur.toList.take off ++ List.replicate gone (Value.slice none 0 0) ++ cur.toList.drop (off + gone)).toArray 31 (0, 0))) := hg2
    have HF2 : Hid (Fr (fun k => k = g) w w2) := hf2
    have H4 : Hid ((cur.toList.drop off).take xs.length = xs) := h4
    have HO : Hid ((gone < cap → off' = off + gone) ∧ (gone = cap → off' = off)) := ⟨ho1, ho2⟩
    have hgi : (gone : Int) ≤ 1048576 := by omega
    clear hb hb2 hg2 hf2 hw2 h4 ho1 ho2 hi1 hi2 hi3 hi4 hgr hvb
    go_enter Try.func35, Try.ntmps35
    go_wp2
    go_end0
    refine ⟨rfl, .slice (some ⟨g, off', none⟩) (xs.length - gone) (cap - gone), setCell_heap _ HB2.out, ?_, rfl, ?_⟩
    · refine .inr ⟨g, off', cap - gone, (cur.toList.take off ++ List.replicate gone (Value.slice none 0 0) ++ cur.toList.drop (off + gone)).toArray, by rw [List.length_drop], by rw [setCell_other _ hgb]; exact HG2.out, ?_, by rw [List.length_drop]; omega, by omega, ?_⟩
      · have := HO.out
        simp
        by_cases hc : gone < cap
        · rw [this.1 hc]; omega
        · rw [this.2 (by omega)]; omega
      · rw [List.length_drop]
        by_cases hc : gone < cap
        · rw [HO.out.1 hc]
          have e1 : (cur.toList.take off ++ List.replicate gone (Value.slice none 0 0) ++ cur.toList.drop (off + gone)).drop (off + gone) = cur.toList.drop (off + gone) := by
            rw [List.drop_append, List.drop_of_length_le (by simp; omega), List.nil_append]
            simp
            congr 1
            omega
          show List.take _ (List.drop _ (cur.toList.take off ++ List.replicate gone (Value.slice none 0 0) ++ cur.toList.drop (off + gone))) = _
          rw [e1]
          have e2 : xs.drop gone = ((cur.toList.drop off).take xs.length).drop gone := by rw [H4.out]
          rw [e2, List.drop_take, List.drop_drop]
        · have hz : xs.length - gone = 0 := by omega
          rw [hz, List.take_zero, List.drop_of_length_le (by omega)]
    · have h9 : Fr (fun k => k = b ∨ (Value.slice (some ⟨g, off, none⟩) xs.length cap).ownBlock = some k) w w2 := HF2.out.mono (fun k _ e => Or.inr (by rw [e]; rfl))
      exact h9.setS (c := b) (Or.inl rfl) _ _

end Go.Proofs.Ytaflgioelblcgaa
