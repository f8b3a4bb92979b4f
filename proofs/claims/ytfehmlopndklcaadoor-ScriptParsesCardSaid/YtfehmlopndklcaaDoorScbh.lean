/- The walk of ScriptParses. -/
import Derived.Test.YtfehmlopndklcaaDoorMScbf
import Derived.Test.YtfehmlopndklcaaDoorScba
namespace Go.Proofs.YtfehmlopndklcaaDoor
open Go.RowKit
set_option maxRecDepth 100000
set_option maxHeartbeats 8000000
set_option linter.unusedVariables false

/-- What a script's answer is: the events, the line, the number. -/
def ansP (s : ByteArray) (L : List Dr) (pl n : Int) : Prop := (65536 < s.size ∧ L = [] ∧ pl = 0 ∧ n = 2) ∨ (s.size ≤ 65536 ∧ ((∃ (k : Nat) (m : Int), scriptO (tx s) = .inr (k, m) ∧ L = [] ∧ pl = (k : Int) ∧ n = m) ∨ (scriptO (tx s) = .inl L ∧ pl = 0 ∧ n = 0)))
theorem PAs.form {s : ByteArray} {w W : World} {e : Ending} (h : PAs s w e W) : ∃ (E : List (Dr × Value)) (q : Option Addr) (c : Nat) (pl n : Int), ansP s (E.map (·.1)) pl n ∧ e = .returned (.tuple #[.slice q E.length c, .int .i64 pl, .int .i64 n]) ∧ EvAt W (.slice q E.length c) E ∧ Fr (fun _ => False) w W := by
  obtain ⟨hf, ⟨ha, rfl⟩ | ⟨ha, ⟨k, m, hp, rfl⟩ | ⟨E, q, c, hx, rfl, hv⟩⟩⟩ := h
  · exact ⟨[], none, 0, 0, 2, .inl ⟨ha, rfl, rfl, rfl⟩, rfl, .nil _, hf⟩
  · exact ⟨[], none, 0, k, m, .inr ⟨ha, .inl ⟨k, m, hp, rfl, rfl, rfl⟩⟩, rfl, .nil _, hf⟩
  · exact ⟨E, q, c, 0, 0, .inr ⟨ha, .inr ⟨hx, rfl, rfl⟩⟩, rfl, hv, hf⟩
theorem ansP_one {s : ByteArray} {L L' : List Dr} {pl pl' n n' : Int} (h : ansP s L pl n) (h' : ansP s L' pl' n') : L = L' ∧ pl = pl' ∧ n = n' := by
  rcases h with ⟨ha, rfl, rfl, rfl⟩ | ⟨ha, ⟨k, m, hp, rfl, rfl, rfl⟩ | ⟨hx, rfl, rfl⟩⟩
  · rcases h' with ⟨-, rfl, rfl, rfl⟩ | ⟨hb, -⟩
    · exact ⟨rfl, rfl, rfl⟩
    · omega
  · rcases h' with ⟨hb, -⟩ | ⟨-, ⟨k', m', hp', rfl, rfl, rfl⟩ | ⟨hx', -⟩⟩
    · omega
    · rw [hp] at hp'
      injection hp' with hp'
      injection hp' with h1 h2
      subst h1 h2
      exact ⟨rfl, rfl, rfl⟩
    · rw [hp] at hx'; cases hx'
  · rcases h' with ⟨hb, -⟩ | ⟨-, ⟨k', m', hp', rfl, rfl, rfl⟩ | ⟨hx', rfl, rfl⟩⟩
    · omega
    · rw [hx] at hp'; cases hp'
    · rw [hx] at hx'
      injection hx' with hx'
      exact ⟨hx', rfl, rfl⟩
theorem scGo_few : ∀ (L : List (List UInt8)) (k : Nat) (acc M : List Dr), acc.length ≤ 4096 → scGo L k acc = .inl M → M.length ≤ 4096
  | [], _, acc, M, h, e => by
    have e' : acc = M := by simpa [scGo] using e
    rw [← e']; exact h
  | p :: r, k, acc, M, h, e => by
    unfold scGo at e
    split at e
    · exact scGo_few r _ acc M h e
    · split at e
      · cases e
      · split at e
        · cases e
        · refine scGo_few r _ _ M ?_ e
          rw [List.length_append]
          simp
          omega
theorem ansP_few {s : ByteArray} {L : List Dr} {pl n : Int} (h : ansP s L pl n) : L.length ≤ 4096 := by
  rcases h with ⟨-, rfl, -⟩ | ⟨-, ⟨k, m, -, rfl, -⟩ | ⟨hx, -⟩⟩
  · simp
  · simp
  · exact scGo_few _ _ [] L (by simp) hx
theorem evs_at {E E' : List (Dr × Value)} {el i : Nat} (h : E.map (·.1) = E'.map (·.1)) (hl : E.length = el) (hi : i < el) : ∃ x u u', E[i]? = some (x, u) ∧ E'[i]? = some (x, u') := by
  have h1 := congrArg List.length h
  rw [List.length_map, List.length_map] at h1
  have e1 : E[i]? = some (E[i]'(by omega)) := List.getElem?_eq_getElem _
  have e2 : E'[i]? = some (E'[i]'(by omega)) := List.getElem?_eq_getElem _
  have h2 : (E.map (·.1))[i]? = (E'.map (·.1))[i]? := by rw [h]
  rw [List.getElem?_map, List.getElem?_map, e1, e2] at h2
  simp at h2
  refine ⟨(E[i]'(by omega)).1, (E[i]'(by omega)).2, (E'[i]'(by omega)).2, e1, ?_⟩
  rw [e2, h2]
theorem parses_walk (s : ByteArray) (w : World) (hE : EtAt w) : Calls Tryd.prog 4 #[.string s] w fun e w' => e = .returned (.bool true) ∧ Below w.heap.size w w' := by
  have KA := Parse_in s w hE
  go_enter Tryd.func4, Tryd.ntmps4
  go_wp2_with (fail)
  refine KA.mono ?_
  clear KA
  rintro e W1 h1
  obtain ⟨E, q, c, pl, n, ha, rfl, hv, hf1⟩ := h1.form
  have KB := rParse_in s W1
  have HA : Hid (ansP s (E.map (·.1)) pl n ∧ EvAt W1 (.slice q E.length c) E ∧ Fr (fun _ => False) w W1) := ⟨ha, hv, hf1⟩
  obtain ⟨el, hel⟩ : ∃ el, E.length = el := ⟨_, rfl⟩
  have HE4 : Hid (el ≤ 4096) := by have := ansP_few ha; rw [List.length_map] at this; show _ ≤ _; omega
  have HEL : Hid (E.length = el) := hel
  rw [hel]
  clear h1 ha hv hf1 hE
  go_wp2_with (fail)
  refine KB.mono ?_
  clear KB
  rintro e W2 h2
  obtain ⟨E', q', c', pl', n', ha', rfl, hv', hf2⟩ := h2.form
  obtain ⟨hEE, hpl, hn⟩ := ansP_one HA.out.1 ha'
  have hlen : E'.length = el := by
    have h1 := congrArg List.length hEE
    rw [List.length_map, List.length_map] at h1
    rw [← HEL.out, h1]
  subst hpl hn
  have HB : Hid (E.map (·.1) = E'.map (·.1) ∧ EvAt W2 (.slice q el c) E ∧ EvAt W2 (.slice q' el c') E' ∧ Fr (fun _ => False) w W2) := ⟨hEE, by have := HA.out.2.1.old hf2; rwa [hel] at this, by rwa [hlen] at hv', HA.out.2.2.trans hf2⟩
  rw [hlen]
  clear h2 ha' hv' hf2 hEE hel hlen
  go_wp2_with (fail)
  go_loopw [9] (fun x9 wr => ∃ i : Nat, x9 = .int .i64 (i : Int) ∧ Hid (i ≤ el) ∧ Hid (Fr (fun _ => False) W2 wr)) (fun x9 _ => el - (intOf x9).toNat)
  case atStart => exact ⟨0, rfl, Nat.zero_le _, Fr.refl _ _⟩
  case round =>
    obtain ⟨i, rfl, HI, HF⟩ := hrel
    have hel : el ≤ 4096 := HE4.out
    have hie : i ≤ 4096 := by have := HI.out; omega
    have hi0 : (0 : Int) ≤ (i : Int) := by omega
    by_cases hlt : i < el
    · have hlt2 : (i : Int) < (el : Int) := by omega
      obtain ⟨x, u, u', hx, hx'⟩ := evs_at HB.out.1 HEL.out hlt
      obtain ⟨g, rfl, hc⟩ := (HB.out.2.1.old HF.out).at_ hx
      obtain ⟨g', rfl, hc'⟩ := (HB.out.2.2.1.old HF.out).at_ hx'
      have HLT : Hid (i < el) := hlt
      have a0 : wr.cell? ⟨g, i * 5, none⟩ = some (.int .i64 x.what) := by have := hc 0 _ rfl; rwa [show 5 * i + 0 = i * 5 by omega] at this
      have a1 : wr.cell? ⟨g, i * 5 + 1, none⟩ = some (.int .i64 x.a) := by have := hc 1 _ rfl; rwa [show 5 * i + 1 = i * 5 + 1 by omega] at this
      have a2 : wr.cell? ⟨g, i * 5 + 2, none⟩ = some (.int .i64 x.b) := by have := hc 2 _ rfl; rwa [show 5 * i + 2 = i * 5 + 2 by omega] at this
      have a3 : wr.cell? ⟨g, i * 5 + 3, none⟩ = some (.int .i64 x.d) := by have := hc 3 _ rfl; rwa [show 5 * i + 3 = i * 5 + 3 by omega] at this
      have a4 : wr.cell? ⟨g, i * 5 + 4, none⟩ = some u := by have := hc 4 _ rfl; rwa [show 5 * i + 4 = i * 5 + 4 by omega] at this
      have b0 : wr.cell? ⟨g', i * 5, none⟩ = some (.int .i64 x.what) := by have := hc' 0 _ rfl; rwa [show 5 * i + 0 = i * 5 by omega] at this
      have b1 : wr.cell? ⟨g', i * 5 + 1, none⟩ = some (.int .i64 x.a) := by have := hc' 1 _ rfl; rwa [show 5 * i + 1 = i * 5 + 1 by omega] at this
      have b2 : wr.cell? ⟨g', i * 5 + 2, none⟩ = some (.int .i64 x.b) := by have := hc' 2 _ rfl; rwa [show 5 * i + 2 = i * 5 + 2 by omega] at this
      have b3 : wr.cell? ⟨g', i * 5 + 3, none⟩ = some (.int .i64 x.d) := by have := hc' 3 _ rfl; rwa [show 5 * i + 3 = i * 5 + 3 by omega] at this
      have b4 : wr.cell? ⟨g', i * 5 + 4, none⟩ = some u' := by have := hc' 4 _ rfl; rwa [show 5 * i + 4 = i * 5 + 4 by omega] at this
      have KS : Hid (∀ W, Fr (fun _ => False) wr W → Calls Tryd.prog 8 #[inV x u, inV x u'] W fun e w' => e = .returned (.bool true) ∧ Hid (Fr (fun _ => False) wr w')) := fun W hW => by
        have h1 := (HB.out.2.1.old (HF.out.trans hW)).dat _ (List.mem_of_getElem? hx)
        have h2 := (HB.out.2.2.1.old (HF.out.trans hW)).dat _ (List.mem_of_getElem? hx')
        exact (same_in x u u' W h1 h2).mono fun e w' h => ⟨h.1, hW.trans h.2⟩
      unfold inV at KS
      clear hc hc' hx hx' hlt
      go_wp2_with (fail)
      go_region_with (go_at_call 8; refine (KS.out _ (by first | exact Fr.refl _ _ | exact (Fr.refl _ _).drew | exact (Fr.refl _ _).drewN _)).mono ?_; rintro e w' ⟨rfl, hf'⟩)
      all_goals
        have HW : Hid (Fr (fun _ => False) W2 w') := HF.out.trans hf'.out
        clear hf' a0 a1 a2 a3 a4 b0 b1 b2 b3 b4
        go_wp2_with (fail)
        go_roundw
        case rel => exact ⟨i + 1, by go_num, by have := HLT.out; show _ ≤ _; omega, HW.out⟩
        case measure =>
          have := HLT.out
          simp [intOf]; omega
    · have hlt2 : ¬ (i : Int) < (el : Int) := by omega
      clear hlt
      go_wp2_with (fail)
      refine (zawake_in wr).mono ?_
      rintro e W5 ⟨rfl, hf5⟩
      have HF5 : Hid (Fr (fun _ => False) w W5) := HB.out.2.2.2.trans (HF.out.trans hf5)
      clear hf5
      go_wp2_with (fail)
      go_ret
      exact ⟨rfl, HF5.out.below (fun _ _ => id)⟩
end Go.Proofs.YtfehmlopndklcaaDoor
