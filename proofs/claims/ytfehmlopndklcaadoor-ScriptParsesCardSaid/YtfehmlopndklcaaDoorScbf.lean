/- The program's Parse. -/
import Derived.Test.YtfehmlopndklcaaDoorScbe
namespace Go.Proofs.YtfehmlopndklcaaDoor
open Go.RowKit
set_option maxRecDepth 100000
set_option maxHeartbeats 4000000
set_option linter.unusedVariables false

/-- What a script is, and what is answered. -/
def PAs (s : ByteArray) (w : World) (e : Ending) (w' : World) : Prop := Fr (fun _ => False) w w' ∧
  ((65536 < s.size ∧ e = .returned (.tuple #[.slice none 0 0, .int .i64 0, .int .i64 2])) ∨ (s.size ≤ 65536 ∧
    ((∃ (k : Nat) (n : Int), scriptO (tx s) = .inr (k, n) ∧ e = .returned (.tuple #[.slice none 0 0, .int .i64 (k : Int), .int .i64 n])) ∨
      ∃ (E : List (Dr × Value)) (q : Option Addr) (c : Nat), scriptO (tx s) = .inl (E.map (·.1)) ∧ e = .returned (.tuple #[.slice q E.length c, .int .i64 0, .int .i64 0]) ∧ EvAt w' (.slice q E.length c) E)))
theorem Parse_in (s : ByteArray) (w : World) (hE : EtAt w) : Calls Tryd.prog 10 #[.string s] w (PAs s w) := by
  have KR := readScript_in s w
  have HE : Hid (EtAt w) := hE
  clear hE
  go_enter Tryd.func10, Tryd.ntmps10
  go_wp2_with (fail)
  refine KR.mono ?_
  clear KR
  rintro e w1 ⟨hf1, ⟨hs, v, hv, rfl⟩ | ⟨hs, ⟨k, n, v, hx, hv, rfl⟩ | ⟨E, q, c, hx, rfl, hev⟩⟩⟩
  · have KA := ask_err hv w1 (HE.out.fr hf1)
    have HF : Hid (Fr (fun _ => False) w w1 ∧ 65536 < s.size) := ⟨hf1, hs⟩
    clear hf1 hs hv
    go_wp2_with (fail)
    refine KA.mono ?_
    clear KA
    rintro e w2 ⟨rfl, hf2⟩
    have HF2 : Hid (Fr (fun _ => False) w w2) := HF.out.1.trans hf2
    clear hf2
    go_wp2_with (fail)
    refine bodyPost_ret (v := .tuple #[.slice none 0 0, .int .i64 ((0 : Nat) : Int), .int .i64 2]) (by simp [results, Tryd.results10, go_sem]) rfl ?_
    exact ⟨HF2.out, .inl ⟨HF.out.2, rfl⟩⟩
  · have KA := ask_err hv w1 (HE.out.fr hf1)
    have HF : Hid (Fr (fun _ => False) w w1 ∧ s.size ≤ 65536 ∧ scriptO (tx s) = .inr (k, n)) := ⟨hf1, hs, hx⟩
    clear hf1 hs hv hx
    go_wp2_with (fail)
    refine KA.mono ?_
    clear KA
    rintro e w2 ⟨rfl, hf2⟩
    have HF2 : Hid (Fr (fun _ => False) w w2) := HF.out.1.trans hf2
    clear hf2
    go_wp2_with (fail)
    refine bodyPost_ret (v := .tuple #[.slice none 0 0, .int .i64 (k : Int), .int .i64 n]) (by simp [results, Tryd.results10, go_sem]) rfl ?_
    exact ⟨HF2.out, .inr ⟨HF.out.2.1, .inl ⟨k, n, HF.out.2.2, rfl⟩⟩⟩
  · have KA := ask_nil w1
    have HF : Hid (Fr (fun _ => False) w w1 ∧ s.size ≤ 65536 ∧ scriptO (tx s) = .inl (E.map (·.1)) ∧ EvAt w1 (.slice q E.length c) E) := ⟨hf1, hs, hx, hev⟩
    clear hf1 hs hev hx
    go_wp2_with (fail)
    refine KA.mono ?_
    clear KA
    rintro e w2 ⟨rfl, hf2⟩
    have HF2 : Hid (Fr (fun _ => False) w w2 ∧ EvAt w2 (.slice q E.length c) E) := ⟨HF.out.1.trans hf2, HF.out.2.2.2.old hf2⟩
    clear hf2
    go_wp2_with (fail)
    refine bodyPost_ret (v := .tuple #[.slice q E.length c, .int .i64 0, .int .i64 0]) (by simp [results, Tryd.results10, go_sem]) rfl ?_
    exact ⟨HF2.out.1, .inr ⟨HF.out.2.1, .inr ⟨E, q, c, HF.out.2.2.1, rfl, HF2.out.2⟩⟩⟩
end Go.Proofs.YtfehmlopndklcaaDoor
