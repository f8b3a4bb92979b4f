/- Contracts of the law's comparison and of its awake; both Splits side by side. -/
import Derived.Test.YtdndhidinbmpdaaBv
import Derived.BigQuiet
import Derived.Deep.Cut
namespace Go.Proofs.Ytdndhidinbmpdaa
open Go.RowKit
set_option linter.unusedVariables false
set_option maxRecDepth 100000
set_option maxHeartbeats 4000000

theorem bsame_in (f : Fra) (p q p' q' : Option Addr) (cp cq cp' cq' : Nat) (w : World) (h1 : SrcAt w p f.X) (h2 : SrcAt w p' f.X) :
    Calls Try.prog 12 #[.agg #[.int .i64 f.k, .int .i64 f.fl, .int .i64 f.st, .slice p f.X.length cp, .int .i64 f.pad, .int .u32 f.code, .int .i64 f.last, .int .i64 f.inc, .int .i64 f.dep, .bool f.only, .int .i64 f.wt, .slice q f.Y.length cq], .agg #[.int .i64 f.k, .int .i64 f.fl, .int .i64 f.st, .slice p' f.X.length cp', .int .i64 f.pad, .int .u32 f.code, .int .i64 f.last, .int .i64 f.inc, .int .i64 f.dep, .bool f.only, .int .i64 f.wt, .slice q' f.Y.length cq']] w fun e w' => e = .returned (.bool true) ∧ Fr (fun _ => False) w w' := by
  obtain ⟨W, hW⟩ : ∃ W, W = (w.alloc (.cells #[.int .i64 f.k, .int .i64 f.fl, .int .i64 f.st, .slice p f.X.length cp, .int .i64 f.pad, .int .u32 f.code, .int .i64 f.last, .int .i64 f.inc, .int .i64 f.dep, .bool f.only, .int .i64 f.wt, .slice q f.Y.length cq] 34)).alloc (.cells #[.int .i64 f.k, .int .i64 f.fl, .int .i64 f.st, .slice p' f.X.length cp', .int .i64 f.pad, .int .u32 f.code, .int .i64 f.last, .int .i64 f.inc, .int .i64 f.dep, .bool f.only, .int .i64 f.wt, .slice q' f.Y.length cq'] 34) := ⟨_, rfl⟩
  have hfw : Fr (fun _ => False) w W := by rw [hW]; exact ((Fr.refl _ _).alloc _).alloc _
  have s1 : (convert 22 9 (.slice p f.X.length cp)).run Try.prog W = .ok (.string ⟨f.X.toArray⟩) W := (h1.oldF hfw).str rfl cp
  have s2 : (convert 22 9 (.slice p' f.X.length cp')).run Try.prog W = .ok (.string ⟨f.X.toArray⟩) W := (h2.oldF hfw).str rfl cp'
  have A1 : FAt W w.heap.size f p cp q cq := by rw [hW]; exact past_at _ (heap_alloc_new w _)
  have A2 : FAt W (w.heap.size + 1) f p' cp' q' cq' := by rw [hW]; exact last_at _ (by simp)
  have HFW : Hid (Fr (fun _ => False) w W) := hfw
  obtain ⟨c0, c1, c2, c3, c4, c5, c6, c7, c8, c9, c10, c11⟩ := fcells A1
  obtain ⟨d0, d1, d2, d3, d4, d5, d6, d7, d8, d9, d10, d11⟩ := fcells A2
  clear h1 h2 hfw A1 A2
  go_enter Try.func12, Try.ntmps12
  go_upto_region 1 with (fail)
  rw [← hW]
  clear hW
  go_wp2_with (fail)
  go_ret
  exact ⟨rfl, HFW.out⟩

/-- A frame of the row, cell by cell. -/
theorem Frs.twelve {n0 : Nat} {w : World} {g n cap : Nat} {ls : List FM} (h : Frs n0 w (.slice (some ⟨g, 0, none⟩) n cap) ls) (hn : ls.length = n) {i : Nat} {f : Fra} {a : Option Addr} {d : Nat} (hz : ls[i]? = some (f, a, d, none, 0)) :
    w.cell? ⟨g, i * 12, none⟩ = some (.int .i64 f.k) ∧ w.cell? ⟨g, i * 12 + 1, none⟩ = some (.int .i64 f.fl) ∧ w.cell? ⟨g, i * 12 + 2, none⟩ = some (.int .i64 f.st) ∧ w.cell? ⟨g, i * 12 + 3, none⟩ = some (.slice a f.X.length d) ∧ w.cell? ⟨g, i * 12 + 4, none⟩ = some (.int .i64 f.pad) ∧ w.cell? ⟨g, i * 12 + 5, none⟩ = some (.int .u32 f.code) ∧ w.cell? ⟨g, i * 12 + 6, none⟩ = some (.int .i64 f.last) ∧ w.cell? ⟨g, i * 12 + 7, none⟩ = some (.int .i64 f.inc) ∧ w.cell? ⟨g, i * 12 + 8, none⟩ = some (.int .i64 f.dep) ∧ w.cell? ⟨g, i * 12 + 9, none⟩ = some (.bool f.only) ∧ w.cell? ⟨g, i * 12 + 10, none⟩ = some (.int .i64 f.wt) ∧ w.cell? ⟨g, i * 12 + 11, none⟩ = some (.slice none f.Y.length 0) :=
  ⟨(h.cell hn hz (j := 0) rfl).1, (h.cell hn hz (j := 1) rfl).1, (h.cell hn hz (j := 2) rfl).1, (h.cell hn hz (j := 3) rfl).1, (h.cell hn hz (j := 4) rfl).1, (h.cell hn hz (j := 5) rfl).1, (h.cell hn hz (j := 6) rfl).1, (h.cell hn hz (j := 7) rfl).1, (h.cell hn hz (j := 8) rfl).1, (h.cell hn hz (j := 9) rfl).1, (h.cell hn hz (j := 10) rfl).1, (h.cell hn hz (j := 11) rfl).1⟩

theorem rSplit_yes (sid : Int) (X : List UInt8) (en : Bool) (M : Nat) (p : Option Addr) (c : Nat) (w : World) (h1 : 1 ≤ sid) (h2 : sid ≤ 2147483647) (hM : 1 ≤ M) (hM2 : M ≤ 9223372036854775807) (hX : X.length < 2 ^ 47) (hc : X.length ≤ c) (hs : SrcAt w p X) (hN : nP M X.length ≤ 6000) :
    Calls Try.prog 11 #[.int .i64 sid, .slice p X.length c, .bool en, .int .i64 (M : Int)] w fun e w' => SplitAs w sid X en M (fun _ => .int .i64 0) e w' := by
  cases en with
  | true => exact rSplit_true sid X M p c w h1 h2 hM hM2 hX hc hs hN
  | false => exact rSplit_false sid X M p c w h1 h2 hM hM2 hX hc hs hN

theorem bawake_in (w : World) : Calls Try.prog 9 #[] w fun e w' => e = .returned (.bool true) ∧ Fr (fun _ => False) w w' := by
  have K : Hid (Calls Try.prog 10 #[.int .i64 1, .slice none 0 0, .bool true, .int .i64 5] w fun e w' => SplitAs w 1 [] true 5 (fun _ => .int .i64 0) e w') := Split_yes 1 [] true 5 none 0 w (by decide) (by decide) (by decide) (by decide) (by decide) (by decide) (SrcAt.nil _ _) (by decide)
  go_enter Try.func9, Try.ntmps9
  go_upto_region 2 with (go_at_call 10; refine K.out.mono ?_; rintro e w1 ⟨g, cap, ls, rfl, hl, hall, hfrs, hfr⟩; have HT : Hid (ls.length = nP 5 ([] : List UInt8).length ∧ (∀ k z, ls[k]? = some z → z.1 = splitF 1 [] true 5 (nP 5 ([] : List UInt8).length) k) ∧ Frs w.heap.size w1 (.slice (some ⟨g, 0, none⟩) ls.length cap) ls ∧ Fr (fun _ => False) w w1) := ⟨hl, hall, hfrs, hfr⟩; clear hl hall hfrs hfr)
  obtain ⟨hl, hall, hfrs, hfr⟩ := HT.out
  have hl1 : ls.length = 1 := hl
  obtain ⟨z, hz⟩ : ∃ z, ls[0]? = some z := ⟨ls[0]'(by omega), List.getElem?_eq_getElem _⟩
  have hz1 := hall 0 z hz
  have c1 : w1.cell? ⟨g, 1, none⟩ = some (.int .i64 5) := by
    have := (hfrs.cell rfl hz (j := 1) (u := .int .i64 z.1.fl) rfl).1
    rw [hz1] at this
    simpa [splitF, nP] using this
  rw [hl1]
  clear HT hfrs hl hz hz1 hall hl1
  have HFR : Hid (Fr (fun _ => False) w w1) := hfr
  clear hfr
  go_wp2_with (fail)
  go_ret
  exact ⟨rfl, HFR.out⟩
end Go.Proofs.Ytdndhidinbmpdaa
