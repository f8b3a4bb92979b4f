/- The walk of FrameBack. -/
import Derived.Test.YthcjgjmbicnklaaWs
import Derived.Test.YthcjgjmbicnklaaPn
namespace Go.Proofs.Ythcjgjmbicnklaa
open Go.RowKit
set_option linter.unusedVariables false
set_option maxRecDepth 100000
set_option maxHeartbeats 4000000

theorem back_walk (f : Fra) (p q : Option Addr) (cp cq : Nat) (bq : Option Addr) (bc : Nat) (Z : List UInt8) (w : World) (hI : FrIn w f p q cq) (hZ : SrcAt w bq Z) (hZn : Z.length < 2 ^ 47) :
    Calls Try.prog 5 #[.agg #[.int .i64 f.k, .int .i64 f.fl, .int .i64 f.st, .slice p f.X.length cp, .int .i64 f.pad, .int .u32 f.code, .int .i64 f.last, .int .i64 f.inc, .int .i64 f.dep, .bool f.only, .int .i64 f.wt, .slice q f.Y.length cq], .slice bq Z.length bc] w fun e w' => e = .returned (.bool true) ∧ Below w.heap.size w w' := by
  obtain ⟨W, hW⟩ : ∃ W, W = w.alloc (.cells #[.int .i64 f.k, .int .i64 f.fl, .int .i64 f.st, .slice p f.X.length cp, .int .i64 f.pad, .int .u32 f.code, .int .i64 f.last, .int .i64 f.inc, .int .i64 f.dep, .bool f.only, .int .i64 f.wt, .slice q f.Y.length cq] 26) := ⟨_, rfl⟩
  have HFW : Hid (Fr (fun _ => False) w W) := by rw [hW]; exact (Fr.refl _ _).alloc _
  have HF : Hid (FAt W w.heap.size f p cp q cq) := by rw [hW]; exact heap_alloc_new w _
  have KW : Hid (Calls Try.prog 9 #[.agg #[.int .i64 f.k, .int .i64 f.fl, .int .i64 f.st, .slice p f.X.length cp, .int .i64 f.pad, .int .u32 f.code, .int .i64 f.last, .int .i64 f.inc, .int .i64 f.dep, .bool f.only, .int .i64 f.wt, .slice q f.Y.length cq]] W fun e w' => WroteAs W (writeO f) e w') := Write_in f p q cp cq W (hI.later HFW.out)
  obtain ⟨E, hE⟩ : ∃ E, (writeO f).1 = E := ⟨_, rfl⟩
  obtain ⟨B, hB⟩ : ∃ B, (writeO f).2 = B := ⟨_, rfl⟩
  have hpair : writeO f = (E, B) := by rw [← hE, ← hB]
  rw [hpair] at KW
  by_cases h0 : E = 0
  case neg =>
    have hne : (E != 0) = true := by simpa using h0
    have hBn : B = [] := by
      have h1 : (writeO f).1 ≠ 0 → (writeO f).2 = [] := by
        unfold writeO
        repeat' split
        all_goals simp
      rw [← hB]
      exact h1 (by rw [hE]; exact h0)
    have HB0 : Hid (B = []) := hBn
    clear h0 hI hZ hBn
    go_enter Try.func5, Try.ntmps5
    go_wp2_with (fail)
    rw [← hW]
    refine KW.out.mono ?_
    rintro e w1 ⟨a, n, d, rfl, hn, hG⟩
    have F1 : Hid (Fr (fun _ => False) w w1) := HFW.out.trans hG.2.2
    dsimp only at hn ⊢
    rw [HB0.out] at hn
    obtain rfl : 0 = n := hn
    clear hG
    go_wp2_with (fail)
    refine (fawake_in _).mono ?_
    rintro e w2 ⟨rfl, rfl⟩
    go_wp2
    go_ret
    exact ⟨rfl, F1.out.below (fun _ _ => id)⟩
  case pos =>
    subst h0
    obtain ⟨h1, h2, h3, h4, h5, h6⟩ := writeO_ok hE
    have hlenb : B.length ≤ 16777224 := by rw [← hB, h6, List.length_append, headB_len]; omega
    obtain ⟨n, hn⟩ : ∃ n, B.length = n := ⟨_, rfl⟩
    obtain ⟨z, hz⟩ : ∃ z, Z.length = z := ⟨_, rfl⟩
    have hnb : n ≤ 16777224 := by omega
    have hfits : Fits f := ⟨hI.code, fun s hs => by
      obtain ⟨i, hi⟩ := List.mem_iff_getElem?.1 hs
      obtain ⟨_, _, _, _, _, _, _, h⟩ := hI.sets.cells i s hi
      exact h⟩
    have hpb : parseO (B ++ Z) 16777215 = (nf f, n, ⟨false, 0, 0⟩, 0) := by
      have h := parse_back hfits hE Z 16777215 (by omega)
      rw [hB, hn] at h
      exact h
    have hnw : writeO (nf f) = (0, B) := by rw [nf_write hE, hpair]
    have hnums := hI.nums.nf
    obtain ⟨g, hg⟩ : ∃ g, nf f = g := ⟨_, rfl⟩
    have hh := nf_head f
    have HH : Hid (g.k = f.k ∧ g.fl = f.fl ∧ g.st = f.st ∧ g = nf f) := by rw [hg] at hh; exact ⟨hh.1, hh.2.1, hh.2.2.1, hg.symm⟩
    rw [hg] at hpb hnw hnums
    have HNU : Hid (Nums g) := hnums
    have KP : Hid (∀ a d m w', Gath W w' (.slice a m d) (B ++ Z) → Calls Try.prog 12 #[.slice a m d, .int .i64 16777215] w' fun e w2 => ∃ p9 k9 q9 d9, e = .returned (.tuple #[.agg #[.int .i64 g.k, .int .i64 g.fl, .int .i64 g.st, .slice p9 g.X.length k9, .int .i64 g.pad, .int .u32 g.code, .int .i64 g.last, .int .i64 g.inc, .int .i64 g.dep, .bool g.only, .int .i64 g.wt, .slice q9 g.Y.length d9], .int .i64 (n : Nat), .agg #[.bool false, .int .i64 0, .int .i64 0], .int .i64 0]) ∧ SrcAt w2 p9 g.X ∧ SetsAt w2 q9 d9 g.Y ∧ Fr (fun _ => False) w' w2) := fun a d m w' hG => by
      have hl := own_len hG.1
      have h := Parse_in a m d (B ++ Z) 16777215 w' (own_src hG.1) hl.1.symm hl.2 (by rw [hl.1, List.length_append]; omega) (by decide)
      rw [hpb] at h
      exact h
    have KW2 : Hid (∀ p9 k9 q9 d9 w', SrcAt w' p9 g.X → SetsAt w' q9 d9 g.Y → Calls Try.prog 9 #[.agg #[.int .i64 g.k, .int .i64 g.fl, .int .i64 g.st, .slice p9 g.X.length k9, .int .i64 g.pad, .int .u32 g.code, .int .i64 g.last, .int .i64 g.inc, .int .i64 g.dep, .bool g.only, .int .i64 g.wt, .slice q9 g.Y.length d9]] w' fun e w2 => WroteAs w' (0, B) e w2) := fun p9 k9 q9 d9 w' hX hY => by
      have h := Write_in g p9 q9 k9 d9 w' (HNU.out.frIn hX hY)
      rw [hnw] at h
      exact h
    have HX : Hid (SrcAt w p f.X) := hI.src
    have HZ : Hid (SrcAt w bq Z) := hZ
    have HN : Hid (B.length = n ∧ Z.length = z) := ⟨hn, hz⟩
    obtain ⟨j, J1, J2, J3, J4⟩ := info5
    have J1 : Hid _ := J1
    have J2 : Hid _ := J2
    have J3 : Hid _ := J3
    have J4 : Hid _ := J4
    rw [hz]
    clear hE hB h1 h2 h3 h4 h5 h6 hlenb hn hpair hI hZ hfits hpb hnw hnums hh hg
    go_enter Try.func5, Try.ntmps5
    go_wp2_with (fail)
    rw [← hW]
    refine KW.out.mono ?_
    rintro e w1 ⟨a, n', d, rfl, hn', hG⟩
    dsimp only at hn' hG ⊢
    rw [HN.out.1] at hn'
    subst hn'
    have G1 : Hid (Gath W w1 (.slice a n d) B) := hG
    have F1 : Hid (Fr (fun _ => False) w w1) := HFW.out.trans hG.2.2
    have SB : Hid (SrcAt w1 a B) := own_src hG.1
    clear hG
    go_wp2_with (first
      | (refine wpList_gather (w0 := w1) rfl (.tmp 26) (.tmp 27) 22 22 rfl j Try.underlying22 Try.underlying22 J1.out J2.out J3.out J4.out (.slice (some ⟨w1.heap.size, 0, none⟩) 0 0) [] (by go_simp) (Gath.start (Fr.refl _ _)) a n d (by go_simp) B (SB.out.oldF ((Fr.refl _ _).alloc _)) HN.out.1 (by simp; omega) ?_; intro a2 n2 d2 w2 Hn2 G2 F2)
      | (refine wpList_gather (w0 := w1) rfl (.tmp 28) (.tmp 29) 22 22 rfl j Try.underlying22 Try.underlying22 J1.out J2.out J3.out J4.out (.slice a2 n2 d2) ([] ++ B) (by go_simp) G2 bq z bc (by go_simp) Z (HZ.out.oldF (F1.out.trans G2.2.2)) HN.out.2 (by have := HN.out; simp; omega) ?_; intro a3 n3 d3 w3 Hn3 G3 F3))
    refine (KP.out a3 d3 n3 w3 (by have h := G3.old G1.out.2.2; simpa using h)).mono ?_
    rintro e w4 ⟨p9, k9, q9, d9, rfl, hX9, hY9, hf4⟩
    have F4 : Hid (Fr (fun _ => False) w1 w4) := G3.2.2.trans hf4
    have G9 : Hid (SrcAt w4 p9 g.X ∧ SetsAt w4 q9 d9 g.Y) := ⟨hX9, hY9⟩
    clear hX9 hY9 hf4
    obtain ⟨wt, hwt⟩ : ∃ wt, wt = ((w4.alloc (.cells #[.int .i64 g.k, .int .i64 g.fl, .int .i64 g.st, .slice p9 g.X.length k9, .int .i64 g.pad, .int .u32 g.code, .int .i64 g.last, .int .i64 g.inc, .int .i64 g.dep, .bool g.only, .int .i64 g.wt, .slice q9 g.Y.length d9] 26)).alloc (.cells #[.bool false, .int .i64 0, .int .i64 0] 35)) := ⟨_, rfl⟩
    have FT : Hid (Fr (fun _ => False) w4 wt) := by rw [hwt]; exact ((Fr.refl _ _).alloc _).alloc _
    have TA : Hid (FAt wt w4.heap.size g p9 k9 q9 d9) := by rw [hwt]; exact past_at _ (heap_alloc_new w4 _)
    have t0 : ((w4.alloc (.cells #[.int .i64 g.k, .int .i64 g.fl, .int .i64 g.st, .slice p9 g.X.length k9, .int .i64 g.pad, .int .u32 g.code, .int .i64 g.last, .int .i64 g.inc, .int .i64 g.dep, .bool g.only, .int .i64 g.wt, .slice q9 g.Y.length d9] 26)).alloc (.cells #[.bool false, .int .i64 0, .int .i64 0] 35)).cell? ⟨w.heap.size, 0, none⟩ = some (.int .i64 f.k) := by rw [← hwt]; exact cell_of_heap (HF.out.later ((G1.out.2.2.trans F4.out).trans FT.out)) rfl
    have t1 : ((w4.alloc (.cells #[.int .i64 g.k, .int .i64 g.fl, .int .i64 g.st, .slice p9 g.X.length k9, .int .i64 g.pad, .int .u32 g.code, .int .i64 g.last, .int .i64 g.inc, .int .i64 g.dep, .bool g.only, .int .i64 g.wt, .slice q9 g.Y.length d9] 26)).alloc (.cells #[.bool false, .int .i64 0, .int .i64 0] 35)).cell? ⟨w.heap.size, 1, none⟩ = some (.int .i64 f.fl) := by rw [← hwt]; exact cell_of_heap (HF.out.later ((G1.out.2.2.trans F4.out).trans FT.out)) rfl
    have t2 : ((w4.alloc (.cells #[.int .i64 g.k, .int .i64 g.fl, .int .i64 g.st, .slice p9 g.X.length k9, .int .i64 g.pad, .int .u32 g.code, .int .i64 g.last, .int .i64 g.inc, .int .i64 g.dep, .bool g.only, .int .i64 g.wt, .slice q9 g.Y.length d9] 26)).alloc (.cells #[.bool false, .int .i64 0, .int .i64 0] 35)).cell? ⟨w.heap.size, 2, none⟩ = some (.int .i64 f.st) := by rw [← hwt]; exact cell_of_heap (HF.out.later ((G1.out.2.2.trans F4.out).trans FT.out)) rfl
    have hk1 : (g.k != f.k) = false := by rw [HH.out.1]; simp
    have hk2 : (g.fl != f.fl) = false := by rw [HH.out.2.1]; simp
    have hk3 : (g.st != f.st) = false := by rw [HH.out.2.2.1]; simp
    go_wp2_with (fail)
    rw [← hwt]
    refine (KW2.out p9 k9 q9 d9 _ (G9.out.1.oldF FT.out) (G9.out.2.later FT.out)).mono ?_
    rintro e w5 ⟨a5, n5, d5, rfl, hn5, hG5⟩
    dsimp only at hn5 ⊢
    rw [HN.out.1] at hn5
    subst hn5
    have F5 : Hid (Fr (fun _ => False) wt w5) := hG5.2.2
    have F15 : Hid (Fr (fun _ => False) w1 w5) := (F4.out.trans FT.out).trans F5.out
    have s1 : (convert 22 9 (.slice a5 n d5)).run Try.prog w5 = .ok (.string ⟨B.toArray⟩) w5 := (own_src hG5.1).str HN.out.1 d5
    have s2 : (convert 22 9 (.slice a n d)).run Try.prog w5 = .ok (.string ⟨B.toArray⟩) w5 := (SB.out.oldF F15.out).str HN.out.1 d
    have s3 : (convert 22 9 (.slice p9 g.X.length k9)).run Try.prog w5 = .ok (.string ⟨g.X.toArray⟩) w5 := (G9.out.1.oldF (FT.out.trans F5.out)).str rfl k9
    have s4 : (convert 22 9 (.slice p f.X.length cp)).run Try.prog w5 = .ok (.string ⟨f.X.toArray⟩) w5 := (HX.out.oldF (F1.out.trans F15.out)).str rfl cp
    obtain ⟨c0, c1, c2, c3, c4, c5, c6, c7, c8, c9, c10, c11⟩ := fcells (HF.out.later (G1.out.2.2.trans F15.out))
    obtain ⟨d0, d1, d2, d3, d4, d5, d6, d7, d8, d9, d10, d11⟩ := fcells (TA.out.later F5.out)
    have HEND : Hid (Fr (fun _ => False) w w5) := F1.out.trans F15.out
    clear hG5 t0 t1 t2 hk1 hk2 hk3 hwt hW
    have hfew : f.Y.length ≤ f.Y.length := Nat.le_refl _
    rcases kinds f.k with h | h | h | h | h | h | h | h | h | h | hno
    · have hx : g.X = f.X := by rw [HH.out.2.2.2]; exact nf_X (.inl h)
      rw [hx] at s3 d3
      clear hx
      go_wp2
      go_ret
      exact ⟨rfl, HEND.out.below (fun _ _ => id)⟩
    · have hx : g.X = f.X := by rw [HH.out.2.2.2]; exact nf_X (.inr (.inl h))
      rw [hx] at s3 d3
      clear hx
      go_wp2
      go_ret
      exact ⟨rfl, HEND.out.below (fun _ _ => id)⟩
    · cases hb : ((g.Y.length : Int) == (f.Y.length : Int))
      · go_wp2
        go_ret
        exact ⟨rfl, HEND.out.below (fun _ _ => id)⟩
      · go_wp2
        go_ret
        exact ⟨rfl, HEND.out.below (fun _ _ => id)⟩
    · have hx : g.code = f.code := by rw [HH.out.2.2.2]; exact nf_code h
      rw [hx] at d5
      clear hx
      go_wp2
      go_ret
      exact ⟨rfl, HEND.out.below (fun _ _ => id)⟩
    · have hx : g.Y = f.Y := by rw [HH.out.2.2.2]; exact nf_Y h
      rw [hx] at d11
      clear hx
      go_wp2
      go_ret
      exact ⟨rfl, HEND.out.below (fun _ _ => id)⟩
    · cases hb : ((g.Y.length : Int) == (f.Y.length : Int))
      · go_wp2
        go_ret
        exact ⟨rfl, HEND.out.below (fun _ _ => id)⟩
      · go_wp2
        go_ret
        exact ⟨rfl, HEND.out.below (fun _ _ => id)⟩
    · have hx : g.X = f.X := by rw [HH.out.2.2.2]; exact nf_X (.inr (.inr (.inr (.inl h))))
      rw [hx] at s3 d3
      clear hx
      go_wp2
      go_ret
      exact ⟨rfl, HEND.out.below (fun _ _ => id)⟩
    · have hx : g.X = f.X := by rw [HH.out.2.2.2]; exact nf_X (.inr (.inr (.inr (.inr h))))
      rw [hx] at s3 d3
      clear hx
      go_wp2
      go_ret
      exact ⟨rfl, HEND.out.below (fun _ _ => id)⟩
    · have hx : g.inc = f.inc := by rw [HH.out.2.2.2]; exact nf_inc h
      rw [hx] at d7
      clear hx
      go_wp2
      go_ret
      exact ⟨rfl, HEND.out.below (fun _ _ => id)⟩
    · have hx : g.X = f.X := by rw [HH.out.2.2.2]; exact nf_X (.inr (.inr (.inl h)))
      rw [hx] at s3 d3
      clear hx
      go_wp2
      go_ret
      exact ⟨rfl, HEND.out.below (fun _ _ => id)⟩
    · obtain ⟨n0, n1, n2, n3, n4, n5, n6, n7, n8, n9⟩ := hno
      have hn4 : (f.k != 4) = true := by simpa using n4
      cases hb : ((g.Y.length : Int) == (f.Y.length : Int))
      · go_wp2
        go_ret
        exact ⟨rfl, HEND.out.below (fun _ _ => id)⟩
      · go_wp2
        go_ret
        exact ⟨rfl, HEND.out.below (fun _ _ => id)⟩
end Go.Proofs.Ythcjgjmbicnklaa
