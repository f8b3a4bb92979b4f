/- Contracts of what writes a priority, and settings. -/
import Derived.Test.YtpjbgjgaigkbcaaGreatFd
import Derived.Deep.RegionHeldLaw
import Derived.Deep.LoopGhost
namespace Go.Proofs.YtpjbgjgaigkbcaaGreat
open Go.RowKit
set_option linter.unusedVariables false
set_option maxRecDepth 100000
set_option maxHeartbeats 4000000

theorem or31 (m : Nat) (hm : m < 2147483648) : bits .or .u32 (m : Int) 2147483648 = ((m + 2147483648 : Nat) : Int) := by
  have hw : ∀ n : Int, 0 ≤ n → n < 2 ^ 32 → IntKind.u32.wrap n = n := fun n h₀ h₁ => by rw [IntKind.wrap_u32]; omega
  have h1 := (bits_nat .u32 32 (by decide) hw m 2147483648 (by omega) (by omega)).2
  have h2 := (bits_nat .u32 32 (by decide) hw 2147483648 m (by omega) (by omega)).2
  have h3 := bits_join .u32 32 (by decide) hw 31 2147483648 (m : Int) (by omega) (by omega) (by omega) (by omega) (by omega) (by omega)
  rw [Nat.or_comm] at h1
  have h4 : bits .or .u32 (m : Int) 2147483648 = bits .or .u32 2147483648 (m : Int) := h1.trans h2.symm
  rw [h4, h3]
  omega

theorem writePriority_in (f : Fra) (p q : Option Addr) (cp cq g : Nat) (w : World) (h : FAt w g f p cp q cq) (hl : (Lit.int .i64 f.dep).wf = true) (hl' : (Lit.int .i64 f.wt).wf = true) :
    Calls Tryz.prog 71 #[.pointer (some ⟨g, 0, none⟩)] w fun e w' => PieceAs w p f.X (pieceO 2 f) e w' ∧ Fr (fun _ => False) w w' := by
  have c8 : w.cell? ⟨g, 8, none⟩ = some (.int .i64 f.dep) := cell_of_heap h rfl
  have c9 : w.cell? ⟨g, 9, none⟩ = some (.bool f.only) := cell_of_heap h rfl
  have c10 : w.cell? ⟨g, 10, none⟩ = some (.int .i64 f.wt) := cell_of_heap h rfl
  have K1 := isStream_in f.dep w
  cases hi : idOk f.dep
  · rw [hi] at K1
    have hd : pieceO 2 f = (1, []) := by simp [pieceO, hi]
    rw [hd]
    clear h
    go_enter Tryz.func71, Tryz.ntmps71
    go_wp2_with (go_at_call 58; refine K1.mono ?_; rintro e w' ⟨rfl, rfl⟩)
    go_ret2
    exact ⟨⟨_, _, _, rfl, rfl, SrcAt.nil _ _, .inr (fun _ h => by cases h)⟩, Fr.refl _ _⟩
  · rw [hi] at K1
    by_cases h1 : f.wt < 1
    · have hd : pieceO 2 f = (1, []) := by simp [pieceO, hi]; omega
      rw [hd]
      clear h
      go_enter Tryz.func71, Tryz.ntmps71
      go_wp2_with (go_at_call 58; refine K1.mono ?_; rintro e w' ⟨rfl, rfl⟩)
      go_ret2
      exact ⟨⟨_, _, _, rfl, rfl, SrcAt.nil _ _, .inr (fun _ h => by cases h)⟩, Fr.refl _ _⟩
    · by_cases h2 : 256 < f.wt
      · have hd : pieceO 2 f = (1, []) := by simp [pieceO, hi]; omega
        rw [hd]
        clear h
        go_enter Tryz.func71, Tryz.ntmps71
        go_wp2_with (go_at_call 58; refine K1.mono ?_; rintro e w' ⟨rfl, rfl⟩)
        go_ret2
        exact ⟨⟨_, _, _, rfl, rfl, SrcAt.nil _ _, .inr (fun _ h => by cases h)⟩, Fr.refl _ _⟩
      · obtain ⟨u, hu⟩ : ∃ u : UInt8, f.wt = (u.toNat : Int) + 1 := ⟨UInt8.ofNat (f.wt - 1).toNat, by simp; omega⟩
        have hub := u.toNat_lt
        obtain ⟨d, hdd⟩ : ∃ d : Nat, f.dep = d := ⟨f.dep.toNat, by simp [idOk] at hi; omega⟩
        have hdb : d < 2147483648 := by simp [idOk, hdd] at hi; omega
        obtain ⟨m, hm⟩ : ∃ m : Nat, d + (if f.only then 2147483648 else 0) = m := ⟨_, rfl⟩
        have hmb : m < 4294967296 := by rw [← hm]; split <;> omega
        have hd : pieceO 2 f = (0, be 4 m ++ [u]) := by
          have : (f.wt - 1).toNat = u.toNat := by omega
          have h3 : decide (1 ≤ f.wt ∧ f.wt ≤ 256) = true := by simp; omega
          have hi' := hi
          rw [hdd] at hi'
          simp [pieceO, hi', h3, depW, this, ← hm, hdd]
        rw [hd]
        rw [hu] at c10
        rw [hdd] at c8 K1
        clear h hd h1 h2 hi hdd hu
        have HM : Hid (m < 4294967296) := hmb
        have K2 : Hid (∀ w, Calls Tryz.prog 93 #[.int .u32 (m : Nat)] w fun e w' => (∃ sp, e = .returned (.slice sp 4 4) ∧ New w w' sp (be 4 m)) ∧ Fr (fun _ => False) w w') := fun w => Put32 m w hmb
        obtain ⟨j, J1, J2, J3, J4⟩ := info5
        have J1 : Hid _ := J1
        have J2 : Hid _ := J2
        have J3 : Hid _ := J3
        have J4 : Hid _ := J4
        have HL : Hid ((be 4 m).length = 4) := be_length 4 m
        have hw1 : IntKind.i64.wrap (u.toNat : Int) = (u.toNat : Int) := by rw [IntKind.wrap_i64]; omega
        have hw2 : IntKind.u8.wrap (u.toNat : Int) = (u.toNat : Int) := by rw [IntKind.wrap_u8]; omega
        have HC : Hid (∀ w', Fr (fun _ => False) w w' → w'.cell? ⟨g, 10, none⟩ = some (.int .i64 ((u.toNat : Int) + 1))) := fun w' hf => (hf.cell (p := ⟨g, 10, none⟩) (World.block_lt_of_cell? _ _ c10) id).trans c10
        cases ho : f.only
        case false =>
          rw [ho] at c9 hm
          simp at hm
          subst hm
          clear ho hmb
          go_enter Tryz.func71, Tryz.ntmps71
          go_wp2_with (go_at_call 58; refine K1.mono ?_; rintro e w' ⟨rfl, rfl⟩)
          go_region_held_law (fun w' => w'.cell? ⟨g, 10, none⟩ = some (.int .i64 ((u.toNat : Int) + 1))) (first | exact c10 | exact d10 | exact e10 | go_keep)
            (first
              | (go_at_call 93; refine (K2.out _).mono ?_; rintro e w1 ⟨⟨sp, rfl, hs⟩, hf⟩; have HS : Hid (SrcAt w1 sp (be 4 d)) := hs.1; clear hs; have HF : Hid (Fr (fun _ => False) _ w1) := hf; clear hf; have d10 : w1.cell? ⟨g, 10, none⟩ = some (.int .i64 ((u.toNat : Int) + 1)) := (by first | exact HC.out w1 ((Fr.refl _ _).drew.trans HF.out) | exact HC.out w1 (((Fr.refl _ _).drew.alloc _).trans HF.out)))
              | (refine stepR_full (w0 := w) rfl 45 rfl (.tmp 37) (.tmp 44) 43 43 rfl j Tryz.underlying43 Tryz.underlying43 J1.out J2.out J3.out J4.out sp 4 (be 4 d) (by go_simp) (HS.out.oldF ((Fr.refl _ _).alloc _)) HL.out (by exact ((Fr.refl _ _).drew.trans HF.out).alloc _) (some ⟨w1.heap.size, 0, none⟩) 1 1 (by go_simp) [u] (src_one w1 u) rfl (by omega) (by rw [HL.out]; omega) ?_; intro a5 n5 c5 w5 Hn5 G5 F5; have e10 : w5.cell? ⟨g, 10, none⟩ = some (.int .i64 ((u.toNat : Int) + 1)) := HC.out w5 G5.2.2)
              | (refine stepR_full (w0 := w) rfl 45 rfl (.tmp 37) (.tmp 44) 43 43 rfl j Tryz.underlying43 Tryz.underlying43 J1.out J2.out J3.out J4.out sp 4 (be 4 d) (by go_simp) HS.out HL.out (by exact ((Fr.refl _ _).drew.alloc _).trans HF.out) (some ⟨w.heap.size, 0, none⟩) 1 1 (by go_simp) [u] (show SrcAt w1 (some ⟨w.heap.size, 0, none⟩) [u] from (src_one w.drew u).oldF HF.out) rfl (by omega) (by rw [HL.out]; omega) ?_; intro a5 n5 c5 w5 Hn5 G5 F5; have e10 : w5.cell? ⟨g, 10, none⟩ = some (.int .i64 ((u.toNat : Int) + 1)) := HC.out w5 G5.2.2))
          all_goals
            clear e10
            go_wp2
            go_ret2
            refine ⟨⟨a5, n5, c5, rfl, ?_, own_src G5.1, .inr (G5.new)⟩, G5.2.2⟩
            rw [Hn5.out]
            simp
        case true =>
          rw [ho] at c9 hm
          simp at hm
          have hb : bits .or .u32 (d : Int) 2147483648 = (m : Int) := by rw [or31 d hdb, hm]
          clear ho hmb hm
          go_enter Tryz.func71, Tryz.ntmps71
          go_wp2_with (go_at_call 58; refine K1.mono ?_; rintro e w' ⟨rfl, rfl⟩)
          go_region_held_law (fun w' => w'.cell? ⟨g, 10, none⟩ = some (.int .i64 ((u.toNat : Int) + 1))) (first | exact c10 | exact d10 | exact e10 | go_keep)
            (first
              | (go_at_call 93; refine (K2.out _).mono ?_; rintro e w1 ⟨⟨sp, rfl, hs⟩, hf⟩; have HS : Hid (SrcAt w1 sp (be 4 m)) := hs.1; clear hs; have HF : Hid (Fr (fun _ => False) _ w1) := hf; clear hf; have d10 : w1.cell? ⟨g, 10, none⟩ = some (.int .i64 ((u.toNat : Int) + 1)) := (by first | exact HC.out w1 ((Fr.refl _ _).drew.trans HF.out) | exact HC.out w1 (((Fr.refl _ _).drew.alloc _).trans HF.out)))
              | (refine stepR_full (w0 := w) rfl 45 rfl (.tmp 37) (.tmp 44) 43 43 rfl j Tryz.underlying43 Tryz.underlying43 J1.out J2.out J3.out J4.out sp 4 (be 4 m) (by go_simp) (HS.out.oldF ((Fr.refl _ _).alloc _)) HL.out (by exact ((Fr.refl _ _).drew.trans HF.out).alloc _) (some ⟨w1.heap.size, 0, none⟩) 1 1 (by go_simp) [u] (src_one w1 u) rfl (by omega) (by rw [HL.out]; omega) ?_; intro a5 n5 c5 w5 Hn5 G5 F5; have e10 : w5.cell? ⟨g, 10, none⟩ = some (.int .i64 ((u.toNat : Int) + 1)) := HC.out w5 G5.2.2)
              | (refine stepR_full (w0 := w) rfl 45 rfl (.tmp 37) (.tmp 44) 43 43 rfl j Tryz.underlying43 Tryz.underlying43 J1.out J2.out J3.out J4.out sp 4 (be 4 m) (by go_simp) HS.out HL.out (by exact ((Fr.refl _ _).drew.alloc _).trans HF.out) (some ⟨w.heap.size, 0, none⟩) 1 1 (by go_simp) [u] (show SrcAt w1 (some ⟨w.heap.size, 0, none⟩) [u] from (src_one w.drew u).oldF HF.out) rfl (by omega) (by rw [HL.out]; omega) ?_; intro a5 n5 c5 w5 Hn5 G5 F5; have e10 : w5.cell? ⟨g, 10, none⟩ = some (.int .i64 ((u.toNat : Int) + 1)) := HC.out w5 G5.2.2))
          all_goals
            clear e10
            go_wp2
            go_ret2
            refine ⟨⟨a5, n5, c5, rfl, ?_, own_src G5.1, .inr (G5.new)⟩, G5.2.2⟩
            rw [Hn5.out]
            simp
end Go.Proofs.YtpjbgjgaigkbcaaGreat
