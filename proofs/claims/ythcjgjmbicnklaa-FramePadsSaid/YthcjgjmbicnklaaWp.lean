/- The walk of FramePads. -/
import Derived.Test.YthcjgjmbicnklaaWs
import Derived.Test.YthcjgjmbicnklaaPp
namespace Go.Proofs.Ythcjgjmbicnklaa
open Go.RowKit
set_option linter.unusedVariables false
set_option maxRecDepth 100000
set_option maxHeartbeats 4000000

theorem pads_walk (bq : Option Addr) (bc : Nat) (X : List UInt8) (pd s : Nat) (w : World) (hX : SrcAt w bq X) (hXn : X.length < 2 ^ 47) (hpd : pd ≤ 255) (hs : s < 4294967296) :
    Calls Try.prog 8 #[.slice bq X.length bc, .int .u8 (pd : Int), .int .u32 (s : Int)] w fun e w' => e = .returned (.bool true) ∧ Below w.heap.size w w' := by
  obtain ⟨n, hn⟩ : ∃ n, X.length = n := ⟨_, rfl⟩
  obtain ⟨r, hr⟩ : ∃ r, s % 2147483647 = r := ⟨_, rfl⟩
  obtain ⟨sid, hid⟩ : ∃ sid, 1 + r = sid := ⟨_, rfl⟩
  have hr1 : (s : Int) % 2147483647 = (r : Int) := by omega
  have hid1 : (1 : Int) + (r : Int) = (sid : Int) := by omega
  have hrb : r ≤ 2147483646 := by omega
  have hb1 : 1 ≤ sid := by omega
  have hb2 : sid ≤ 2147483647 := by omega
  rw [hn] at hXn ⊢
  by_cases hbig : 65536 < n
  case pos =>
    have hbig2 : (65536 : Int) < (n : Int) := by omega
    clear hX
    go_enter Try.func8, Try.ntmps8
    go_wp2_with (fail)
    refine (fawake_in _).mono ?_
    rintro e w2 ⟨rfl, rfl⟩
    go_wp2
    go_ret
    exact ⟨rfl, Below.refl _ _⟩
  case neg =>
    have hbig2 : ¬ (65536 : Int) < (n : Int) := by omega
    have hw := padF_write X sid pd hb1 hb2 hpd (by omega)
    obtain ⟨B, hB⟩ : ∃ B, headB (padF X sid pd) (1 + X.length + pd) ++ (UInt8.ofNat pd :: (X ++ List.replicate pd 0)) = B := ⟨_, rfl⟩
    have hbad := fun (h3 : X.length + pd < 255) v hv => padF_bad X sid pd hb1 hb2 h3 v hv
    rw [hB] at hw hbad
    rw [hn] at hbad
    obtain ⟨m, hm⟩ : ∃ m, 10 + n + pd = m := ⟨_, rfl⟩
    have hBl : B.length = m := by rw [← hB, List.length_append, headB_len]; simp; omega
    have hmi : (10 : Int) + (n : Int) + (pd : Int) = (m : Int) := by omega
    rw [hm] at hbad
    have hnb : n ≤ 65536 := by omega
    have hmb : m ≤ 66000 := by omega
    have hm9 : 9 < m := by omega
    have hnums : Nums (padF X sid pd) := ⟨by show X.length < _; omega, (by show 0 < 4294967296; decide), (by show (Lit.int .i64 0).wf = true; decide), (by show (Lit.int .i64 8).wf = true; decide), i64w (by show _ ≤ (sid : Int); omega) (by show (sid : Int) ≤ _; omega), i64w (by show _ ≤ (pd : Int); omega) (by show (pd : Int) ≤ _; omega), (by show (Lit.int .i64 0).wf = true; decide), (by show (Lit.int .i64 0).wf = true; decide), (by show (Lit.int .i64 0).wf = true; decide), (by show (Lit.int .i64 0).wf = true; decide)⟩
    have KW : Hid (Calls Try.prog 9 #[.agg #[.int .i64 0, .int .i64 8, .int .i64 (sid : Int), .slice bq n bc, .int .i64 (pd : Int), .int .u32 0, .int .i64 0, .int .i64 0, .int .i64 0, .bool false, .int .i64 0, .slice none 0 0]] w fun e w' => WroteAs w (0, B) e w') := by
      have h := Write_in (padF X sid pd) bq none bc 0 w (hnums.frIn hX (SetsAt.nil _))
      rw [hw, show (padF X sid pd).X.length = n from hn] at h
      exact h
    have hpb : parseO (B ++ []) 16777215 = (padF X sid pd, m, ⟨false, 0, 0⟩, 0) := by
      have h := parse_back (f := padF X sid pd) ⟨(by show 0 < 4294967296; decide), fun s hs => by simp [padF] at hs⟩ (by rw [hw]) [] 16777215 (by omega)
      rw [hw, padF_nf] at h
      rw [h, hBl]
    rw [List.append_nil] at hpb
    have KP : Hid (∀ a d w', OwnAt w' 5 (.slice a m d) (bv B) → Calls Try.prog 12 #[.slice a m d, .int .i64 16777215] w' fun e w2 => ∃ p9 k9 q9 d9, e = .returned (.tuple #[.agg #[.int .i64 0, .int .i64 8, .int .i64 (sid : Int), .slice p9 n k9, .int .i64 (pd : Int), .int .u32 0, .int .i64 0, .int .i64 0, .int .i64 0, .bool false, .int .i64 0, .slice q9 0 d9], .int .i64 (m : Nat), .agg #[.bool false, .int .i64 0, .int .i64 0], .int .i64 0]) ∧ SrcAt w2 p9 X ∧ Fr (fun _ => False) w' w2) := fun a d w' hO => by
      have hl := own_len hO
      have h := Parse_in a m d B 16777215 w' (own_src hO) hBl hl.2 (by omega) (by decide)
      rw [hpb] at h
      refine h.mono ?_
      rintro e w2 ⟨p9, k9, q9, d9, rfl, hS, -, hf⟩
      refine ⟨p9, k9, q9, d9, ?_, hS, hf⟩
      show _ = _
      rw [← hn]
      rfl
    have HX : Hid (SrcAt w bq X) := hX
    have HN : Hid (X.length = n ∧ B.length = m ∧ 10 + n + pd = m) := ⟨hn, hBl, hm⟩
    clear hw hB hnums hpb hX hr hid hn hBl hm
    go_enter Try.func8, Try.ntmps8
    go_wp2_with (fail)
    refine KW.out.mono ?_
    rintro e w1 ⟨a, n', d, rfl, hn', hG⟩
    dsimp only at hn' hG ⊢
    rw [HN.out.2.1] at hn'
    subst hn'
    have G1 : Hid (Gath w w1 (.slice a m d) B) := hG
    clear hG
    go_wp2_with (fail)
    refine (KP.out a d w1 G1.out.1).mono ?_
    rintro e w2 ⟨p9, k9, q9, d9, rfl, hS9, hf2⟩
    have F2 : Hid (Fr (fun _ => False) w1 w2) := hf2
    obtain ⟨wt, hwt⟩ : ∃ wt, wt = ((w2.alloc (.cells #[.int .i64 0, .int .i64 8, .int .i64 (sid : Int), .slice p9 n k9, .int .i64 (pd : Int), .int .u32 0, .int .i64 0, .int .i64 0, .int .i64 0, .bool false, .int .i64 0, .slice q9 0 d9] 26)).alloc (.cells #[.bool false, .int .i64 0, .int .i64 0] 35)) := ⟨_, rfl⟩
    have FT : Hid (Fr (fun _ => False) w2 wt) := by rw [hwt]; exact ((Fr.refl _ _).alloc _).alloc _
    have TB : Hid (wt.heap[w2.heap.size + 1]? = some (.cells #[.bool false, .int .i64 0, .int .i64 0] 35 (0, 0))) := by rw [hwt]; exact last_at _ (by simp)
    have s1 : (convert 22 9 (.slice p9 n k9)).run Try.prog wt = .ok (.string ⟨X.toArray⟩) wt := (hS9.oldF FT.out).str HN.out.1 k9
    have s2 : (convert 22 9 (.slice bq n bc)).run Try.prog wt = .ok (.string ⟨X.toArray⟩) wt := (HX.out.oldF ((G1.out.2.2.trans F2.out).trans FT.out)).str HN.out.1 bc
    rw [hwt] at s1 s2
    clear hS9 hf2
    by_cases hover : n + pd < 255
    case neg =>
      have hov : (255 : Int) ≤ (n : Int) + (pd : Int) := by omega
      go_wp2_with (fail)
      rw [← hwt]
      clear hwt
      refine (fawake_in _).mono ?_
      rintro e w3 ⟨rfl, rfl⟩
      go_wp2
      go_ret
      exact ⟨rfl, ((G1.out.2.2.trans F2.out).trans FT.out).below (fun _ _ h => h)⟩
    case pos =>
      have hov : ¬ (255 : Int) ≤ (n : Int) + (pd : Int) := by omega
      obtain ⟨v, hv⟩ : ∃ v : UInt8, v.toNat = n + pd + 1 := ⟨UInt8.ofNat (n + pd + 1), by simp; omega⟩
      have hvi : (n : Int) + (pd : Int) + 1 = (v.toNat : Int) := by omega
      have hvl := v.toNat_lt
      have hpx := hbad hover v hv
      obtain ⟨g, off, cap', ha, hcell, hfz⟩ := (G1.out.fr (F2.out.trans FT.out)).1.cells 9 (.int .u8 (B.getD 9 0).toNat) ((bv_get _ _ _).2 ⟨_, getD_some B 9 (by rw [HN.out.2.1]; exact hm9), rfl⟩)
      simp only [Value.slice.injEq] at ha
      obtain ⟨rfl, -, rfl⟩ := ha
      rw [hwt] at hcell hfz
      have KP2 : Hid (∀ ws, OwnAt ws 5 (.slice (some ⟨g, off, none⟩) m d) (bv (B.set 9 v)) → Calls Try.prog 12 #[.slice (some ⟨g, off, none⟩) m d, .int .i64 16777215] ws fun e w3 => ∃ pa ka qa da, e = .returned (.tuple #[.agg #[.int .i64 0, .int .i64 0, .int .i64 0, .slice pa 0 ka, .int .i64 0, .int .u32 0, .int .i64 0, .int .i64 0, .int .i64 0, .bool false, .int .i64 0, .slice qa 0 da], .int .i64 (m : Nat), .agg #[.bool true, .int .i64 0, .int .i64 1], .int .i64 0]) ∧ Fr (fun _ => False) ws w3) := fun ws hO => by
        have hl := own_len hO
        have h := Parse_in (some ⟨g, off, none⟩) m d (B.set 9 v) 16777215 ws (own_src hO) (by rw [List.length_set]; exact HN.out.2.1) hl.2 (by omega) (by decide)
        rw [hpx] at h
        refine h.mono ?_
        rintro e w3 ⟨pa, ka, qa, da, rfl, -, -, hf⟩
        exact ⟨pa, ka, qa, da, rfl, hf⟩
      have hgn : w.heap.size ≤ g := G1.out.new ⟨g, off, none⟩ rfl
      have hgl : g < w1.heap.size := G1.out.1.lt g rfl
      have h12 := F2.out.size
      obtain ⟨ws, hws⟩ : ∃ ws, ws = wt.setCell ⟨g, off + 9, none⟩ (.int .u8 (v.toNat : Int)) := ⟨_, rfl⟩
      have OS : Hid (OwnAt ws 5 (.slice (some ⟨g, off, none⟩) m d) (bv (B.set 9 v))) := by rw [hws]; exact own_set (G1.out.fr (F2.out.trans FT.out)).1 9 (by rw [HN.out.2.1]; exact hm9) v
      have FS : Hid (Fr (fun k => k = g) wt ws) := by rw [hws]; exact (Fr.refl _ _).setB _ _
      have TB2 : Hid (ws.heap[w2.heap.size + 1]? = some (.cells #[.bool false, .int .i64 0, .int .i64 0] 35 (0, 0))) := (FS.out.block _ (lt_of_heap TB.out) (by omega)).trans TB.out
      have FE : Hid (∀ w5, Fr (fun k => k = w2.heap.size + 1) ws w5 → Fr (fun _ => False) w w5) := fun w5 hf => by
        have h1 : Fr (fun k => w.heap.size ≤ k) w ws := (((G1.out.2.2.trans F2.out).trans FT.out).mono (T := fun k => w.heap.size ≤ k) (fun _ _ e => e.elim)).trans (FS.out.mono (fun k _ e => by omega))
        have h3 := G1.out.2.2.size
        exact (h1.trans (hf.mono (fun k _ e => by omega))).mono (fun k hk e => by omega)
      have hone4 : (#[.bool true, .int .i64 0, .int .i64 1] : Array Value).all (·.oneCell') = true := by simp [Value.oneCell']
      have hinf4 : (Try.prog.info? 35).map (·.size) = some (#[.bool true, .int .i64 0, .int .i64 1] : Array Value).size := by kernel_rfl
      clear hv hpx hgn hgl h12 hbad
      go_wp2_with (fail)
      rw [← hwt, ← hws]
      refine (KP2.out _ OS.out).mono ?_
      rintro e w3 ⟨pa, ka, qa, da, rfl, hf3⟩
      have TB3 : Hid (w3.heap[w2.heap.size + 1]? = some (.cells #[.bool false, .int .i64 0, .int .i64 0] 35 (0, 0)) ∧ Fr (fun _ => False) ws w3) := ⟨(hf3.block _ (lt_of_heap TB2.out) id).trans TB2.out, hf3⟩
      clear hf3 hwt hws hcell hfz s1 s2
      go_wp2_with (refine wpList_storeB rfl 35 (.tmp 12) (.tmp 98) rfl (w2.heap.size + 1) #[.bool false, .int .i64 0, .int .i64 0] #[.bool true, .int .i64 0, .int .i64 1] 35 rfl rfl TB3.out.1 rfl hinf4 hone4 ?_; intro w5 H5 F5; have y0 : w5.cell? ⟨w2.heap.size + 1, 0, none⟩ = some (.bool true) := cell_of_heap H5.out rfl; have y1 : w5.cell? ⟨w2.heap.size + 1, 1, none⟩ = some (.int .i64 0) := cell_of_heap H5.out rfl; have y2 : w5.cell? ⟨w2.heap.size + 1, 2, none⟩ = some (.int .i64 1) := cell_of_heap H5.out rfl)
      go_ret
      exact ⟨rfl, (FE.out w5 ((TB3.out.2.mono (fun _ _ e => e.elim)).trans F5.out)).below (fun _ _ h => h)⟩
end Go.Proofs.Ythcjgjmbicnklaa
