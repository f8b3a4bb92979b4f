/- The document's pool: Backs. -/
import Derived.Test.YtoiencoojkahmaaJm
import Derived.Test.YtoiencoojkahmaaJw
namespace Go.Proofs.Ytoiencoojkahmaa
open Go.RowKit Go.Maps
set_option linter.unusedVariables false
set_option maxRecDepth 100000
set_option maxHeartbeats 4000000

/-- What a choice sees of a backend, as cells. -/
def seeC (X : Nat → Bk) (i : Nat) : List Value := [.bool (seeU (X i)), .int .i64 (seeS (X i)), .int .i64 (X i).load]
/-- What the document's Backs answers. -/
def SeeQ (w w' : World) (X : Nat → Bk) (n : Nat) (v : Value) : Prop := ∃ p cap, v = .slice p n cap ∧ RowG 46 3 w' (.slice p n cap) n (catL (seeC X) n) ∧ ∀ k, (Value.slice p n cap).ownBlock = some k → w.heap.size ≤ k
/-- The first k of them. -/
structure BkS (w : World) (X : Nat → Bk) (k : Nat) (v : Value) (wr : World) : Prop where
  row : RowG 46 3 wr v k (catL (seeC X) k)
  new : ∀ q, v.ownBlock = some q → w.heap.size ≤ q
  fr : Fr (fun _ => False) w wr
theorem BkS.later {w wr w' : World} {X : Nat → Bk} {k : Nat} {v : Value} (h : BkS w X k v wr) (f : Fr (fun _ => False) wr w') : BkS w X k v w' := ⟨h.row.fr f (fun _ _ => id), h.new, h.fr.trans f⟩
theorem BkS.add {w wr : World} {X : Nat → Bk} {k : Nat} {v : Value} (h : BkS w X k v wr) (hk : k ≤ 16) {u : Bool} {y l : Int} (hu : seeU (X k) = u) (hy : seeS (X k) = y) (hl : (X k).load = l) :
    ∃ a' n' c' w', (Builtin.append_ #[43, 43] 43 #[v, .slice (some ⟨wr.heap.size, 0, none⟩) 1 1]).run Try.prog (wr.alloc (.cells #[.bool u, .int .i64 y, .int .i64 l] 46)) = .ok (.slice a' n' c') w' ∧ n' = k + 1 ∧ BkS w X (k + 1) (.slice a' n' c') w' := by
  obtain ⟨i, hi, hz0, hz1, hz2⟩ := info_bk
  obtain ⟨a', n', c', w', hr, rfl, hR, hF, hk2⟩ := run_addG (t := 43) Try.underlying43 hi hz0 hz1 hz2 rfl (by omega) (by omega) h.row [.bool u, .int .i64 y, .int .i64 l] rfl (by simp [Value.oneCell']) (by omega)
  refine ⟨a', _, c', w', hr, rfl, ?_, newI h.new h.fr.size hk2, h.fr.freshI hF h.new⟩
  rw [catL]
  have e : seeC X k = [.bool u, .int .i64 y, .int .i64 l] := by unfold seeC; rw [hu, hy, hl]
  rw [e]
  exact hR
section
variable {base : Nat} {w w' : World} {g : Nat} {a : Option Addr} {cap b gw : Nat} {vW uW : Value} {ms : Nat → Nat} {n : Nat} {F R H rt mo : Int} {s : Pl}
theorem rplBacks_in (h : QAt base w g a cap b gw vW ms n F R H rt mo s) (hn : n ≤ 16) {c : Int} (hi : InvP n F mo c s) (hc : c ≤ 9000000000000000000) :
    Calls Try.prog 39 #[.pointer (some ⟨g, 0, none⟩)] w fun e w' => ∃ v, e = .returned v ∧ SeeQ w w' s.X n v ∧ Fr (fun _ => False) w w' := by
  have HP : Hid (QAt base w g a cap b gw vW ms n F R H rt mo s) := h
  have HI : Hid (InvP n F mo c s) := hi
  clear h hi
  go_enter Try.func39, Try.ntmps39
  go_wp2_with (fail)
  go_loopw [3, 4] (fun x3 x4 wr => ∃ (k vn vc : Nat) (va : Option Addr), x3 = .slice va vn vc ∧ x4 = .int .i64 (k : Int) ∧ k ≤ n ∧ Hid (BkS w s.X k (.slice va vn vc) wr)) (fun _ x4 _ => n - (intOf x4).toNat)
  case atStart => exact ⟨0, 0, 0, none, rfl, rfl, by omega, RowG.nil _ _ _, fun q hq => by simp [Value.ownBlock] at hq, Fr.refl _ _⟩
  case round =>
    obtain ⟨k, vn, vc, va, rfl, rfl, hkn, HS⟩ := hrel
    have HQ : Hid (QAt base wr g a cap b gw vW ms n F R H rt mo s) := HP.out.later HS.out.fr
    by_cases hlt : k < n
    · have hlt2 : (k : Int) < (n : Int) := by omega
      have h0 := HQ.out.head0 (by omega)
      obtain ⟨c0, c1, c2, c3, c4, -⟩ := HQ.out.cells hlt
      obtain ⟨x, hx⟩ : ∃ x, s.X k = x := ⟨_, rfl⟩
      have HM : Hid (RM wr (ms k) F R H x.hs) := by rw [← hx]; exact HQ.out.mod k hlt
      have HB : Hid (BkOk F mo c x) := by rw [← hx]; exact HI.out.b k hlt
      have HX : Hid (s.X k = x) := hx
      rw [hx] at c1 c2 c3 c4
      clear hx
      obtain ⟨hs, st, may, load, wait⟩ := x
      obtain ⟨dn, hr, hh⟩ := hs
      dsimp only at c1 c2 c3 c4
      have b1 := HB.out.m0
      have b2 := HB.out.mm
      have b3 := HB.out.l0
      have b4 := HB.out.lc
      dsimp only at b1 b2 b3 b4
      go_upto_region 6 with (fail)
      obtain ⟨wa, hwa⟩ : ∃ wa, wa = wr.alloc (Obj.cells #[.pointer (some ⟨ms k, 0, none⟩), .int .i64 st, .int .i64 load, .int .i64 may, .int .i64 wait] 72) := ⟨_, rfl⟩
      obtain ⟨go, hgo⟩ : ∃ go, go = wr.heap.size := ⟨_, rfl⟩
      have Fa : Hid (Fr (fun _ => False) wr wa) := by rw [hwa]; exact (Fr.refl _ _).alloc _
      have HO : Hid (wa.heap[go]? = some (.cells #[.pointer (some ⟨ms k, 0, none⟩), .int .i64 st, .int .i64 load, .int .i64 may, .int .i64 wait] 72 (0, 0))) := by rw [hwa, hgo]; exact heap_alloc_new _ _
      rw [← hwa, ← hgo]
      clear hwa hgo h0 c0 c1 c2 c3 c4
      have o0 : wa.cell? ⟨go, 0, none⟩ = some (.pointer (some ⟨ms k, 0, none⟩)) := cell_of_heap HO.out rfl
      have o1 : wa.cell? ⟨go, 1, none⟩ = some (.int .i64 st) := cell_of_heap HO.out rfl
      have o2 : wa.cell? ⟨go, 2, none⟩ = some (.int .i64 load) := cell_of_heap HO.out rfl
      have HMa : Hid (RM wa (ms k) F R H ⟨dn, hr, hh⟩) := HM.out.fr Fa.out id
      have y3 : wa.cell? ⟨ms k, 3, none⟩ = some (.bool dn) := cell_of_heap HMa.out rfl
      have A0 : ∀ o, (wa.alloc o).cell? ⟨go, 0, none⟩ = some (.pointer (some ⟨ms k, 0, none⟩)) := fun o => (((Fr.refl (S := fun _ => False) wa).alloc o).cell (p := ⟨go, 0, none⟩) (lt_of_heap HO.out) id).trans o0
      have A1 : ∀ o, (wa.alloc o).cell? ⟨go, 1, none⟩ = some (.int .i64 st) := fun o => (((Fr.refl (S := fun _ => False) wa).alloc o).cell (p := ⟨go, 1, none⟩) (lt_of_heap HO.out) id).trans o1
      have A2 : ∀ o, (wa.alloc o).cell? ⟨go, 2, none⟩ = some (.int .i64 load) := fun o => (((Fr.refl (S := fun _ => False) wa).alloc o).cell (p := ⟨go, 2, none⟩) (lt_of_heap HO.out) id).trans o2
      have A3 : ∀ o, (wa.alloc o).cell? ⟨ms k, 3, none⟩ = some (.bool dn) := fun o => (((Fr.refl (S := fun _ => False) wa).alloc o).cell (p := ⟨ms k, 3, none⟩) (lt_of_heap HMa.out) id).trans y3
      have hz : ∀ w, (zeroValue 46).run Try.prog w = .ok (.agg #[.bool false, .int .i64 0, .int .i64 0]) w := fun w => by kernel_rfl
      have HU : Hid ((!dn && decide (st = 2)) = seeU (s.X k)) := by show _ = _; rw [HX.out]; rfl
      go_cut [6] (fun s6 wc => ∃ gb, s6 = .pointer (some ⟨gb, 0, none⟩) ∧ Hid (wc.heap[gb]? = some (.cells #[.bool (seeU (s.X k)), .int .i64 0, .int .i64 load] 46 (0, 0)) ∧ Fr (fun _ => False) wa wc ∧ wa.heap.size ≤ gb))
      case first =>
        cases dn
        · by_cases h2 : st = 2
          · subst h2
            go_region
            all_goals
              go_wp2_with (fail)
              go_meet
              case rel => exact ⟨_, rfl, by rw [← HU.out]; simp only [Bool.not_false, Bool.true_and, decide_true]; exact heap_alloc_new _ _, ((Fr.refl _ _).alloc _).drew, Nat.le_refl _⟩
          · have h3 : (st == 2) = false := by simpa using h2
            have h4 : decide (st = 2) = false := decide_eq_false h2
            go_region
            all_goals
              go_wp2_with (fail)
              go_meet
              case rel => exact ⟨_, rfl, by rw [← HU.out]; simp only [Bool.not_false, Bool.true_and, h4]; exact heap_alloc_new _ _, ((Fr.refl _ _).alloc _).drew, Nat.le_refl _⟩
        · go_region
          all_goals
            go_wp2_with (fail)
            go_meet
            case rel => exact ⟨_, rfl, by rw [← HU.out]; simp only [Bool.not_true, Bool.false_and]; exact heap_alloc_new _ _, ((Fr.refl _ _).alloc _).drew, Nat.le_refl _⟩
      case rest =>
        obtain ⟨gb, rfl, HC⟩ := hcut
        clear o0 o1 o2 y3 A0 A1 A2 A3 hz HU
        have HOc : Hid (wc.heap[go]? = some (.cells #[.pointer (some ⟨ms k, 0, none⟩), .int .i64 st, .int .i64 load, .int .i64 may, .int .i64 wait] 72 (0, 0))) := (HC.out.2.1.block _ (lt_of_heap HO.out) id).trans HO.out
        have o1 : wc.cell? ⟨go, 1, none⟩ = some (.int .i64 st) := cell_of_heap HOc.out rfl
        have o2 : wc.cell? ⟨go, 2, none⟩ = some (.int .i64 load) := cell_of_heap HOc.out rfl
        have o3 : wc.cell? ⟨go, 3, none⟩ = some (.int .i64 may) := cell_of_heap HOc.out rfl
        have q1 : wc.cell? ⟨gb, 1, none⟩ = some (.int .i64 0) := cell_of_heap HC.out.1 rfl
        have z1 : wc.frozen? ⟨gb, 1, none⟩ = false := frozen_of_heap HC.out.1
        by_cases h2 : st = 2
        · have hb1 : -9223372036854775808 ≤ may - load := by omega
          have hb2 : may - load ≤ 9223372036854775807 := by omega
          obtain ⟨y, hy⟩ : ∃ y, seeS (s.X k) = y := ⟨_, rfl⟩
          have HY : Hid ((if may - load < 0 then 0 else may - load) = y) := by show _ = _; rw [← hy, HX.out]; unfold seeS; rw [if_pos h2]
          have HY0 : Hid (seeS (s.X k) = y) := hy
          subst h2
          clear hy HOc
          by_cases h3 : load < may
          rotate_left
          · have HY2 : Hid (0 = y) := by show _ = _; rw [← HY.out]; split <;> omega
            go_upto_region 9 with (fail)
            obtain ⟨wd, hwd⟩ : ∃ wd, wd = wc.setCell ⟨gb, 1, none⟩ (.int .i64 0) := ⟨_, rfl⟩
            have HD : Hid (wd.heap[gb]? = some (.cells #[.bool (seeU (s.X k)), .int .i64 (seeS (s.X k)), .int .i64 load] 46 (0, 0))) := by show _ = _; rw [hwd, block_set HC.out.1, HY0.out, ← HY2.out]; rfl
            have FD : Hid (Fr (fun _ => False) wa wd) := by rw [hwd]; exact ((HC.out.2.1.mono (T := fun q => q = gb) (fun _ _ e => e.elim)).setB _ _).mono (fun q hq e => by have := HC.out.2.2; omega)
            rw [← hwd]
            clear hwd q1 z1 o1 o2 o3 HY HY2 HY0
            have HSd : Hid (BkS w s.X k (.slice va vn vc) wd) := HS.out.later (Fa.out.trans FD.out)
            have e0 : wd.cell? ⟨gb, 0, none⟩ = some (.bool (seeU (s.X k))) := cell_of_heap HD.out rfl
            have e1 : wd.cell? ⟨gb, 1, none⟩ = some (.int .i64 (seeS (s.X k))) := cell_of_heap HD.out rfl
            have e2 : wd.cell? ⟨gb, 2, none⟩ = some (.int .i64 load) := cell_of_heap HD.out rfl
            obtain ⟨a', n', c', w5, hrun, rfl, hnx⟩ := HSd.out.add (by omega) rfl rfl (show (s.X k).load = load by rw [HX.out])
            have HX5 : Hid (BkS w s.X (k + 1) (.slice a' (k + 1) c') w5) := hnx
            clear hnx HSd HD FD HS HQ Fa HM HMa HO HC
            go_wp2_with (refine wpList_append_run9 rfl (.tmp 47) (.tmp 49) 43 rfl (.slice va vn vc) (.slice (some ⟨wd.heap.size, 0, none⟩) 1 1) (.slice a' (k + 1) c') rfl rfl hrun ?_)
            go_roundw
            case rel => exact ⟨k + 1, k + 1, c', a', rfl, by go_num, by omega, HX5.out⟩
            case measure => simp [intOf]; omega
          · have HY2 : Hid (may - load = y) := by show _ = _; rw [← HY.out, if_neg (by omega)]
            go_upto_region 9 with (fail)
            obtain ⟨wd, hwd⟩ : ∃ wd, wd = wc.setCell ⟨gb, 1, none⟩ (.int .i64 (may - load)) := ⟨_, rfl⟩
            have HD : Hid (wd.heap[gb]? = some (.cells #[.bool (seeU (s.X k)), .int .i64 (seeS (s.X k)), .int .i64 load] 46 (0, 0))) := by show _ = _; rw [hwd, block_set HC.out.1, HY0.out, ← HY2.out]; rfl
            have FD : Hid (Fr (fun _ => False) wa wd) := by rw [hwd]; exact ((HC.out.2.1.mono (T := fun q => q = gb) (fun _ _ e => e.elim)).setB _ _).mono (fun q hq e => by have := HC.out.2.2; omega)
            rw [← hwd]
            clear hwd q1 z1 o1 o2 o3 HY HY2 HY0
            have HSd : Hid (BkS w s.X k (.slice va vn vc) wd) := HS.out.later (Fa.out.trans FD.out)
            have e0 : wd.cell? ⟨gb, 0, none⟩ = some (.bool (seeU (s.X k))) := cell_of_heap HD.out rfl
            have e1 : wd.cell? ⟨gb, 1, none⟩ = some (.int .i64 (seeS (s.X k))) := cell_of_heap HD.out rfl
            have e2 : wd.cell? ⟨gb, 2, none⟩ = some (.int .i64 load) := cell_of_heap HD.out rfl
            obtain ⟨a', n', c', w5, hrun, rfl, hnx⟩ := HSd.out.add (by omega) rfl rfl (show (s.X k).load = load by rw [HX.out])
            have HX5 : Hid (BkS w s.X (k + 1) (.slice a' (k + 1) c') w5) := hnx
            clear hnx HSd HD FD HS HQ Fa HM HMa HO HC
            go_wp2_with (refine wpList_append_run9 rfl (.tmp 47) (.tmp 49) 43 rfl (.slice va vn vc) (.slice (some ⟨wd.heap.size, 0, none⟩) 1 1) (.slice a' (k + 1) c') rfl rfl hrun ?_)
            go_roundw
            case rel => exact ⟨k + 1, k + 1, c', a', rfl, by go_num, by omega, HX5.out⟩
            case measure => simp [intOf]; omega
        · have h3 : (st == 2) = false := by simpa using h2
          have h4 : decide (st = 2) = false := decide_eq_false h2
          have HY0 : Hid (seeS (s.X k) = 0) := by show _ = _; rw [HX.out]; unfold seeS; rw [if_neg h2]
          go_upto_region 9 with (fail)
          obtain ⟨wd, hwd⟩ : ∃ wd, wd = wc := ⟨_, rfl⟩
          have HD : Hid (wd.heap[gb]? = some (.cells #[.bool (seeU (s.X k)), .int .i64 (seeS (s.X k)), .int .i64 load] 46 (0, 0))) := by show _ = _; rw [hwd, HY0.out]; exact HC.out.1
          have FD : Hid (Fr (fun _ => False) wa wd) := by rw [hwd]; exact HC.out.2.1
          rw [← hwd]
          clear hwd q1 z1 o1 o2 o3 HY0 HOc
          have HSd : Hid (BkS w s.X k (.slice va vn vc) wd) := HS.out.later (Fa.out.trans FD.out)
          have e0 : wd.cell? ⟨gb, 0, none⟩ = some (.bool (seeU (s.X k))) := cell_of_heap HD.out rfl
          have e1 : wd.cell? ⟨gb, 1, none⟩ = some (.int .i64 (seeS (s.X k))) := cell_of_heap HD.out rfl
          have e2 : wd.cell? ⟨gb, 2, none⟩ = some (.int .i64 load) := cell_of_heap HD.out rfl
          obtain ⟨a', n', c', w5, hrun, rfl, hnx⟩ := HSd.out.add (by omega) rfl rfl (show (s.X k).load = load by rw [HX.out])
          have HX5 : Hid (BkS w s.X (k + 1) (.slice a' (k + 1) c') w5) := hnx
          clear hnx HSd HD FD HS HQ Fa HM HMa HO HC
          go_wp2_with (refine wpList_append_run9 rfl (.tmp 47) (.tmp 49) 43 rfl (.slice va vn vc) (.slice (some ⟨wd.heap.size, 0, none⟩) 1 1) (.slice a' (k + 1) c') rfl rfl hrun ?_)
          go_roundw
          case rel => exact ⟨k + 1, k + 1, c', a', rfl, by go_num, by omega, HX5.out⟩
          case measure => simp [intOf]; omega
    · have hge : k = n := by omega
      have hnlt : ¬ (k : Int) < (n : Int) := by omega
      have h0 := HQ.out.head.1
      subst hge
      obtain rfl : k = vn := by
        obtain ⟨a9, c9, e9, -⟩ := HS.out.row.form
        exact (Value.slice.inj e9).2.1.symm
      go_wp2_with (fail)
      go_ret
      exact ⟨_, rfl, ⟨va, vc, rfl, HS.out.row, HS.out.new⟩, HS.out.fr⟩
end
end Go.Proofs.Ytoiencoojkahmaa
