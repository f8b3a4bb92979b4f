/- The walk of WheelOrder. -/
import Derived.Test.YtldedlphamcehaaGq
import Derived.Test.YtldedlphamcehaaLw
namespace Go.Proofs.Ytldedlphamcehaa
open Go.RowKit Go.Maps
set_option linter.unusedVariables false
set_option maxRecDepth 100000
set_option maxHeartbeats 4000000

/-- What is gathered: in memory of its own, made since. -/
def GaI (w : World) (v : Value) (M : List Int) (wr : World) : Prop := OwnAt wr 3 v (iv M) ∧ (∀ k, v.ownBlock = some k → w.heap.size ≤ k) ∧ Fr (fun _ => False) w wr
theorem GaI.add {w : World} {v : Value} {M : List Int} {wr : World} (h : GaI w v M wr) (d : Int) (hf : M.length ≤ 4096) :
    ∃ a' n' c' w', (Builtin.append_ #[35, 35] 35 #[v, .slice (some ⟨wr.heap.size, 0, none⟩) 1 1]).run Try.prog (wr.alloc (.cells #[.int .i64 d] 3)) = .ok (.slice a' n' c') w' ∧ GaI w (.slice a' n' c') (M ++ [d]) w' := by
  obtain ⟨h1, h2, h3⟩ := h
  obtain ⟨a', n', c', w', hr, hn, ho, hfr, hl⟩ := run_addI d h1 hf
  refine ⟨a', n', c', w', hr, ho, fun k hk => ?_, ?_⟩
  · rcases hl with e | ⟨k', e, hk'⟩
    · rw [e] at hk; exact h2 k hk
    · rw [e] at hk; cases hk; have := h3.size; omega
  · exact ((h3.mono (T := fun k => w.heap.size ≤ k) (fun _ _ e => e.elim)).trans (hfr.mono (fun k _ e => h2 k e))).mono (fun k hk e => by have : w.heap.size ≤ k := e; omega)
theorem byte_at {w wr : World} {S : Nat → Prop} {q : Option Addr} {X : List UInt8} (h : SrcAt w q X) (f : Fr S w wr) (hS : ∀ k, k < w.heap.size → ¬ S k) (i : Nat) (hi : i < X.length) : ∃ ad x, q = some ad ∧ wr.cell? (ad.add i) = some (.int .u8 ((x : Nat) : Int)) ∧ x ≤ 255 ∧ fO X i = 1 + x % 100 := by
  obtain ⟨ad, e, hc⟩ := h i X[i] (List.getElem?_eq_getElem hi)
  have hlt := World.block_lt_of_cell? _ _ hc
  refine ⟨ad, X[i].toNat, e, (f.cell hlt (hS _ hlt)).trans hc, by have := X[i].toNat_lt; omega, ?_⟩
  unfold fO
  rw [List.getD_eq_getElem?_getD, List.getElem?_eq_getElem hi]
  rfl
theorem qorder_few (q : Option Addr) (c m : Nat) (X : List UInt8) (w : World) (hX : SrcAt w q X) (hl : X.length = m) (hm47 : m < 2 ^ 47) (h4 : m ≤ 1000) : Calls Try.prog 7 #[.slice q m c] w fun e w' => e = .returned (.bool true) ∧ Below w.heap.size w w' := by
  have KN := qNew_in w.heap.size w (Nat.le_refl _)
  have h42 : (m : Int) ≤ 1000 := by omega
  have hmb : (m : Int) ≤ 9000000000000000000 := by omega
  have HX : Hid (SrcAt w q X) := hX
  have HLn : Hid (X.length = m) := hl
  obtain ⟨base, hbase⟩ : ∃ base, base = w.heap.size := ⟨_, rfl⟩
  obtain ⟨g, hg⟩ : ∃ g, g = w.heap.size + 1 := ⟨_, rfl⟩
  rw [← hg, ← hbase] at KN
  have HB : Hid (base = w.heap.size) := hbase
  have HS : Hid (∀ k, k < w.heap.size → ¬ base ≤ k) := fun k hk => by rw [hbase]; omega
  clear hX hl hbase hg
  go_enter Try.func7, Try.ntmps7
  go_wp2_with (go_at_call 8; refine KN.mono ?_; clear KN; rintro e w1 ⟨rfl, h1, f1, s1⟩; have HS0 : Hid (OrS base w g base 0 (rowN (fO X) 0) w1) := ⟨_, h1, f1.mono (fun _ _ e => e.elim)⟩; clear h1 f1 s1)
  go_loopw [5] (fun x5 wr => ∃ i : Nat, x5 = .int .i64 (i : Int) ∧ i ≤ m ∧ Hid (OrS base w g base 0 (rowN (fO X) i) wr)) (fun x5 _ => m - (intOf x5).toNat)
  case atStart => exact ⟨0, rfl, by omega, HS0.out⟩
  case round =>
    clear HS0
    obtain ⟨i, rfl, him, HR⟩ := hrel
    by_cases hlt : i < m
    · have hlt2 : (i : Int) < (m : Int) := by omega
      have hlt3 : (i : Int) < (m : Int) := by omega
      have KS := HR.out.set (Nat.le_of_eq HB.out) (by omega)
      obtain ⟨ad, x, rfl, c0, hx, hfo⟩ : ∃ ad x, q = some ad ∧ wr.cell? (ad.add i) = some (.int .u8 ((x : Nat) : Int)) ∧ x ≤ 255 ∧ fO X i = 1 + x % 100 := by
        obtain ⟨sl, -, f⟩ := HR.out
        exact byte_at HX.out f HS.out i (by rw [HLn.out]; omega)
      obtain ⟨F, hF⟩ : ∃ F, fO X i = F := ⟨_, rfl⟩
      rw [hF] at KS hfo
      have hF2 : (1 : Int) + (x : Int) % 100 = (F : Int) := by omega
      clear hF hfo
      go_wp2_with (go_at_call 10; refine KS.mono ?_; clear KS; rintro e w3 ⟨rfl, ts⟩; have HS3 : Hid (OrS base w g base 0 (rowN (fO X) (i + 1)) w3) := ts; clear ts)
      go_roundw
      case rel => exact ⟨i + 1, by go_num, by omega, HS3.out⟩
      case measure => simp [intOf]; omega
    · obtain rfl : m = i := by omega
      have hlt2 : ¬ (m : Int) < (m : Int) := by omega
      have HR0 : Hid (OrS base w g base 0 (restN X m 0) wr ∧ 0 + (restN X m 0).length = m) := by
        rw [restN_new, rowN_length]
        exact ⟨HR.out, Nat.zero_add _⟩
      go_wp2_with (fail)
      go_loopw [6, 7] (fun x6 x7 wr => ∃ N t : Nat, x6 = .int .i64 (t : Int) ∧ x7 = .int .i64 ((N : Int) + 1) ∧ N ≤ 100 ∧ t ≤ m ∧ Hid (OrS base w g base N (restN X m N) wr ∧ t + (restN X m N).length = m)) (fun _ x7 _ => 101 - (intOf x7).toNat)
      case atStart => exact ⟨0, 0, rfl, rfl, by omega, by omega, HR0.out⟩
      case round =>
        clear HR0 HR
        obtain ⟨N, t, rfl, rfl, hN, htn, HT⟩ := hrel
        by_cases hN2 : N < 100
        · have hN3 : (N : Int) + 1 ≤ 100 := by omega
          have HG0 : Hid (GaI wr (.slice none 0 0) (wantN X (N + 1) 0) wr) := ⟨OwnAt.nil _ _, fun k hk => by simp [Value.ownBlock] at hk, Fr.refl _ _⟩
          obtain ⟨w0, hw0⟩ : ∃ w0, w0 = wr := ⟨_, rfl⟩
          rw [← hw0] at HT HG0
          have HW0 : Hid (w0 = wr) := hw0
          rw [← hw0]
          clear hw0
          go_wp2_with (fail)
          go_loopw [8, 9] (fun x8 x9 wr => ∃ (i lm lc : Nat) (la : Option Addr), x8 = .slice la lm lc ∧ x9 = .int .i64 (i : Int) ∧ i ≤ m ∧ Hid (GaI w0 (.slice la lm lc) (wantN X (N + 1) i) wr)) (fun _ x9 _ => m - (intOf x9).toNat)
          case atStart => exact ⟨0, 0, 0, none, rfl, rfl, by omega, HG0.out⟩
          case round =>
            clear HG0 HW0
            obtain ⟨i, lm, lc, la, rfl, rfl, him, HG⟩ := hrel
            by_cases hlt : i < m
            · have hlt2 : (i : Int) < (m : Int) := by omega
              have hlt3 : (i : Int) < (m : Int) := by omega
              obtain ⟨ad, x, rfl, c0, hx, hfo⟩ : ∃ ad x, q = some ad ∧ wr.cell? (ad.add i) = some (.int .u8 ((x : Nat) : Int)) ∧ x ≤ 255 ∧ fO X i = 1 + x % 100 := by
                obtain ⟨sl, -, f⟩ := HT.out.1
                exact byte_at HX.out (f.trans (HG.out.2.2.mono (fun _ _ e => e.elim))) HS.out i (by rw [HLn.out]; omega)
              have HWS := wantN_step X (N + 1) i
              by_cases hE : fO X i = N + 1
              · have hE2 : (1 : Int) + (x : Int) % 100 = (N : Int) + 1 := by omega
                rw [if_pos hE] at HWS
                obtain ⟨la', lm', lc', w5, hrun, hG5⟩ := HG.out.add (i : Int) (by have := wantN_len X (N + 1) i; omega)
                have HG5 : Hid (GaI w0 (.slice la' lm' lc') (wantN X (N + 1) (i + 1)) w5) := by rw [HWS]; exact hG5
                clear hE hfo HWS hG5
                go_wp2_with (refine wpList_append_run9 rfl (.tmp 50) (.tmp 52) 35 rfl (.slice la lm lc) (.slice (some ⟨wr.heap.size, 0, none⟩) 1 1) (.slice la' lm' lc') rfl rfl hrun ?_)
                go_roundw
                case rel => exact ⟨i + 1, lm', lc', la', rfl, by go_num, by omega, HG5.out⟩
                case measure => simp [intOf]; omega
              · have hE3 : ¬ (1 : Int) + (x : Int) % 100 = (N : Int) + 1 := by omega
                have hE2 : ((1 : Int) + (x : Int) % 100 == (N : Int) + 1) = false := by rw [beq_eq_false_iff_ne]; exact hE3
                rw [if_neg hE, List.append_nil] at HWS
                have HG5 : Hid (GaI w0 (.slice la lm lc) (wantN X (N + 1) (i + 1)) wr) := by rw [HWS]; exact HG.out
                clear hE hfo HWS
                go_wp2_with (fail)
                go_roundw
                case rel => exact ⟨i + 1, lm, lc, la, rfl, by go_num, by omega, HG5.out⟩
                case measure => simp [intOf]; omega
            · obtain rfl : m = i := by omega
              have hlt2 : ¬ (m : Int) < (m : Int) := by omega
              have hlm : lm = (wantN X (N + 1) m).length := HG.out.1.lenI.1
              have hrl := rest_len X m N
              have hrs := HT.out.2
              have htl : t + lm ≤ m := by omega
              obtain ⟨z, hz⟩ : ∃ z, (restN X m (N + 1)).length = z := ⟨_, rfl⟩
              have hz2 : (m : Int) - ((t : Int) + (lm : Int)) = (z : Int) := by omega
              have HZ : Hid ((restN X m (N + 1)).length = z ∧ (t + lm) + z = m) := ⟨hz, by omega⟩
              obtain ⟨sl, hw1, hw2⟩ := HT.out.1
              have KT := qTick_in (hw1.later HG.out.2.2) (by have h1 := hw2.size; have h2 := HG.out.2.2.size; have h3 := HB.out; omega) (by omega)
              have KT2 : Calls Try.prog 15 #[.pointer (some ⟨g, 0, none⟩)] wr fun e w' => ∃ za zm zc, e = .returned (.slice za zm zc) ∧ OwnAt w' 3 (.slice za zm zc) (iv (wantN X (N + 1) m)) ∧ OwnAt w' 3 (.slice la lm lc) (iv (wantN X (N + 1) m)) ∧ OrS base w g base (N + 1) (restN X m (N + 1)) w' := by
                refine KT.mono ?_
                rintro e w' ⟨za, zm, zc, rfl, ho, hk, sl2, h4, h5, h6⟩
                rw [due_want] at ho
                rw [restN_tick] at h4
                refine ⟨za, zm, zc, rfl, ho, HG.out.1.fr h5 (fun k hk e => ?_), sl2, h4, (hw2.trans (HG.out.2.2.mono (fun _ _ e => e.elim))).trans (h5.mono (fun k _ e => hw1.1.base_le k e))⟩
                have h7 := HG.out.2.1 k hk
                have h8 := hw1.1.lt k e
                omega
              have HWL : Hid ((wantN X (N + 1) m).length ≤ 4096) := by have := wantN_len X (N + 1) m; show _ ≤ _; omega
              clear KT hlm hrl hrs hz hw1 hw2
              go_wp2_with (first
                | (go_at_call 15; refine KT2.mono ?_; clear KT2; rintro e w3 ⟨ta, tm, tc, rfl, to1, to2, ts⟩; have HS3 : Hid (OrS base w g base (N + 1) (restN X m (N + 1)) w3) := ts; have KI := qints_in ta la tc lc tm lm _ w3 to1 to2 HWL.out; clear to1 to2 ts)
                | (go_at_call 14; refine KI.mono ?_; clear KI; rintro e w4 ⟨rfl, tf⟩; have HS4 : Hid (OrS base w g base (N + 1) (restN X m (N + 1)) w4) := HS3.out.later tf; have KL := HS4.out.len; rw [HZ.out.1] at KL; clear tf)
                | (go_at_call 20; refine KL.mono ?_; clear KL; rintro e w' ⟨rfl, rfl⟩))
              have HEND : Hid (OrS base w g base (N + 1) (restN X m (N + 1)) w4 ∧ (t + lm) + (restN X m (N + 1)).length = m) := ⟨HS4.out, by rw [HZ.out.1]; exact HZ.out.2⟩
              go_roundw
              case rel => exact ⟨N + 1, t + lm, by go_num, by go_num, by omega, by omega, HEND.out⟩
              case measure => simp [intOf]; omega
        · obtain rfl : N = 100 := by omega
          have HE : Hid (OrS base w g base 100 [] wr) := by have := HT.out.1; rw [rest_end] at this; exact this
          have KL := HE.out.len
          have hl0 : (([] : List (Int × Int)).length : Nat) = 0 := rfl
          rw [hl0] at KL
          go_wp2_with (first
            | (go_at_call 20; refine KL.mono ?_; clear KL; rintro e w' ⟨rfl, rfl⟩)
            | (go_at_call 21; refine (qawake_in _).mono ?_; rintro e w6 ⟨rfl, hf6⟩))
          go_ret
          refine ⟨rfl, ?_⟩
          obtain ⟨_, _, f9⟩ := HE.out
          exact (f9.trans (hf6.mono (fun _ _ e => e.elim))).below (fun k hk e => by have h1 := HB.out; have h2 : base ≤ k := e; omega)
theorem qorder_many (q : Option Addr) (c m : Nat) (X : List UInt8) (w : World) (hX : SrcAt w q X) (hl : X.length = m) (hm47 : m < 2 ^ 47) (h4 : ¬ m ≤ 1000) : Calls Try.prog 7 #[.slice q m c] w fun e w' => e = .returned (.bool true) ∧ Below w.heap.size w w' := by
  have KN := qNew_in w.heap.size w (Nat.le_refl _)
  have h42 : ¬ (m : Int) ≤ 1000 := by omega
  have hmb : (m : Int) ≤ 9000000000000000000 := by omega
  have HX : Hid (SrcAt w q X) := hX
  have HLn : Hid (X.length = m) := hl
  obtain ⟨base, hbase⟩ : ∃ base, base = w.heap.size := ⟨_, rfl⟩
  obtain ⟨g, hg⟩ : ∃ g, g = w.heap.size + 1 := ⟨_, rfl⟩
  rw [← hg, ← hbase] at KN
  have HB : Hid (base = w.heap.size) := hbase
  have HS : Hid (∀ k, k < w.heap.size → ¬ base ≤ k) := fun k hk => by rw [hbase]; omega
  clear hX hl hbase hg
  go_enter Try.func7, Try.ntmps7
  go_wp2_with (go_at_call 8; refine KN.mono ?_; clear KN; rintro e w1 ⟨rfl, h1, f1, s1⟩; have HS0 : Hid (OrS base w g base 0 (rowN (fO X) 0) w1) := ⟨_, h1, f1.mono (fun _ _ e => e.elim)⟩; clear h1 f1 s1)
  go_loopw [5] (fun x5 wr => ∃ i : Nat, x5 = .int .i64 (i : Int) ∧ i ≤ 1000 ∧ Hid (OrS base w g base 0 (rowN (fO X) i) wr)) (fun x5 _ => 1000 - (intOf x5).toNat)
  case atStart => exact ⟨0, rfl, by omega, HS0.out⟩
  case round =>
    clear HS0
    obtain ⟨i, rfl, him, HR⟩ := hrel
    by_cases hlt : i < 1000
    · have hlt2 : (i : Int) < (1000 : Int) := by omega
      have hlt3 : (i : Int) < (m : Int) := by omega
      have KS := HR.out.set (Nat.le_of_eq HB.out) (by omega)
      obtain ⟨ad, x, rfl, c0, hx, hfo⟩ : ∃ ad x, q = some ad ∧ wr.cell? (ad.add i) = some (.int .u8 ((x : Nat) : Int)) ∧ x ≤ 255 ∧ fO X i = 1 + x % 100 := by
        obtain ⟨sl, -, f⟩ := HR.out
        exact byte_at HX.out f HS.out i (by rw [HLn.out]; omega)
      obtain ⟨F, hF⟩ : ∃ F, fO X i = F := ⟨_, rfl⟩
      rw [hF] at KS hfo
      have hF2 : (1 : Int) + (x : Int) % 100 = (F : Int) := by omega
      clear hF hfo
      go_wp2_with (go_at_call 10; refine KS.mono ?_; clear KS; rintro e w3 ⟨rfl, ts⟩; have HS3 : Hid (OrS base w g base 0 (rowN (fO X) (i + 1)) w3) := ts; clear ts)
      go_roundw
      case rel => exact ⟨i + 1, by go_num, by omega, HS3.out⟩
      case measure => simp [intOf]; omega
    · obtain rfl : 1000 = i := by omega
      have hlt2 : ¬ (1000 : Int) < (1000 : Int) := by omega
      have HR0 : Hid (OrS base w g base 0 (restN X 1000 0) wr ∧ 0 + (restN X 1000 0).length = 1000) := by
        rw [restN_new, rowN_length]
        exact ⟨HR.out, Nat.zero_add _⟩
      go_wp2_with (fail)
      go_loopw [6, 7] (fun x6 x7 wr => ∃ N t : Nat, x6 = .int .i64 (t : Int) ∧ x7 = .int .i64 ((N : Int) + 1) ∧ N ≤ 100 ∧ t ≤ 1000 ∧ Hid (OrS base w g base N (restN X 1000 N) wr ∧ t + (restN X 1000 N).length = 1000)) (fun _ x7 _ => 101 - (intOf x7).toNat)
      case atStart => exact ⟨0, 0, rfl, rfl, by omega, by omega, HR0.out⟩
      case round =>
        clear HR0 HR
        obtain ⟨N, t, rfl, rfl, hN, htn, HT⟩ := hrel
        by_cases hN2 : N < 100
        · have hN3 : (N : Int) + 1 ≤ 100 := by omega
          have HG0 : Hid (GaI wr (.slice none 0 0) (wantN X (N + 1) 0) wr) := ⟨OwnAt.nil _ _, fun k hk => by simp [Value.ownBlock] at hk, Fr.refl _ _⟩
          obtain ⟨w0, hw0⟩ : ∃ w0, w0 = wr := ⟨_, rfl⟩
          rw [← hw0] at HT HG0
          have HW0 : Hid (w0 = wr) := hw0
          rw [← hw0]
          clear hw0
          go_wp2_with (fail)
          go_loopw [8, 9] (fun x8 x9 wr => ∃ (i lm lc : Nat) (la : Option Addr), x8 = .slice la lm lc ∧ x9 = .int .i64 (i : Int) ∧ i ≤ 1000 ∧ Hid (GaI w0 (.slice la lm lc) (wantN X (N + 1) i) wr)) (fun _ x9 _ => 1000 - (intOf x9).toNat)
          case atStart => exact ⟨0, 0, 0, none, rfl, rfl, by omega, HG0.out⟩
          case round =>
            clear HG0 HW0
            obtain ⟨i, lm, lc, la, rfl, rfl, him, HG⟩ := hrel
            by_cases hlt : i < 1000
            · have hlt2 : (i : Int) < (1000 : Int) := by omega
              have hlt3 : (i : Int) < (m : Int) := by omega
              obtain ⟨ad, x, rfl, c0, hx, hfo⟩ : ∃ ad x, q = some ad ∧ wr.cell? (ad.add i) = some (.int .u8 ((x : Nat) : Int)) ∧ x ≤ 255 ∧ fO X i = 1 + x % 100 := by
                obtain ⟨sl, -, f⟩ := HT.out.1
                exact byte_at HX.out (f.trans (HG.out.2.2.mono (fun _ _ e => e.elim))) HS.out i (by rw [HLn.out]; omega)
              have HWS := wantN_step X (N + 1) i
              by_cases hE : fO X i = N + 1
              · have hE2 : (1 : Int) + (x : Int) % 100 = (N : Int) + 1 := by omega
                rw [if_pos hE] at HWS
                obtain ⟨la', lm', lc', w5, hrun, hG5⟩ := HG.out.add (i : Int) (by have := wantN_len X (N + 1) i; omega)
                have HG5 : Hid (GaI w0 (.slice la' lm' lc') (wantN X (N + 1) (i + 1)) w5) := by rw [HWS]; exact hG5
                clear hE hfo HWS hG5
                go_wp2_with (refine wpList_append_run9 rfl (.tmp 50) (.tmp 52) 35 rfl (.slice la lm lc) (.slice (some ⟨wr.heap.size, 0, none⟩) 1 1) (.slice la' lm' lc') rfl rfl hrun ?_)
                go_roundw
                case rel => exact ⟨i + 1, lm', lc', la', rfl, by go_num, by omega, HG5.out⟩
                case measure => simp [intOf]; omega
              · have hE3 : ¬ (1 : Int) + (x : Int) % 100 = (N : Int) + 1 := by omega
                have hE2 : ((1 : Int) + (x : Int) % 100 == (N : Int) + 1) = false := by rw [beq_eq_false_iff_ne]; exact hE3
                rw [if_neg hE, List.append_nil] at HWS
                have HG5 : Hid (GaI w0 (.slice la lm lc) (wantN X (N + 1) (i + 1)) wr) := by rw [HWS]; exact HG.out
                clear hE hfo HWS
                go_wp2_with (fail)
                go_roundw
                case rel => exact ⟨i + 1, lm, lc, la, rfl, by go_num, by omega, HG5.out⟩
                case measure => simp [intOf]; omega
            · obtain rfl : 1000 = i := by omega
              have hlt2 : ¬ (1000 : Int) < (1000 : Int) := by omega
              have hlm : lm = (wantN X (N + 1) 1000).length := HG.out.1.lenI.1
              have hrl := rest_len X 1000 N
              have hrs := HT.out.2
              have htl : t + lm ≤ 1000 := by omega
              obtain ⟨z, hz⟩ : ∃ z, (restN X 1000 (N + 1)).length = z := ⟨_, rfl⟩
              have hz2 : (1000 : Int) - ((t : Int) + (lm : Int)) = (z : Int) := by omega
              have HZ : Hid ((restN X 1000 (N + 1)).length = z ∧ (t + lm) + z = 1000) := ⟨hz, by omega⟩
              obtain ⟨sl, hw1, hw2⟩ := HT.out.1
              have KT := qTick_in (hw1.later HG.out.2.2) (by have h1 := hw2.size; have h2 := HG.out.2.2.size; have h3 := HB.out; omega) (by omega)
              have KT2 : Calls Try.prog 15 #[.pointer (some ⟨g, 0, none⟩)] wr fun e w' => ∃ za zm zc, e = .returned (.slice za zm zc) ∧ OwnAt w' 3 (.slice za zm zc) (iv (wantN X (N + 1) 1000)) ∧ OwnAt w' 3 (.slice la lm lc) (iv (wantN X (N + 1) 1000)) ∧ OrS base w g base (N + 1) (restN X 1000 (N + 1)) w' := by
                refine KT.mono ?_
                rintro e w' ⟨za, zm, zc, rfl, ho, hk, sl2, h4, h5, h6⟩
                rw [due_want] at ho
                rw [restN_tick] at h4
                refine ⟨za, zm, zc, rfl, ho, HG.out.1.fr h5 (fun k hk e => ?_), sl2, h4, (hw2.trans (HG.out.2.2.mono (fun _ _ e => e.elim))).trans (h5.mono (fun k _ e => hw1.1.base_le k e))⟩
                have h7 := HG.out.2.1 k hk
                have h8 := hw1.1.lt k e
                omega
              have HWL : Hid ((wantN X (N + 1) 1000).length ≤ 4096) := by have := wantN_len X (N + 1) 1000; show _ ≤ _; omega
              clear KT hlm hrl hrs hz hw1 hw2
              go_wp2_with (first
                | (go_at_call 15; refine KT2.mono ?_; clear KT2; rintro e w3 ⟨ta, tm, tc, rfl, to1, to2, ts⟩; have HS3 : Hid (OrS base w g base (N + 1) (restN X 1000 (N + 1)) w3) := ts; have KI := qints_in ta la tc lc tm lm _ w3 to1 to2 HWL.out; clear to1 to2 ts)
                | (go_at_call 14; refine KI.mono ?_; clear KI; rintro e w4 ⟨rfl, tf⟩; have HS4 : Hid (OrS base w g base (N + 1) (restN X 1000 (N + 1)) w4) := HS3.out.later tf; have KL := HS4.out.len; rw [HZ.out.1] at KL; clear tf)
                | (go_at_call 20; refine KL.mono ?_; clear KL; rintro e w' ⟨rfl, rfl⟩))
              have HEND : Hid (OrS base w g base (N + 1) (restN X 1000 (N + 1)) w4 ∧ (t + lm) + (restN X 1000 (N + 1)).length = 1000) := ⟨HS4.out, by rw [HZ.out.1]; exact HZ.out.2⟩
              go_roundw
              case rel => exact ⟨N + 1, t + lm, by go_num, by go_num, by omega, by omega, HEND.out⟩
              case measure => simp [intOf]; omega
        · obtain rfl : N = 100 := by omega
          have HE : Hid (OrS base w g base 100 [] wr) := by have := HT.out.1; rw [rest_end] at this; exact this
          have KL := HE.out.len
          have hl0 : (([] : List (Int × Int)).length : Nat) = 0 := rfl
          rw [hl0] at KL
          go_wp2_with (first
            | (go_at_call 20; refine KL.mono ?_; clear KL; rintro e w' ⟨rfl, rfl⟩)
            | (go_at_call 21; refine (qawake_in _).mono ?_; rintro e w6 ⟨rfl, hf6⟩))
          go_ret
          refine ⟨rfl, ?_⟩
          obtain ⟨_, _, f9⟩ := HE.out
          exact (f9.trans (hf6.mono (fun _ _ e => e.elim))).below (fun k hk e => by have h1 := HB.out; have h2 : base ≤ k := e; omega)
theorem qorder_walk (q : Option Addr) (c m : Nat) (X : List UInt8) (w : World) (hX : SrcAt w q X) (hl : X.length = m) (hm47 : m < 2 ^ 47) : Calls Try.prog 7 #[.slice q m c] w fun e w' => e = .returned (.bool true) ∧ Below w.heap.size w w' := by
  by_cases h4 : m ≤ 1000
  · exact qorder_few q c m X w hX hl hm47 h4
  · exact qorder_many q c m X w hX hl hm47 h4
end Go.Proofs.Ytldedlphamcehaa
