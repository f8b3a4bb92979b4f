/- The pieces of a text, told one behind the other. -/
import Derived.Test.YtfehmlopndklcaaDoorScm
import Derived.Test.YtfehmlopndklcaaDoorScb
namespace Go.Proofs.YtfehmlopndklcaaDoor
open Go.RowKit
set_option maxRecDepth 100000
set_option maxHeartbeats 4000000
set_option linter.unusedVariables false

theorem grown_iter4 (w : World) (k : Nat) (s : ByteArray) (p : Nat) : w.grownBy (w.iterAt k s p) (some k) :=
  ⟨rfl, rfl, rfl, by rw [Lib.iterAt_size]; exact Nat.le_refl _, fun i hi hs => Lib.iterAt_other w k i s p (fun e => hs (by rw [e]))⟩
theorem own_iter4 {β : Type} {B : Nat} {J : β → World → Prop} (h : OwnFrom B J) {s : β} {w : World} (hs : J s w) {k : Nat} {t : ByteArray} {p : Nat} (hk : w.heap[k]? = some (.stringIter t p)) (hB : B ≤ k) (p' : Nat) : J s (w.iterAt k t p') :=
  h s w _ (some k) hs (grown_iter4 w k t p') (fun r e => by cases e; exact ⟨hB, _, hk, rfl⟩)
/-- Piece k as it is told: its place, its bytes. -/
def pieceE (L : List (List UInt8)) (k : Nat) (args : Array Value) (W : World) : Prop := ∃ p, L[k]? = some p ∧ args = #[.int .i64 (cutAt L k : Int), .string ⟨p.toArray⟩]
/-- What the pieces want of the memory. -/
def pieceZ (sb gb : Nat) (s : ByteArray) (g : UInt8) (W : World) : Prop := (∃ t, W.heap[sb]? = some (.cells #[.string s] t (0, 0))) ∧ (∃ t, W.heap[gb]? = some (.cells #[.int .i32 (g.toNat : Int)] t (0, 0)))
theorem extract_mk (s : ByteArray) (b p : Nat) (hp : p ≤ s.size) (hb : b ≤ p) : s.extract b p = ⟨(((tx s).drop b).take (p - b)).toArray⟩ := by
  refine tx_ext ?_
  rw [tx_mk]
  show (s.extract b p).data.toList = _
  rw [ByteArray.data_extract, Array.toList_extract]
  rfl
theorem pieces_tells (sb gb : Nat) (s : ByteArray) (g : UInt8) (hg : g.toNat < 128) (hs : s.size ≤ 100000) :
    Tells4 Tryd.prog 33 #[] #[.pointer (some ⟨sb, 0, none⟩), .pointer (some ⟨gb, 0, none⟩)] (cuts g (tx s)).length (pieceE (cuts g (tx s))) (pieceZ sb gb s g) := by
  intro ll J Jx W hJ hJx hZ hY h0
  show CallsIn Fence.wide 0 Tryd.prog 33 #[.func (.yield ll) #[] #[], .pointer (some ⟨sb, 0, none⟩), .pointer (some ⟨gb, 0, none⟩)] W _
  have HJ : Hid (OwnFrom W.heap.size J) := hJ
  have HZ : Hid (∀ k W1, J k W1 → pieceZ sb gb s g W1) := hZ
  have HY : Hid (∀ k W1 p, J k W1 → (cuts g (tx s))[k]? = some p → YieldAt Fence.wide 0 Tryd.prog ll #[.int .i64 (cutAt (cuts g (tx s)) k : Int), .string ⟨p.toArray⟩] W1 fun e W' => (e = .returned (.bool true) ∧ J (k + 1) W' ∧ KeepsFrom W.heap.size W1 W') ∨ (e = .returned (.bool false) ∧ Jx (k + 1) W')) := fun k W1 p hj hp => hY k W1 _ hj (List.getElem?_eq_some_iff.1 hp).1 ⟨p, hp, rfl⟩
  have HS : Hid (s.size ≤ 100000) := hs
  have HG : Hid (g.toNat < 128) := hg
  obtain ⟨⟨t1, z1⟩, -⟩ := hZ 0 W h0
  have q1 : W.cell? ⟨sb, 0, none⟩ = some (.string s) := cell_of_heap z1 rfl
  have H0 : Hid (J 0 (W.iter s 0)) := hJ.alloc _ h0
  clear hJ hJx hZ hY hs hg h0 z1
  refine callsIn_of_wp Tryd.func33 rfl trivial ?_ rfl
  simp only [Tryd.ntmps33, List.size_toArray, List.length_cons, List.length_nil, Nat.reduceAdd, Nat.reduceSub, Array.replicate_succ, Array.replicate_zero, List.push_toArray, List.append_toArray, List.nil_append, List.cons_append]
  gi_wp2
  clear q1
  gi_loopw [4] (fun x4 wr => ∃ k b pos : Nat, x4 = .int .i64 (b : Int) ∧ pos ≤ s.size ∧ wr.heap[W.heap.size]? = some (.stringIter s pos) ∧ Hid (J k wr) ∧ Hid (CutSt g (tx s) k b ∧ b ≤ pos ∧ ∀ j, b ≤ j → j < pos → (tx s)[j]? ≠ some g)) (fun _ wr => s.size - wr.iterPos W.heap.size)
  case atStart => exact ⟨0, 0, 0, rfl, by omega, World.iter_heap W s 0, H0.out, CutSt.zero g (tx s), by omega, fun j _ h => absurd h (Nat.not_lt_zero j)⟩
  case round =>
    obtain ⟨k, b, pos, rfl, hp, hit, Hj, HC⟩ := hrel
    have hzz := HZ.out _ _ Hj.out
    obtain ⟨⟨t2, z2⟩, t3, z3⟩ := hzz
    by_cases hlt : pos < s.size
    · have hnx : ∀ ty, (Instr.next (.pointer (some ⟨W.heap.size, 0, none⟩)) true ty).run Tryd.prog wr = _ := fun ty => Lib.run_next_any_at wr W.heap.size s pos ty hit hlt
      have HT : Hid ((tx s)[pos]? = some (s[pos]'hlt)) := tx_at s pos hlt
      have hrune : ∃ (r kk : Nat), Utf8.decode s pos = (r, kk) ∧ (((s[pos]'hlt) = g ∧ r = g.toNat ∧ kk = 1) ∨ (¬ (s[pos]'hlt) = g ∧ ¬ r = g.toNat ∧ 1 ≤ kk ∧ ∀ j, b ≤ j → j < pos + kk → (tx s)[j]? ≠ some g)) ∧ pos + kk ≤ s.size := by
        by_cases ha : (s[pos]'hlt).toNat < 128
        · refine ⟨_, _, decode_ascii s pos hlt ha, ?_, by omega⟩
          by_cases he : (s[pos]'hlt) = g
          · exact .inl ⟨he, by rw [he], rfl⟩
          · exact .inr ⟨he, fun e => he (UInt8.toNat_inj.1 e), Nat.le_refl _, not_step HC.out.2.2 (tx_at s pos hlt) he⟩
        · have hh := decode_high s pos hlt (by omega)
          have hb := high_bytes s pos hlt (by omega)
          obtain ⟨⟨r, kk⟩, hrk⟩ : ∃ x, Utf8.decode s pos = x := ⟨_, rfl⟩
          rw [hrk] at hh hb
          dsimp only at hh hb
          refine ⟨r, kk, hrk, .inr ⟨fun e => ?_, fun e => ?_, hh.2, not_more HC.out.2.2 hb HG.out⟩, ?_⟩
          · have := HG.out; rw [e] at ha; omega
          · have := HG.out; omega
          · obtain ⟨c, hc, -⟩ := hb (kk - 1) (by omega)
            have := (List.getElem?_eq_some_iff.1 hc).1
            rw [tx_len] at this
            omega
      obtain ⟨r, kk, hrk, hcs, hle⟩ := hrune
      obtain ⟨c, hc⟩ : ∃ c, (s[pos]'hlt) = c := ⟨_, rfl⟩
      rw [hc] at HT hcs
      rw [hrk] at hnx
      dsimp only at hnx
      have hit2 : Hid ((wr.iterAt W.heap.size s (pos + kk)).heap[W.heap.size]? = some (.stringIter s (pos + kk))) := Lib.iterAt_heap wr W.heap.size s pos (pos + kk) hit
      have hj2 : Hid (J k (wr.iterAt W.heap.size s (pos + kk))) := own_iter4 HJ.out Hj.out hit (Nat.le_refl _) _
      have hzz2 := HZ.out _ _ hj2.out
      obtain ⟨⟨t4, z4⟩, t5, z5⟩ := hzz2
      have q4 : (wr.iterAt W.heap.size s (pos + kk)).cell? ⟨sb, 0, none⟩ = some (.string s) := cell_of_heap z4 rfl
      have q5 : (wr.iterAt W.heap.size s (pos + kk)).cell? ⟨gb, 0, none⟩ = some (.int .i32 (g.toNat : Int)) := cell_of_heap z5 rfl
      obtain ⟨gn, hgn⟩ : ∃ gn, g.toNat = gn := ⟨_, rfl⟩
      have HGN : Hid (g.toNat = gn) := hgn
      rw [hgn] at q5 hcs
      have HLE : Hid (pos + kk ≤ s.size) := hle
      have HIT : Hid (wr.heap[W.heap.size]? = some (.stringIter s pos)) := hit
      generalize wr.iterAt W.heap.size s (pos + kk) = W1 at hnx hit2 hj2 q4 q5
      clear hc hrk z2 z3 z4 z5 hit hle hgn
      rcases hcs with ⟨hcg, hrg, hk1⟩ | ⟨hcg, hrg, hk1, hno⟩
      · subst hcg hrg hk1
        have HN := HC.out.1.next HC.out.2.1 HT.out HC.out.2.2
        have HN2 : Hid (CutSt c (tx s) (k + 1) (pos + 1)) := HN.2
        have hsl : ∀ w : World, (Instr.slice 9 (.string s) (some (.int .i64 (b : Int))) (some (.int .i64 (pos : Int))) none).run Tryd.prog w = .ok (.string ⟨(((tx s).drop b).take (pos - b)).toArray⟩) w := fun w => by
          have h1 := HC.out.2.1
          rw [run_slice_string w 9 s .i64 .i64 (b : Int) (pos : Int) Tryd.underlying9 (by omega) (by omega) (by omega)]
          simp only [Int.toNat_natCast]
          rw [extract_mk s b pos (by omega) h1]
        have HYK := HY.out k W1 _ hj2.out HN.1
        rw [HC.out.1.pos] at HYK
        obtain ⟨p, hp'⟩ : ∃ p : ByteArray, (⟨(((tx s).drop b).take (pos - b)).toArray⟩ : ByteArray) = p := ⟨_, rfl⟩
        rw [hp'] at hsl HYK
        obtain ⟨fn, tmps, assign, body, hy, hRd⟩ := HYK
        have HRD : Hid _ := hRd
        have hbp : b ≤ pos := HC.out.2.1
        have hbi : (b : Int) ≤ (pos : Int) := by omega
        have hpi : (pos : Int) ≤ (s.size : Int) := by omega
        have hb0 : (0 : Int) ≤ (b : Int) := by omega
        have hpb : pos ≤ 100000 := by have := HS.out; omega
        clear hp' HN hRd
        gi_wp2
        refine ⟨rfl, RoundIn.mono HRD.out ?_⟩
        rintro e3 W3 (⟨rfl, hJ3, hK3⟩ | ⟨rfl, hx3⟩)
        · have HJ3 : Hid (J (k + 1) W3) := hJ3
          have HK3 : Hid (W3.heap[W.heap.size]? = some (.stringIter s (pos + 1))) := hK3.same _ _ (Nat.le_refl _) hit2.out rfl
          clear hJ3 hK3 hy HRD
          gi_wp2
          go_roundw
          case rel => exact ⟨k + 1, pos + 1, pos + 1, by go_num, by omega, HK3.out, HJ3.out, HN2.out, Nat.le_refl _, fun j h1 h2 => by omega⟩
          case measure => simp [World.iterPos, HIT.out, HK3.out]; omega
        · have HX3 : Hid (Jx (k + 1) W3) := hx3
          have HMO : Hid (k + 1 < (cuts c (tx s)).length) := HC.out.1.more HC.out.2.1 HT.out HC.out.2.2
          clear hx3 hy HRD
          gi_wp2
          refine bodyPost_ret (results_none rfl _ _ _) rfl ?_
          exact ⟨⟨_, rfl⟩, .inr ⟨k + 1, Nat.le_of_lt HMO.out, HX3.out⟩⟩
      · have hrg2 : ¬ (r : Int) = (gn : Int) := by omega
        have HNO : Hid (∀ j, b ≤ j → j < pos + kk → (tx s)[j]? ≠ some g) := hno
        have HK1 : Hid (1 ≤ kk) := hk1
        clear hcg hrg hno hk1
        gi_wp2
        go_roundw
        case rel => exact ⟨k, b, pos + kk, rfl, HLE.out, hit2.out, hj2.out, HC.out.1, by have := HC.out.2.1; omega, HNO.out⟩
        case measure =>
          have := HK1.out
          simp [World.iterPos, HIT.out, hit2.out]; omega
    · have hnx : ∀ ty, (Instr.next (.pointer (some ⟨W.heap.size, 0, none⟩)) true ty).run Tryd.prog wr = .ok (.tuple #[.bool false]) wr := fun ty => Lib.run_next_end_at wr W.heap.size s pos ty hit hlt
      have HN := HC.out.1.last (fun j h1 h2 => HC.out.2.2 j h1 (by rw [tx_len] at h2; omega))
      have HEQ : Hid ((cuts g (tx s)).length = k + 1) := HN.2
      have q2 : wr.cell? ⟨sb, 0, none⟩ = some (.string s) := cell_of_heap z2 rfl
      have hble := HC.out.1.le
      rw [tx_len] at hble
      have hsl : ∀ w : World, (Instr.slice 9 (.string s) (some (.int .i64 (b : Int))) none none).run Tryd.prog w = .ok (.string ⟨((tx s).drop b).toArray⟩) w := fun w => by
        rw [run_slice_string_from_if w 9 s .i64 _ Tryd.underlying9, if_pos (by omega)]
        simp only [Int.toNat_natCast]
        rw [extract_mk s b s.size (Nat.le_refl _) hble, List.take_of_length_le (by rw [List.length_drop, tx_len]; omega)]
      have HYK := HY.out k wr _ Hj.out HN.1
      rw [HC.out.1.pos] at HYK
      obtain ⟨p, hp'⟩ : ∃ p : ByteArray, (⟨((tx s).drop b).toArray⟩ : ByteArray) = p := ⟨_, rfl⟩
      rw [hp'] at hsl HYK
      obtain ⟨fn, tmps, assign, body, hy, hRd⟩ := HYK
      have HRD : Hid _ := hRd
      have hbi : (b : Int) ≤ (s.size : Int) := by omega
      have hb0 : (0 : Int) ≤ (b : Int) := by omega
      clear hp' HN hRd z2 z3 hit
      gi_wp2
      refine ⟨rfl, RoundIn.mono HRD.out ?_⟩
      rintro e3 W3 (⟨rfl, hJ3, hK3⟩ | ⟨rfl, hx3⟩)
      · have HJ3 : Hid (J (k + 1) W3) := hJ3
        clear hJ3 hK3 hy HRD
        gi_wp2
        refine bodyPost_end (results_none rfl _ _ _) rfl ?_
        exact ⟨⟨_, rfl⟩, .inl (by rw [HEQ.out]; exact HJ3.out)⟩
      · have HX3 : Hid (Jx (k + 1) W3) := hx3
        clear hx3 hy HRD
        gi_wp2
        refine bodyPost_end (results_none rfl _ _ _) rfl ?_
        exact ⟨⟨_, rfl⟩, .inr ⟨k + 1, by rw [HEQ.out]; exact Nat.le_refl _, HX3.out⟩⟩
end Go.Proofs.YtfehmlopndklcaaDoor
