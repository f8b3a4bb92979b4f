/- Bytes in base 16. -/
import Derived.Test.YtfehmlopndklcaaDoorScc
import Derived.Test.YtfehmlopndklcaaDoorGf
namespace Go.Proofs.YtfehmlopndklcaaDoor
open Go.RowKit
set_option maxRecDepth 100000
set_option maxHeartbeats 4000000
set_option linter.unusedVariables false

/-- Bytes gathered: the text is read up to pos. -/
structure HexSt (s : ByteArray) (w wr : World) (pos hi : Nat) (odd : Bool) (v : Value) (out : List UInt8) : Prop where
  le : pos ≤ s.size
  it : wr.heap[w.heap.size]? = some (.stringIter s pos)
  fr : Fr (fun _ => False) w wr
  own : OwnAt wr 5 v (bv out)
  new : ∀ k, v.ownBlock = some k → w.heap.size ≤ k
  val : hexV ((tx s).take pos) = some (out, hi, odd)
  small : hi < 16
  par : odd = decide (pos % 2 = 1)
  len : out.length = pos / 2
theorem Fr.iterSelf (w : World) (k : Nat) (s : ByteArray) (p : Nat) : Fr (fun j => j = k) w (w.iterAt k s p) :=
  ⟨rfl, rfl, rfl, by rw [Lib.iterAt_size]; exact Nat.le_refl _, fun i hi hs => Lib.iterAt_other w k i s p hs⟩
/-- What readData answers. -/
def DatAs (s : ByteArray) (w : World) (e : Ending) (w' : World) : Prop :=
  (hexO (tx s) = none ∧ e = .returned (.tuple #[.nilIface, .iface 25 (.int .i64 4)]) ∧ Fr (fun _ => False) w w') ∨
  ∃ out v, hexO (tx s) = some out ∧ e = .returned (.tuple #[.iface 87 v, .nilIface]) ∧ Gath w w' v out
theorem byte16 {h d : Nat} (hh : h < 16) (hd : d < 16) : ((16 * h + d : Nat) : Int) = ((UInt8.ofNat (16 * h + d)).toNat : Int) := by
  simp
  omega
theorem HexSt.later {s : ByteArray} {w wr wv : World} {pos hi : Nat} {odd : Bool} {v : Value} {out : List UInt8} (h : HexSt s w wr pos hi odd v out) (hf : Fr (fun _ => False) wr wv) : HexSt s w wv pos hi odd v out :=
  ⟨h.le, (hf.block _ (lt_of_heap h.it) id).trans h.it, h.fr.trans hf, h.own.fr hf (fun _ _ => id), h.new, h.val, h.small, h.par, h.len⟩
theorem own_tag {w : World} {e : TypeId} {v : Value} {xs : List Value} (h : OwnAt w e v xs) (k : Nat) (hk : v.ownBlock = some k) : ∃ cur, w.heap[k]? = some (.cells cur e (0, 0)) := by
  rcases h with ⟨rfl, rfl⟩ | ⟨g, off, cap, cur, rfl, hg, r⟩
  · simp [Value.ownBlock] at hk
  · simp [Value.ownBlock] at hk
    subst hk
    exact ⟨cur, hg⟩
theorem Fr.trans_own {v : Value} {a b c : World} (h : Fr (fun _ => False) a b) (k : Fr (fun j => v.ownBlock = some j) b c) (hn : ∀ j, v.ownBlock = some j → j < b.heap.size → a.heap.size ≤ j) : Fr (fun _ => False) a c :=
  ⟨k.os.trans h.os, k.tape.trans h.tape, k.output.trans h.output, Nat.le_trans h.size k.size, fun i hi _ => (k.block i (Nat.lt_of_lt_of_le hi h.size) (fun e => by have := hn i e (Nat.lt_of_lt_of_le hi h.size); omega)).trans (h.block i hi id)⟩
theorem wrap_i64s (m : Int) (h0 : 0 ≤ m) (h1 : m < 2 ^ 40) : IntKind.i64.wrap m = m := by
  rw [IntWalk.i64_left]; unfold wrap64; omega
theorem or_sixteen {h d : Nat} (hh : h < 16) (hd : d < 16) : bits BinOp.or IntKind.i64 ((h : Int) * 16) (d : Int) = ((16 * h + d : Nat) : Int) := by
  rw [bits_join .i64 40 (by decide) (fun m h0 h1 => wrap_i64s m h0 h1) 4 _ _ (by omega) (by omega) (by omega) (by omega) (by omega) (by omega)]
  omega
theorem readData_in (s : ByteArray) (w : World) (hb : s.size ≤ 100000) : Calls Tryd.prog 35 #[.string s] w (DatAs s w) := by
  have hl := tx_len s
  by_cases hev : s.size % 2 = 0
  · have HE : Hid ((tx s).length % 2 = 0) := by show _ = _; rw [hl]; exact hev
    have hmod : (s.size : Int) % 2 = 0 := by omega
    have HB : Hid (s.size ≤ 100000) := hb
    obtain ⟨i8, E1, E2, E3, E4⟩ := info5
    have e1 : Hid (Tryd.prog.info? 5 = some i8) := E1
    have e2 : Hid (i8.zero = some (.int .u8 0)) := E2
    have e3 : Hid (i8.size = 1) := E3
    have e4 : Hid (i8.bytes = 1) := E4
    clear hev hl E1 E2 E3 E4
    go_enter Tryd.func35, Tryd.ntmps35
    go_wp2_with (fail)
    clear hmod
    go_loopw [4, 5] (fun x4 x5 wr => ∃ (pos hi : Nat) (odd : Bool) (out : List UInt8) (v : Value), v = x4 ∧ x5 = .int .i64 (hi : Int) ∧ Hid (HexSt s w wr pos hi odd v out)) (fun _ _ wr => s.size - wr.iterPos w.heap.size)
    case atStart => exact ⟨0, 0, false, [], _, rfl, rfl, ⟨by omega, World.iter_heap w s 0, (Fr.refl _ _).alloc _, OwnAt.nil _ _, by simp [Value.ownBlock], by rfl, by omega, by simp, by simp⟩⟩
    case round =>
      obtain ⟨pos, hi, odd, out, v, rfl, rfl, HS⟩ := hrel
      by_cases hlt : pos < s.size
      · have hit := HS.out.it
        have hnx : ∀ ty, (Instr.next (.pointer (some ⟨w.heap.size, 0, none⟩)) true ty).run Tryd.prog wr = _ := fun ty => Lib.run_next_any_at wr w.heap.size s pos ty hit hlt
        have HT : Hid ((tx s)[pos]? = some (s[pos]'hlt)) := tx_at s pos hlt
        obtain ⟨r, k, hrk, hd, hk⟩ := rune_digit s pos 16 hlt
        obtain ⟨c, hc⟩ : ∃ c, (s[pos]'hlt) = c := ⟨_, rfl⟩
        rw [hc] at HT hd hk
        rw [hrk] at hnx
        dsimp only at hnx
        have hit2 : Hid ((wr.iterAt w.heap.size s (pos + k)).heap[w.heap.size]? = some (.stringIter s (pos + k))) := Lib.iterAt_heap wr w.heap.size s pos (pos + k) hit
        have hf2 : Hid (Fr (fun _ => False) w (wr.iterAt w.heap.size s (pos + k))) := HS.out.fr.iterAt (Nat.le_refl _) s _
        have ho2 : Hid (OwnAt (wr.iterAt w.heap.size s (pos + k)) 5 v (bv out)) := by
          refine HS.out.own.fr (S := fun j => j = w.heap.size) (Fr.iterSelf wr w.heap.size s (pos + k)) (fun j hj e => ?_)
          obtain ⟨cur, hcur⟩ := own_tag HS.out.own j hj
          have e' : j = w.heap.size := e
          rw [e', hit] at hcur
          cases hcur
        generalize wr.iterAt w.heap.size s (pos + k) = W1 at hnx hit2 hf2 ho2
        clear hc hrk
        have K : Hid (∀ W, Calls Tryd.prog 36 #[.int .i32 (r : Int), .int .i64 16] W fun e w' => e = .returned (.int .i64 (dgI 16 c)) ∧ Fr (fun _ => False) W w') := fun W => by
          have := digit16_in (r : Int) W (by omega)
          rwa [hd] at this
        have HK : Hid (dg 16 c ≠ none → k = 1) := hk
        have hps : (pos : Int) % 2 = (if odd then 1 else 0) := by
          have := HS.out.par
          by_cases hp : pos % 2 = 1
          · rw [this]; simp [hp]; omega
          · rw [this]; simp [hp]; omega
        clear hd hk hit
        cases hdg : dg 16 c with
        | none =>
          have hI : dgI 16 c = -1 := by unfold dgI; rw [hdg]
          have HN : Hid (hexO (tx s) = none) := hexO_bad HT.out hdg
          rw [hI] at K
          clear hI hdg
          go_wp2_with (go_at_call 36; refine (K.out _).mono ?_; rintro e w' ⟨rfl, hf3⟩)
          go_ret2
          exact .inl ⟨HN.out, rfl, hf2.out.trans hf3⟩
        | some d =>
          have hI : dgI 16 c = (d : Int) := by unfold dgI; rw [hdg]
          have hd16 := (dg_low hdg).2
          have HD : Hid (dg 16 c = some d) := hdg
          have HK1 : Hid (k = 1) := HK.out (by rw [hdg]; simp)
          rw [hI] at K
          clear hI hdg
          cases odd with
          | false =>
            have hp0 : (pos : Int) % 2 = 0 := hps
            have HV := hex_even HT.out HS.out.val HD.out
            have HV2 : Hid (hexV ((tx s).take (pos + 1)) = some (out, d, true)) := HV
            clear HV hps
            go_wp2_with (go_at_call 36; refine (K.out _).mono ?_; rintro e w' ⟨rfl, hf3⟩)
            go_roundw
            case rel =>
              have e1 := HK1.out
              subst e1
              have hp2 := HS.out.len
              exact ⟨pos + 1, d, true, out, _, rfl, rfl, ⟨by omega, (hf3.block _ (lt_of_heap hit2.out) id).trans hit2.out, hf2.out.trans hf3, ho2.out.fr hf3 (fun _ _ => id), HS.out.new, HV2.out, hd16, by simp; omega, by omega⟩⟩
            case measure =>
              have e1 := HK1.out
              have e2 := (hf3.block _ (lt_of_heap hit2.out) id).trans hit2.out
              simp [World.iterPos, HS.out.it, e2]; omega
          | true =>
            have hp0 : (pos : Int) % 2 = 1 := hps
            have hh16 := HS.out.small
            have HV := hex_odd HT.out HS.out.val HD.out
            have HV2 : Hid (hexV ((tx s).take (pos + 1)) = some (out ++ [UInt8.ofNat (16 * hi + d)], hi, false)) := HV
            clear HV hps
            obtain ⟨y, hy⟩ : ∃ y, UInt8.ofNat (16 * hi + d) = y := ⟨_, rfl⟩
            rw [hy] at HV2
            have hor := or_sixteen hh16 hd16
            have hmd : ((16 * hi + d : Nat) : Int) % 256 = ((y.toNat : Nat) : Int) := by rw [← hy]; simp
            have HW1 : Hid (pos % 2 = 1 ∧ out.length = pos / 2) := ⟨by omega, HS.out.len⟩
            generalize 16 * hi + d = m at hor hmd
            clear hy hd16
            have HAP : Hid (∀ W, Fr (fun _ => False) W1 W → OwnAt W 5 v (bv out)) := fun W hf => ho2.out.fr hf (fun _ _ => id)
            go_wp2_with (first | (go_at_call 36; refine (K.out _).mono ?_; rintro e w' ⟨rfl, hf3⟩) | (refine wpList_append_bytes rfl (.tmp 29) (.tmp 35) 87 87 rfl 5 i8 Tryd.underlying87 Tryd.underlying87 e1.out e2.out e3.out e4.out v out (by go_simp) (HAP.out _ (hf3.alloc _)) (some ⟨w'.heap.size, 0, none⟩) 1 1 (by go_simp) [y] (src_one _ y) rfl (by have := HW1.out; have := HB.out; omega) ?_; intro a6 n6 c6 w6 N6 O6 F6 K6; have H6 : Hid (OwnAt w6 5 (.slice a6 n6 c6) (bv (out ++ [y]))) := O6; clear O6))
            obtain rfl := N6.out
            have HF6 : Hid (w6.heap[w.heap.size]? = some (.stringIter s (pos + k)) ∧ Fr (fun _ => False) w w6 ∧ ∀ j, (Value.slice a6 (out.length + 1) c6).ownBlock = some j → w.heap.size ≤ j) := by
              have hsz := hf2.out.size
              have hsz3 := hf3.size
              refine ⟨(F6.out.block _ (by simp; have := lt_of_heap hit2.out; omega) (fun e => ?_)).trans (past_at _ ((hf3.block _ (lt_of_heap hit2.out) id).trans hit2.out)), ?_, fun j hj => ?_⟩
              · obtain ⟨cur, hcur⟩ := own_tag (ho2.out) _ e
                rw [hit2.out] at hcur
                cases hcur
              · exact (hf2.out.trans (hf3.alloc _)).trans_own F6.out (fun j hj _ => HS.out.new j hj)
              · rcases K6.out with e | ⟨k', e, e2⟩
                · exact HS.out.new j (e ▸ hj)
                · rw [e] at hj
                  cases hj
                  simp at e2
                  omega
            go_roundw
            case rel =>
              have e1 := HK1.out
              subst e1
              have hp2 := HS.out.len
              exact ⟨pos + 1, hi, false, out ++ [y], _, rfl, rfl, ⟨by omega, HF6.out.1, HF6.out.2.1, H6.out, HF6.out.2.2, HV2.out, hh16, by have := HW1.out.1; simp; omega, by have := HW1.out; simp; omega⟩⟩
            case measure =>
              have e1 := HK1.out
              simp [World.iterPos, HS.out.it, HF6.out.1]; omega
      · have hit := HS.out.it
        have hnx : ∀ ty, (Instr.next (.pointer (some ⟨w.heap.size, 0, none⟩)) true ty).run Tryd.prog wr = .ok (.tuple #[.bool false]) wr := fun ty => Lib.run_next_end_at wr w.heap.size s pos ty hit hlt
        have HN : Hid (hexO (tx s) = some out) := hexO_end HE.out (by rw [tx_len]; omega) HS.out.val
        clear hit
        go_wp2
        go_ret2
        exact .inr ⟨out, _, HN.out, rfl, HS.out.own, HS.out.new, HS.out.fr⟩
  · have HN : Hid (hexO (tx s) = none) := hexO_odd (by rw [hl]; exact hev)
    have hmod : ¬ (s.size : Int) % 2 = 0 := by omega
    clear hev hl
    go_enter Tryd.func35, Tryd.ntmps35
    go_wp2_with (fail)
    go_ret2
    exact .inl ⟨HN.out, rfl, Fr.refl _ _⟩
end Go.Proofs.YtfehmlopndklcaaDoor
