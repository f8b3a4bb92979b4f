/- Contract of huff.symbol. -/
import Derived.Test.YtcmdhdpedonihaaD1
import Derived.Test.YtcmdhdpedonihaaP2
namespace Go.Proofs.Ytcmdhdpedonihaa
open Go.RowKit
set_option maxRecDepth 100000
set_option maxHeartbeats 4000000
set_option linter.unusedVariables false

/-- What Decode's variables are in memory: the bytes X, and that 'p' bits are taken; the rows. -/
structure DS (w : World) (gb ga gr : Nat) (a : Option Addr) (len cap : Nat) (X : List UInt8) (p : Nat) : Prop where
  b : w.cell? ⟨gb, 0, none⟩ = some (.slice a len cap)
  at_ : w.heap[ga]? = some (.cells #[.int .i64 (p : Int)] 3 (0, 0))
  r : w.heap[gr]? = some (.cells (rowCells tbl).toArray 45 (0, 0))
  src : SrcAt w a X
  ne : gb ≠ ga ∧ gr ≠ ga ∧ ∀ ad, a = some ad → 0 < X.length → ad.block ≠ ga

theorem DS.fr {w w' : World} {gb ga gr : Nat} {a : Option Addr} {len cap : Nat} {X : List UInt8} {p p' : Nat} (h : DS w gb ga gr a len cap X p) (hf : Fr (fun k => k = ga) w w') (hp : w'.heap[ga]? = some (.cells #[.int .i64 (p' : Int)] 3 (0, 0))) : DS w' gb ga gr a len cap X p' :=
  ⟨by rw [hf.cell (World.block_lt_of_cell? _ _ h.b) h.ne.1]; exact h.b, hp, by rw [hf.block gr (lt_of_heap h.r) h.ne.2.1]; exact h.r, h.src.fr hf (fun ad e h0 => h.ne.2.2 ad e h0), h.ne⟩
theorem DS.alloc {w : World} {gb ga gr : Nat} {a : Option Addr} {len cap : Nat} {X : List UInt8} {p : Nat} (h : DS w gb ga gr a len cap X p) (o : Obj) : DS (w.alloc o) gb ga gr a len cap X p :=
  h.fr ((Fr.refl _ _).alloc o) (past_at _ h.at_)
theorem or_more (x n more : Nat) (hx : x < 1073741824) (hn : n ≤ 5) (hm : more < 2 ^ n) : bits BinOp.or IntKind.i64 ((x : Int) * 2 ^ n) (more : Int) = ((x * 2 ^ n + more : Nat) : Int) := by
  have hp : 2 ^ n ≤ 32 := by
    have := Nat.pow_le_pow_right (n := 2) (by omega) hn
    simpa using this
  have hxx : x * 2 ^ n ≤ 1073741824 * 32 := Nat.mul_le_mul (by omega) hp
  have e : (x : Int) * 2 ^ n = ((x * 2 ^ n : Nat) : Int) := by push_cast; rfl
  have e2 : (2 : Int) ^ n = ((2 ^ n : Nat) : Int) := by push_cast; rfl
  rw [e, bits_join .i64 40 (by decide) (fun m h0 h1 => wrap_i64s m h0 h1) n _ _ (by omega) (by rw [e2, ← Int.natCast_emod, Nat.mul_mod_left]; rfl) (by omega) (by omega) (by rw [e2]; omega) (by omega)]
  omega

theorem symbol_any (gb ga gr : Nat) (a : Option Addr) (len cap p : Nat) (X : List UInt8) (w : World) (hd : DS w gb ga gr a len cap X p) (hX : X.length = len) (hl : len ≤ 140737488351232) (hp : p ≤ 8 * len) (T : List Bool) (hT : T = (stream X).drop p) :
    Calls Try.prog 10 #[.slice (some ⟨gr, 0, none⟩) 21 21, .func (.func 7) #[] #[.pointer (some ⟨gb, 0, none⟩), .pointer (some ⟨ga, 0, none⟩)]] w fun e w' =>
      ∃ p', DS w' gb ga gr a len cap X p' ∧ Fr (fun k => k = ga) w w' ∧ ((e = .returned (.tuple #[.int .i64 0, .bool false]) ∧ NoCode T) ∨
        ∃ s : Nat, s ≤ 256 ∧ e = .returned (.tuple #[.int .i64 s, .bool true]) ∧ p' = p + (codeOf s).2 ∧ (codeOf s).2 ≤ T.length ∧ val (T.take (codeOf s).2) = (codeOf s).1) := by
  have HD0 : Hid (DS w gb ga gr a len cap X p) := hd
  have hTl : T.length = 8 * len - p := by rw [hT, List.length_drop, stream_len, hX]
  have HT : Hid (T = (stream X).drop p) := hT
  clear hd hT
  go_enter Try.func10, Try.ntmps10
  go_wp2_with (fail)
  go_loopw [6, 7, 14] (fun v6 v7 v14 wr => ∃ (i above : Nat), i ≤ 21 ∧ v14 = .int .i64 i ∧ v6 = .int .i64 above ∧ v7 = .int .i64 (stAt i).2.2 ∧ Hid (above + (stAt i).2.1 = val (T.take (stAt i).2.2) ∧ (stAt i).2.2 ≤ T.length ∧ DS wr gb ga gr a len cap X (p + (stAt i).2.2) ∧ Fr (fun k => k = ga) w wr ∧ NotYet T i)) (fun _ _ v14 _ => 21 - (intOf v14).toNat)
  case atStart => exact ⟨0, 0, by omega, rfl, rfl, rfl, rfl, Nat.zero_le _, HD0.out, Fr.refl _ _, fun k b l h => by omega⟩
  case round =>
    rename World => wo
    obtain ⟨i, above, hi, rfl, rfl, rfl, HJ⟩ := hrel
    by_cases hlt : i < 21
    · have hci : (i : Int) < 21 := by omega
      obtain ⟨⟨b, l⟩, hr, f1, f2, f3, f4, f5, f6, f7⟩ := row_facts i hlt
      have hnx := stAt_next i b l hr
      have hcr := rowCells_get tbl i _ hr
      have c0 : wo.cell? ⟨gr, i * 2, none⟩ = some (.int .i64 (b : Int)) := cell_of_heap HJ.out.2.2.1.r (by simpa using hcr.1)
      have c1 : wo.cell? ⟨gr, i * 2 + 1, none⟩ = some (str8 l) := cell_of_heap HJ.out.2.2.1.r (by simpa using hcr.2)
      have HPL : Hid (∀ j s, l[j]? = some s → codeOf s = ((stAt i).2.1 * 2 ^ (b - (stAt i).2.2) + j, b)) := fun j s hj => placeT i j s b l hr hj
      have HJ5 := HJ.out.2.2.2.2
      have HRW : Hid (tbl[i]? = some (b, l)) := hr
      have HNX : Hid ((stAt (i + 1)).2 = ((stAt i).2.1 * 2 ^ (b - (stAt i).2.2) + l.length, b)) := hnx
      have HNY : Hid (NotYet T i) := HJ5
      obtain ⟨j1, j2, j3, j4, -⟩ := HJ.out
      clear HJ HJ5 hcr hr hnx
      generalize hwd : (stAt i).2.1 = wd at *
      generalize hbt : (stAt i).2.2 = bt at *
      have HWB : Hid ((stAt i).2 = (wd, bt)) := by
        show _ = _
        rw [← hwd, ← hbt]
      have HDS : Hid (DS wo gb ga gr a len cap X (p + bt)) := j3
      have HFR : Hid (Fr (fun k => k = ga) w wo) := j4
      have HAB : Hid (above + wd = val (T.take bt)) := j1
      obtain ⟨S, hS⟩ : ∃ S : ByteArray, S = ⟨(u8s l).toArray⟩ := ⟨_, rfl⟩
      rw [show str8 l = .string S from by rw [hS]; rfl] at c1
      have hSs : S.size = l.length := by rw [hS]; simp [ByteArray.size, u8s]
      have HS : Hid (S = ⟨(u8s l).toArray⟩) := hS
      have HF7 : Hid (∀ s ∈ l, s < 256) := f7
      have hab : above < 1073741824 := by
        have h1 := val_lt (T.take bt)
        rw [← j1] at h1
        have h2 : (T.take bt).length ≤ 30 := by simp; omega
        have h3 := Nat.pow_le_pow_right (n := 2) (by omega) h2
        rw [show (2 : Nat) ^ 30 = 1073741824 from rfl] at h3
        omega
      clear j1 j3 j4 hS f7 hwd hbt f4
      obtain ⟨d, hd⟩ : ∃ d, d = b - bt := ⟨_, rfl⟩
      have hdb : (b : Int) - bt = (d : Int) := by omega
      have HD : Hid (d = b - bt) := hd
      have HA : Hid (DS (wo.alloc (.cells #[.int .i64 (b : Int), .string S] 45)) gb ga gr a len cap X (p + bt)) := HDS.out.alloc _
      have hd5 : d ≤ 5 := by omega
      clear hd
      by_cases hfew : T.length < b
      · go_wp2_with (fail)
        refine (take_few gb ga a len cap (p + bt) d _ HA.out.b (cell_of_heap HA.out.at_ rfl) hl (by omega) (by have := HD.out; omega) (by omega)).mono ?_
        rintro e w2 ⟨rfl, rfl⟩
        go_wp2_with (fail)
        go_ret2
        exact ⟨p + bt, HA.out, HFR.out.alloc _, .inl ⟨rfl, notYet_few HNY.out HRW.out f3 hfew⟩⟩
      · go_wp2_with (fail)
        refine (take_ok gb ga a len cap (p + bt) d _ X HA.out.b HA.out.at_ HA.out.ne.1 HA.out.src HA.out.ne.2.2 hX hl (by have := HD.out; omega) (by omega)).mono ?_
        obtain ⟨mo, hmo⟩ : ∃ mo, mo = val (((stream X).drop (p + bt)).take d) := ⟨_, rfl⟩
        rw [← hmo]
        rintro e w2 ⟨rfl, hga2, hf2⟩
        have hd2 : DS w2 gb ga gr a len cap X (p + bt + d) := HA.out.fr hf2 hga2
        have hgl : ga < wo.heap.size := lt_of_heap HDS.out.at_
        have r0 : w2.cell? ⟨wo.heap.size, 0, none⟩ = some (.int .i64 (b : Int)) := by
          rw [hf2.cell (by simp) (by simp; omega)]; exact cell_of_heap (last_at _ rfl) rfl
        have r1 : w2.cell? ⟨wo.heap.size, 1, none⟩ = some (.string S) := by
          rw [hf2.cell (by simp) (by simp; omega)]; exact cell_of_heap (last_at _ rfl) rfl
        have hmo2 : mo < 2 ^ d := by
          rw [hmo]
          refine Nat.lt_of_lt_of_le (val_lt _) (Nat.pow_le_pow_right (by omega) (by simp; omega))
        have hor := or_more above d mo hab hd5 hmo2
        have hp32 : 2 ^ d ≤ 32 := by
          have := Nat.pow_le_pow_right (n := 2) (by omega) hd5
          simpa using this
        have hxx : above * 2 ^ d ≤ 1073741824 * 32 := Nat.mul_le_mul (by omega) hp32
        have hwr : IntKind.i64.wrap ((above : Int) * 2 ^ d) = (above : Int) * 2 ^ d := by
          have e : (above : Int) * 2 ^ d = ((above * 2 ^ d : Nat) : Int) := by push_cast; rfl
          rw [e]
          exact wrap_i64s _ (by omega) (by omega)
        obtain ⟨ab2, hab2⟩ : ∃ ab2, ab2 = above * 2 ^ d + mo := ⟨_, rfl⟩
        rw [← hab2] at hor
        have hb2 : ab2 ≤ 34359738400 := by omega
        have HV : Hid (ab2 + wd * 2 ^ d = val (T.take b)) := by
          show _ = _
          rw [show b = bt + d by have := HD.out; omega, List.take_add, val_append, ← HAB.out, hab2, hmo, HT.out, List.drop_drop]
          have hlen : (((stream X).drop (p + bt)).take d).length = d := by
            rw [List.length_take, List.length_drop, stream_len]
            have := HD.out
            omega
          rw [hlen, Nat.add_mul]
          omega
        have HDS2 : Hid (DS w2 gb ga gr a len cap X (p + bt + d)) := hd2
        have HF2 : Hid (Fr (fun k => k = ga) w w2) := (HFR.out.alloc _).trans hf2
        clear hmo hga2 hf2 hd2 hgl hmo2 hp32 hxx hab2
        by_cases hhit : ab2 < l.length
        · have hhi : (ab2 : Int) < (l.length : Int) := by omega
          obtain ⟨s, hs⟩ : ∃ s, l[ab2]? = some s := ⟨_, List.getElem?_eq_getElem hhit⟩
          have hjS : ab2 < S.size := by omega
          obtain ⟨x, hx⟩ : ∃ x : UInt8, S[ab2]'hjS = x := ⟨_, rfl⟩
          have hs256 : s < 256 := HF7.out s (List.mem_of_getElem? hs)
          have hxs : x.toNat = s := by
            have h1 : S.data.toList[ab2]? = some x := by rw [← hx]; exact Lib.data_getElem? S ab2 hjS
            rw [HS.out] at h1
            simp [u8s, hs] at h1
            rw [← h1]; simp; omega
          have HXS : Hid (x.toNat = s ∧ l[ab2]? = some s ∧ s < 256) := ⟨hxs, hs, hs256⟩
          have hxb : x.toNat < 256 := UInt8.toNat_lt x
          clear hxs hs hs256
          go_wp2_with (fail)
          go_ret2
          obtain ⟨g1, g2, g3⟩ := HXS.out
          have hc := HPL.out ab2 s g2
          have hd := HD.out
          have hv := HV.out
          rw [← hd] at hc
          refine ⟨p + bt + d, HDS2.out, HF2.out, .inr ⟨s, by omega, by rw [← g1]; rfl, ?_, ?_, ?_⟩⟩
          · rw [hc]; show _ = p + b; omega
          · rw [hc]; show b ≤ _; omega
          · rw [hc]; show val (T.take b) = _; omega
        · have hhi : ¬ (ab2 : Int) < (l.length : Int) := by omega
          go_wp2_with (fail)
          go_roundw
          case rel =>
            have hd := HD.out
            have hv := HV.out
            have hnx := HNX.out
            rw [← hd] at hnx
            refine ⟨i + 1, ab2 - l.length, by omega, by go_num, ?_, ?_, ?_⟩
            · congr 1; omega
            · rw [hnx]
            · rw [hnx]
              refine ⟨?_, ?_, ?_, HF2.out, ?_⟩
              · show ab2 - l.length + (wd * 2 ^ d + l.length) = val (T.take b); omega
              · show b ≤ _; omega
              · show DS w2 gb ga gr a len cap X (p + b)
                rw [show p + b = p + bt + d by omega]; exact HDS2.out
              · intro k b' l' hk hb'
                by_cases hki : k = i
                · subst hki
                  rw [HRW.out] at hb'
                  cases hb'
                  rw [HWB.out]
                  show wd * 2 ^ (b - bt) + l.length ≤ _
                  rw [← hd]
                  omega
                · exact HNY.out k b' l' (by omega) hb'
          case measure => simp [intOf]; omega
    · obtain rfl : i = 21 := by omega
      have hci : ¬ ((21 : Nat) : Int) < 21 := by omega
      have he := stAt_end
      rw [he] at HJ
      rw [show (stAt 21).2.2 = 30 by rw [he]]
      have HJ2 : Hid (above + 1073741823 = val (T.take 30) ∧ 30 ≤ T.length ∧ DS wo gb ga gr a len cap X (p + 30) ∧ Fr (fun k => k = ga) w wo) := ⟨HJ.out.1, HJ.out.2.1, HJ.out.2.2.1, HJ.out.2.2.2.1⟩
      clear HJ he
      go_wp2_with (fail)
      go_ret2
      obtain ⟨j1, j2, j3, j4⟩ := HJ2.out
      refine ⟨p + 30, j3, j4, .inr ⟨256, by omega, rfl, ?_, ?_, ?_⟩⟩
      · rw [code_end']
      · rw [code_end']; show 30 ≤ _; omega
      · rw [code_end']
        show val (T.take 30) = 1073741823
        have h1 := val_lt (T.take 30)
        have h2 : (T.take 30).length = 30 := by rw [List.length_take]; omega
        rw [h2, show (2 : Nat) ^ 30 = 1073741824 from rfl] at h1
        omega

end Go.Proofs.Ytcmdhdpedonihaa
