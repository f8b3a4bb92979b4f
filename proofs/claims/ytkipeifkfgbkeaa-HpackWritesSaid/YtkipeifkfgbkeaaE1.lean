/- Contract of huff.Encode. -/
import Derived.Test.YtkipeifkfgbkeaaG1
namespace Go.Proofs.Ytkipeifkfgbkeaa
open Go.RowKit
set_option maxRecDepth 100000
set_option maxHeartbeats 4000000
set_option linter.unusedVariables false

/-- Where Encode stands: 'R' are the bits held. -/
structure ES (w0 wr : World) (X : List UInt8) (k : Nat) (held : Nat) (R : List Bool) (v : Value) (out : List UInt8) : Prop where
  g : Gath w0 wr v out
  h64 : held < 18446744073709551616
  hv : held % 2 ^ R.length = val R
  all : out ++ packs (padded (R ++ enc (X.drop k))) = encOut X

theorem gath_step {w0 w w' : World} {v v' : Value} {xs ys : List UInt8} (hown : Gath w0 w v xs) (hO : OwnAt w' 5 v' (bv ys)) (hf : Fr (fun k => v.ownBlock = some k) w w') (hk : v'.ownBlock = v.ownBlock ∨ ∃ k, v'.ownBlock = some k ∧ w.heap.size ≤ k) : Gath w0 w' v' ys := by
  have h1 : Fr (fun k => w0.heap.size ≤ k) w0 w' := (hown.2.2.mono (fun _ _ e => e.elim)).trans (hf.mono (fun k _ e => hown.2.1 k e))
  refine ⟨hO, fun k e => ?_, h1.mono (fun k hk e => by omega)⟩
  rcases hk with h1 | ⟨k', h1, h2⟩
  · exact hown.2.1 k (h1 ▸ e)
  · rw [h1] at e
    cases e
    have := hown.2.2.size
    omega
theorem wrap_i64 (m : Int) (h0 : 0 ≤ m) (h1 : m < 1000) : IntKind.i64.wrap m = m := by
  simp [IntKind.wrap, IntKind.signed, IntKind.bits]
  omega
theorem drop_cons_of {X : List UInt8} {k : Nat} {x : UInt8} (h : X[k]? = some x) : X.drop k = x :: X.drop (k + 1) := by
  obtain ⟨hk, rfl⟩ := List.getElem?_eq_some_iff.1 h
  exact List.drop_eq_getElem_cons hk
theorem held_next (held n wd : Nat) (R C : List Bool) (hn : n ≤ 30) (hR : R.length < 8) (hv : held % 2 ^ R.length = val R) (hC : C.length = n) (hw : val C = wd) (hlt : wd < 2 ^ n) :
    ∃ h2 : Nat, bits BinOp.or IntKind.u64 (IntKind.u64.wrap ((held : Int) * 2 ^ n)) (wd : Int) = (h2 : Int) ∧ h2 < 18446744073709551616 ∧ h2 % 2 ^ (R ++ C).length = val (R ++ C) := by
  obtain ⟨q, hq⟩ : ∃ q, q = held % 2 ^ (64 - n) := ⟨_, rfl⟩
  have hp : 2 ^ (64 - n) * 2 ^ n = 18446744073709551616 := by rw [← Nat.pow_add, show 64 - n + n = 64 by omega]
  have hpos : 0 < 2 ^ n := Nat.two_pow_pos n
  have hql : q < 2 ^ (64 - n) := by rw [hq]; exact Nat.mod_lt _ (Nat.two_pow_pos _)
  have hqn : (q + 1) * 2 ^ n ≤ 18446744073709551616 := by rw [← hp]; exact Nat.mul_le_mul_right _ hql
  have hqn2 : q * 2 ^ n + 2 ^ n ≤ 18446744073709551616 := by rw [Nat.add_mul] at hqn; omega
  have hmod : held * 2 ^ n % 18446744073709551616 = q * 2 ^ n := by rw [← hp, Nat.mul_mod_mul_right, hq]
  have hcast : ((held * 2 ^ n : Nat) : Int) = (held : Int) * 2 ^ n := by push_cast; rfl
  have hwrap : IntKind.u64.wrap ((held : Int) * 2 ^ n) = ((q * 2 ^ n : Nat) : Int) := by
    rw [← hcast, show IntKind.u64.wrap ((held * 2 ^ n : Nat) : Int) = ((held * 2 ^ n : Nat) : Int) % 18446744073709551616 from rfl, ← hmod]
    omega
  refine ⟨q * 2 ^ n + wd, ?_, by omega, ?_⟩
  · rw [hwrap, bits_join .u64 64 (by decide) (fun m h0 h1 => by
      rw [show IntKind.u64.wrap m = m % 18446744073709551616 from rfl]; exact Int.emod_eq_of_lt h0 h1) n _ _ (by omega) (by
        have : ((2 : Int) ^ n) = ((2 ^ n : Nat) : Int) := by push_cast; rfl
        rw [this, ← Int.natCast_emod, Nat.mul_mod_left]; rfl) (by omega) (by omega) (by
        have : ((2 : Int) ^ n) = ((2 ^ n : Nat) : Int) := by push_cast; rfl
        rw [this]; omega) (by have : (2 : Nat) ^ n ≤ 18446744073709551616 := by omega
                              omega)]
    push_cast
    rfl
  · rw [val_append, hw, hC, List.length_append, hC, ← hv, Nat.pow_add, Nat.mul_comm (2 ^ R.length) (2 ^ n), Nat.mod_mul]
    have h1 : (q * 2 ^ n + wd) % 2 ^ n = wd := by rw [Nat.add_comm, Nat.add_mul_mod_self_right, Nat.mod_eq_of_lt hlt]
    have h2 : (q * 2 ^ n + wd) / 2 ^ n = q := by rw [Nat.add_comm, Nat.add_mul_div_right _ _ hpos, Nat.div_eq_of_lt hlt]; omega
    have h3 : q % 2 ^ R.length = held % 2 ^ R.length := by rw [hq, Nat.mod_mod_of_dvd]; exact Nat.pow_dvd_pow 2 (by omega)
    rw [h1, h2, h3, Nat.add_comm, Nat.mul_comm]
/-- The next byte that goes out, and what is held then. -/
theorem held_out (held : Nat) (R : List Bool) (h8 : 8 ≤ R.length) (hv : held % 2 ^ R.length = val R) :
    held / 2 ^ (R.length - 8) % 256 = val (R.take 8) ∧ held % 2 ^ (R.drop 8).length = val (R.drop 8) := by
  have e : 2 ^ R.length = 2 ^ (R.length - 8) * 2 ^ 8 := by rw [← Nat.pow_add]; congr 1; omega
  have hd : (R.drop 8).length = R.length - 8 := by simp
  have h1 := val_take_drop R 8
  have h2 := val_lt (R.drop 8)
  rw [hd] at h2 ⊢
  rw [e, Nat.mod_mul, h1] at hv
  generalize 2 ^ (R.length - 8) = p at *
  have hp : 0 < p := by omega
  have h3 : held % p < p := Nat.mod_lt _ hp
  have h4 : (held / p % 2 ^ 8) = val (R.take 8) := by
    have a := congrArg (fun z => z / p) hv
    rw [Nat.add_mul_div_left _ _ hp, Nat.div_eq_of_lt h3, Nat.add_comm (val (R.take 8) * p), Nat.add_mul_div_right _ _ hp, Nat.div_eq_of_lt h2] at a
    omega
  refine ⟨by simpa using h4, ?_⟩
  rw [h4, Nat.mul_comm] at hv
  omega

theorem last_one (held v r q : Nat) (k : Nat) (hq : k = 2 ^ q) (h : held % 2 ^ r = v) (hr : 2 ^ r * k = 256) (hk : (255 : Int) / 2 ^ r = (k : Int) - 1) (hq8 : q < 8) :
    bits BinOp.or IntKind.u8 (IntKind.u8.wrap (IntKind.u64.wrap ((held : Int) * 2 ^ q))) (255 / 2 ^ r) = ((UInt8.ofNat (v * k + (k - 1))).toNat : Int) := by
  have hc : (held : Int) * 2 ^ q = ((held * k : Nat) : Int) := by rw [hq]; push_cast; rfl
  have hk1 : 1 ≤ k := by rw [hq]; exact Nat.two_pow_pos q
  have hvl : v < 2 ^ r := by rw [← h]; exact Nat.mod_lt _ (Nat.two_pow_pos r)
  have hvk : v * k + k ≤ 256 := by
    have := Nat.mul_le_mul_right k (Nat.succ_le_of_lt hvl)
    rw [hr, Nat.succ_mul] at this
    exact this
  have h256 : held * k % 256 = v * k := by rw [← hr, Nat.mul_mod_mul_right, h]
  have hw : IntKind.u8.wrap (IntKind.u64.wrap ((held * k : Nat) : Int)) = ((v * k : Nat) : Int) := by
    rw [show IntKind.u64.wrap ((held * k : Nat) : Int) = ((held * k : Nat) : Int) % 18446744073709551616 from rfl, show ∀ z, IntKind.u8.wrap z = z % 256 from fun _ => rfl, ← h256]
    omega
  rw [hc, hw, hk, bits_join .u8 8 (by decide) (fun m h0 h1 => by rw [show IntKind.u8.wrap m = m % 256 from rfl]; exact Int.emod_eq_of_lt h0 h1) q _ _ (by omega)
    (by rw [show (2 : Int) ^ q = ((k : Nat) : Int) by rw [hq]; push_cast; rfl, ← Int.natCast_emod, Nat.mul_mod_left]; rfl) (by omega) (by omega)
    (by rw [show (2 : Int) ^ q = ((k : Nat) : Int) by rw [hq]; push_cast; rfl]; omega) (by omega)]
  simp
  omega
theorem held_last (held : Nat) (R : List Bool) (r : Nat) (hr : r = R.length) (h0 : 0 < r) (h8 : r < 8) (hv : held % 2 ^ R.length = val R) :
    bits BinOp.or IntKind.u8 (IntKind.u8.wrap (IntKind.u64.wrap ((held : Int) * 2 ^ (8 - r)))) (255 / 2 ^ r) = ((UInt8.ofNat (val R * 2 ^ (8 - R.length) + (2 ^ (8 - R.length) - 1))).toNat : Int) := by
  rw [← hr] at hv ⊢
  have h : r = 1 ∨ r = 2 ∨ r = 3 ∨ r = 4 ∨ r = 5 ∨ r = 6 ∨ r = 7 := by omega
  rcases h with h | h | h | h | h | h | h <;> subst h <;> exact last_one held _ _ _ _ rfl hv (by decide) (by decide) (by decide)

theorem encode_any (a : Option Addr) (len cap : Nat) (w : World) (X : List UInt8) (hs : SrcAt w a X) (hl : X.length = len) (hm : len ≤ 1099511627776) :
    Calls Try.prog 54 #[.slice a len cap] w fun e w' => ∃ v, e = .returned v ∧ Gath w w' v (encOut X) := by
  obtain ⟨A, Z, hz, hcodes, hi, h1, hlen, hcell⟩ := opened
  have HI : Hid ((Try.prog.info? 97).map (·.size) = some A.toArray.size) := hi
  have H1 : Hid (A.toArray.all (·.oneCell') = true) := h1
  have HC : Hid (∀ w, Calls Try.prog 58 #[] w fun e w' => e = .returned (.agg A.toArray) ∧ Fr (fun _ => False) w w') := hcodes
  have HL : Hid (A.toArray.size ≤ Z.toArray.size) := hlen
  have HCE : Hid (∀ (w : World) n, w.rangeAt n 0 A → ∀ x : UInt8, w.cell? ⟨n, x.toNat * 2, none⟩ = some (.int .u32 ((codeOf x.toNat).1 : Int)) ∧ w.cell? ⟨n, x.toNat * 2 + 1, none⟩ = some (.int .i64 ((codeOf x.toNat).2 : Int))) := hcell
  have HS : Hid (SrcAt w a X) := hs
  obtain ⟨i, hi1, hi2, hi3, hi4⟩ := info5
  have J1 : Hid (Try.prog.info? 5 = some i) := hi1
  have J2 : Hid (i.zero = some (.int .u8 0)) := hi2
  have J3 : Hid (i.size = 1) := hi3
  have J4 : Hid (i.bytes = 1) := hi4
  have hsb := (sumBits_le X).2
  rw [hl] at hsb
  have HOL : Hid ((encOut X).length = (sumBits X + 7) / 8) := encOut_len X
  obtain ⟨N, hN⟩ : ∃ N, N = (sumBits X + 7) / 8 := ⟨_, rfl⟩
  have hN2 : N ≤ 140737488351232 := by omega
  have HN : Hid (N = (sumBits X + 7) / 8) := hN
  have hmk := make_room N hN2
  clear hs hi h1 hcodes hlen hcell hi1 hi2 hi3 hi4 hsb hN
  go_enter Try.func54, Try.ntmps54
  go_wp2_with (fail)
  refine (HC.out w).mono ?_
  rintro e w1 ⟨rfl, hf⟩
  have HT := laid_at w1 A Z HL.out
  have HF1 : Hid (Fr (fun _ => False) w w1) := hf
  clear hf
  obtain ⟨t1, t2, t3⟩ := HT
  have T2 : Hid (_ ∧ _) := ⟨t1, t2⟩
  have T3 : Hid ((w1.alloc (.cells Z.toArray 97)).there w1.heap.size 0 A.toArray.size) := t3
  clear t1 t2 t3
  go_wp2_with (refine wpList_store_mid rfl 97 (.tmp 3) (.tmp 9) rfl w1.heap.size 0 A.toArray rfl rfl T3.out HI.out H1.out ?_)
  generalize hW : (w1.alloc (Obj.cells Z.toArray 97)).setCells w1.heap.size 0 A = W2 at *
  have HF2 : Hid (Fr (fun _ => False) w W2) := HF1.out.trans T2.out.1
  have HR2 : Hid (W2.rangeAt w1.heap.size 0 A) := T2.out.2
  have HS2 : Hid (SrcAt W2 a X) := HS.out.oldF HF2.out
  clear T2 T3 hW HF1 HS hz HI H1 HC HL
  refine (length_any a len cap W2 X HS2.out hl (by omega)).mono ?_
  rw [← HN.out]
  rintro e W4 ⟨rfl, hf4⟩
  have HF4 : Hid (Fr (fun _ => False) w W4) := HF2.out.trans hf4
  have HR4 : Hid (W4.rangeAt w1.heap.size 0 A) := range_old HR2.out hf4
  have HS4 : Hid (SrcAt W4 a X) := HS2.out.oldF hf4
  clear hf4 HF2 HR2 HS2
  go_wp2_with (fail)
  have G0 : Hid (ES W4 (W4.alloc (Obj.cells (bv (List.replicate N 0)).toArray 5)) X 0 0 [] (.slice (some ⟨W4.heap.size, 0, none⟩) 0 N) []) :=
    ⟨Gath.room N hN2 (Fr.refl _ _), by omega, by simp [val_nil], rfl⟩
  go_loopw [4, 5, 6, 15] (fun v4 v5 v6 v15 wr => ∃ (k held no co : Nat) (ao : Option Addr) (R : List Bool) (out : List UInt8), k ≤ len ∧ v15 = .int .i64 k ∧ v4 = .slice ao no co ∧ v5 = .int .u64 held ∧ v6 = .int .i64 R.length ∧ R.length < 8 ∧ Hid (ES W4 wr X k held R (.slice ao no co) out)) (fun _ _ _ v15 _ => len - (intOf v15).toNat)
  case atStart => exact ⟨0, 0, 0, N, _, [], [], by omega, rfl, rfl, rfl, rfl, by decide, G0⟩
  case round =>
    rename World => wo
    obtain ⟨k, held, no, co, ao, R, out, hk, rfl, rfl, rfl, rfl, hR, HE⟩ := hrel
    by_cases hlt : k < len
    · have hci : (k : Int) < len := by omega
      obtain ⟨ad, x, rfl, hx, hc0⟩ := src_at HS4.out k (by omega)
      have hc : wo.cell? (ad.add k) = some (.int .u8 x.toNat) := by
        have := HE.out.g.2.2.cell (World.block_lt_of_cell? _ _ hc0) id
        rw [this]; exact hc0
      clear hc0
      have hR4 := range_old HR4.out HE.out.g.2.2
      obtain ⟨g0, g1⟩ := HCE.out wo _ hR4 x
      have hsz := code_size x.toNat (byte_le x)
      have hx7 : (x.toNat : Int) < 257 := by have := UInt8.toNat_lt x; omega
      have HCV : Hid (val (code x.toNat) = (codeOf x.toNat).1) := code_val' x.toNat (byte_le x)
      have HCL : Hid ((code x.toNat).length = (codeOf x.toNat).2) := code_len x.toNat
      obtain ⟨n, hn⟩ : ∃ n, n = (codeOf x.toNat).2 := ⟨_, rfl⟩
      obtain ⟨wd, hwd⟩ : ∃ wd, wd = (codeOf x.toNat).1 := ⟨_, rfl⟩
      rw [← hn] at hsz g1 HCL
      rw [← hwd] at hsz g0 HCV
      obtain ⟨r, hr⟩ : ∃ r, r = R.length := ⟨_, rfl⟩
      rw [← hr] at hR ⊢
      have HX : Hid (X[k]? = some x) := hx
      have HRr : Hid (r = R.length) := hr
      obtain ⟨hz1, hz2, hz3⟩ := hsz
      have HZ3 : Hid (wd < 2 ^ n) := hz3
      have hwd2 : wd < 4294967296 := Nat.lt_of_lt_of_le hz3 (Nat.le_trans (Nat.pow_le_pow_right (by omega) hz2) (by decide))
      clear hn hwd hr hx hz3 hR4
      obtain ⟨h2, hor, h264, h2v⟩ := held_next held n wd R (code x.toNat) hz2 (by have := HRr.out; omega) HE.out.hv HCL.out HCV.out HZ3.out
      have H64 := HE.out.h64
      have H2V : Hid (h2 % 2 ^ (R ++ code x.toNat).length = val (R ++ code x.toNat)) := h2v
      clear h2v
      go_wp2_with (fail)
      go_quiet (fail)
      go_wp2_with (fail)
      have E0 : Hid (ES W4 (wo.drewN nq) X (k + 1) h2 (R ++ code x.toNat) (.slice ao no co) out ∧ (R ++ code x.toNat).length = r + n) :=
        ⟨⟨HE.out.g.fr ((Fr.refl _ _).drewN _), h264, H2V.out, by
          rw [List.append_assoc, ← enc_cons, ← drop_cons_of HX.out]; exact HE.out.all⟩, by simp [HRr.out, HCL.out]⟩
      go_loopw [4, 6] (fun v4 v6 wr => ∃ (no co : Nat) (ao : Option Addr) (R2 : List Bool) (out : List UInt8), v4 = .slice ao no co ∧ v6 = .int .i64 R2.length ∧ R2.length < 64 ∧ Hid (ES W4 wr X (k + 1) h2 R2 (.slice ao no co) out)) (fun _ v6 _ => (intOf v6).toNat)
      case atStart => exact ⟨no, co, ao, R ++ code x.toNat, out, rfl, by rw [E0.out.2]; rfl, by rw [E0.out.2]; omega, E0.out.1⟩
      case round =>
        clear E0 HE H2V
        obtain ⟨no, co, ao, R2, out, rfl, rfl, hR2, HE⟩ := hrel
        obtain ⟨r2, hr2⟩ : ∃ r2, r2 = R2.length := ⟨_, rfl⟩
        rw [← hr2] at hR2 ⊢
        have HR2' : Hid (r2 = R2.length) := hr2
        clear hr2
        by_cases h8 : 8 ≤ r2
        · have h8i : (8 : Int) ≤ r2 := by omega
          have ho := held_out h2 R2 (by rw [← HR2'.out]; exact h8) HE.out.hv
          rw [← HR2'.out] at ho
          have hpk := padded_step R2 (enc (X.drop (k + 1))) (by rw [← HR2'.out]; exact h8)
          obtain ⟨c, hcc⟩ : ∃ c, c = UInt8.ofNat (val (R2.take 8)) := ⟨_, rfl⟩
          have hcn : h2 / 2 ^ (r2 - 8) % 256 = c.toNat := by
            rw [hcc, ho.1]
            have := val_lt (R2.take 8)
            rw [show (R2.take 8).length = 8 by simp; rw [← HR2'.out]; omega] at this
            simp
            omega
          have hbv : (h2 : Int) / 2 ^ (r2 - 8) % 256 = (c.toNat : Int) := by
            rw [← hcn, show (2 : Int) ^ (r2 - 8) = ((2 ^ (r2 - 8) : Nat) : Int) by push_cast; rfl]
            omega
          rw [← hcc] at hpk
          have HPK : Hid (packs (padded (R2 ++ enc (X.drop (k + 1)))) = c :: packs (padded (R2.drop 8 ++ enc (X.drop (k + 1))))) := hpk
          have HO2 : Hid (h2 % 2 ^ (R2.drop 8).length = val (R2.drop 8)) := ho.2
          have HG : Hid (Gath W4 (wr.alloc (.cells #[.int .u8 c.toNat] 5)) (.slice ao no co) out) := HE.out.g.fr ((Fr.refl _ _).alloc _)
          have HSO : Hid (SrcAt (wr.alloc (.cells #[.int .u8 c.toNat] 5)) (some ⟨wr.heap.size, 0, none⟩) [c]) := src_one wr c
          have HB : Hid (out.length + 1 ≤ 225179981368371) := by
            have h1 := congrArg List.length HE.out.all
            rw [HPK.out, HOL.out, ← HN.out] at h1
            simp at h1
            show _ ≤ _
            omega
          clear hcc hcn hpk ho
          go_wp2_with (at_builtin; refine wpList_gather rfl (.tmp 41) (.tmp 47) 35 35 rfl i Try.underlying35 Try.underlying35 J1.out J2.out J3.out J4.out (.slice ao no co) out (by go_simp) HG.out (some ⟨wr.heap.size, 0, none⟩) 1 1 (by go_simp) [c] HSO.out rfl HB.out ?_; intro a2 n2 c2 w2 Hn2 G2 Hf2)
          have HG2 : Hid (Gath W4 w2 (.slice a2 n2 c2) (out ++ [c])) := G2
          clear G2
          go_wp2_with (fail)
          go_roundw
          case rel =>
            refine ⟨n2, c2, a2, R2.drop 8, out ++ [c], rfl, ?_, ?_, ?_⟩
            · rw [List.length_drop, ← HR2'.out]; congr 1; omega
            · rw [List.length_drop, ← HR2'.out]; omega
            · refine ⟨HG2.out, h264, HO2.out, ?_⟩
              rw [List.append_assoc, List.singleton_append, ← HPK.out]
              exact HE.out.all
          case measure => simp [intOf]; omega
        · have h8i : ¬ (8 : Int) ≤ r2 := by omega
          go_wp2_with (fail)
          go_roundw
          case rel =>
            exact ⟨k + 1, h2, no, co, ao, R2, out, by omega, by go_num, rfl, rfl, by rw [HR2'.out], by have := HR2'.out; omega, HE⟩
          case measure => simp [intOf]; omega
    · obtain rfl : k = len := by omega
      have hci : ¬ (k : Int) < k := by omega
      have hdone := HE.out.all
      rw [← hl, List.drop_length, show enc ([] : List UInt8) = [] from rfl, List.append_nil] at hdone
      have HD : Hid (out ++ packs (padded R) = encOut X) := hdone
      obtain ⟨r, hr⟩ : ∃ r, r = R.length := ⟨_, rfl⟩
      rw [← hr] at hR ⊢
      have HRr : Hid (r = R.length) := hr
      clear hr hdone
      by_cases h0 : 0 < r
      · have h0i : (0 : Int) < r := by omega
        have H64 := HE.out.h64
        obtain ⟨q, hq⟩ : ∃ q, q = 8 - r := ⟨_, rfl⟩
        have hqw : IntKind.i64.wrap (8 - (r : Int)) = (q : Int) := by
          rw [show (8 - (r : Int)) = (q : Int) by omega]
          exact wrap_i64 _ (by omega) (by omega)
        have hlast := held_last held R r HRr.out h0 hR HE.out.hv
        have hpl := padded_last R (by rw [← HRr.out]; exact h0) (by rw [← HRr.out]; exact hR)
        obtain ⟨c, hcc⟩ : ∃ c, c = UInt8.ofNat (val R * 2 ^ (8 - R.length) + (2 ^ (8 - R.length) - 1)) := ⟨_, rfl⟩
        rw [← hcc] at hlast hpl
        have HPL : Hid (packs (padded R) = [c]) := hpl
        have HG : Hid (∀ n, OwnAt ((wo.drewN n).alloc (.cells #[.int .u8 c.toNat] 5)) 5 (.slice ao no co) (bv out)) := fun n => (HE.out.g.fr (((Fr.refl _ _).drewN n).alloc _)).1
        have HG1 : Hid (OwnAt (wo.drew.alloc (.cells #[.int .u8 c.toNat] 5)) 5 (.slice ao no co) (bv out)) := (HE.out.g.fr (((Fr.refl _ _).drew).alloc _)).1
        have HSO : Hid (SrcAt (wo.drew.alloc (.cells #[.int .u8 c.toNat] 5)) (some ⟨wo.heap.size, 0, none⟩) [c]) := src_one wo.drew c
        have HB : Hid (out.length + 1 ≤ 225179981368371) := by
          have h1 := congrArg List.length HD.out
          rw [HPL.out, HOL.out, ← HN.out] at h1
          simp at h1
          show _ ≤ _
          omega
        clear hcc hpl
        go_wp2_with (fail)
        go_region_law (refine step_append_bytes rfl (.tmp 52) (.tmp 61) 35 35 rfl 5 i Try.underlying35 Try.underlying35 J1.out J2.out J3.out J4.out (.slice ao no co) out (by go_simp) HG1.out (some ⟨wo.heap.size, 0, none⟩) 1 1 (by go_simp) [c] HSO.out rfl HB.out ?_; intro a4 n4 c4 w4 Hn4 hown4 hf4 hk4)
        have G4 := gath_step (HE.out.g.fr (((Fr.refl _ _).drew).alloc (.cells #[.int .u8 c.toNat] 5))) hown4 hf4.out hk4.out
        have HG4 : Hid (Gath W4 w4 (.slice a4 n4 c4) (out ++ [c])) := G4
        clear G4 hown4 hf4 hk4 Hn4
        go_wp2_with (fail)
        go_ret
        have hd := HD.out
        rw [HPL.out] at hd
        exact ⟨_, rfl, hd ▸ HG4.out.old HF4.out⟩
      · have h0i : ¬ (0 : Int) < r := by omega
        go_wp2_with (fail)
        go_ret
        have e : R = [] := List.eq_nil_of_length_eq_zero (by have := HRr.out; omega)
        have hd := HD.out
        rw [e, padded_nil, List.append_nil] at hd
        exact ⟨_, rfl, hd ▸ HE.out.g.old HF4.out⟩

end Go.Proofs.Ytkipeifkfgbkeaa
