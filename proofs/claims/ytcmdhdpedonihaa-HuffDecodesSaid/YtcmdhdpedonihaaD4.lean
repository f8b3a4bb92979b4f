/- Contract of huff.Decode. -/
import Derived.Test.YtcmdhdpedonihaaD2
import Derived.Test.YtcmdhdpedonihaaD3
import Derived.ScopeJumps
import Derived.WalkMore
namespace Go.Proofs.Ytcmdhdpedonihaa
open Go.RowKit
set_option maxRecDepth 100000
set_option maxHeartbeats 4000000
set_option linter.unusedVariables false

/-- What Decode answers, and leaves behind. -/
def DecPost (w : World) (len : Nat) (r : DR) (e : Ending) (w' : World) : Prop :=
  match r with
  | .inl Y => ∃ v, e = .returned (.tuple #[v, .int .i64 0, .int .i64 0]) ∧ Gath w w' v Y
  | .inr none => e = .returned (.tuple #[.slice none 0 0, .int .i64 len, .int .i64 30]) ∧ Fr (fun _ => False) w w'
  | .inr (some n) => e = .returned (.tuple #[.slice none 0 0, .int .i64 (n / 8 : Nat), .int .i64 31]) ∧ Fr (fun _ => False) w w'

/-- Where Decode's loop stands. -/
structure DL (w w1 wr : World) (ga : Nat) (v : Value) (out : List UInt8) (T : List Bool) (p : Nat) : Prop where
  own : OwnAt wr 5 v (bv out)
  new : ∀ k, v.ownBlock = some k → w1.heap.size ≤ k
  fr : Fr (fun k => k = ga) w1 wr
  all : (dec [] (T.drop p) p).pre out = dec [] T 0
  few : 5 * out.length ≤ p

theorem src_lt {w : World} {a : Option Addr} {X : List UInt8} (hs : SrcAt w a X) {ad : Addr} (e : a = some ad) (h0 : 0 < X.length) : ad.block < w.heap.size := by
  obtain ⟨ad', x, e', _, hc⟩ := src_at hs 0 h0
  rw [e] at e'
  cases e'
  have := World.block_lt_of_cell? _ _ hc
  rwa [add_block] at this
theorem ones_iff (T : List Bool) : T = List.replicate T.length true ↔ val T = 2 ^ T.length - 1 :=
  ⟨fun h => by rw [h, val_ones, List.length_replicate], fun h => val_inj _ _ (by simp) (by rw [h, val_ones])⟩
theorem padding_any (a : Option Addr) (len cap n : Nat) (w : World) (X : List UInt8) (hs : SrcAt w a X) (hl : X.length = len) (hm : len ≤ 140737488351232) (T' : List Bool) (p : Nat) (hT : T' = (stream X).drop p) (hp : p < 8 * len) (hn : n = 8 * len - p) :
    Calls Try.prog 9 #[.slice a len cap, .int .i64 n] w fun e w' => e = .returned (.bool (decide (n ≤ 7 ∧ T' = List.replicate n true))) ∧ w' = w := by
  have hTl : T'.length = n := by rw [hT, List.length_drop, stream_len, hl, hn]
  by_cases h8 : 8 ≤ n
  · refine (padding_long a len cap n w h8 (by omega)).mono ?_
    rintro e w' ⟨rfl, rfl⟩
    exact ⟨by congr 2; symm; simp; omega, rfl⟩
  · obtain ⟨ad, c, rfl, hx, hc⟩ := src_at hs (len - 1) (by omega)
    refine (padding_short ad len cap n w c (by omega) hm hc (by omega) (by omega)).mono ?_
    rintro e w' ⟨rfl, rfl⟩
    have h1 := last_bits X n c (by omega) (by rw [hl]; exact hx) (by omega)
    rw [hl, show 8 * len - n = p by omega, ← hT] at h1
    have h2 := ones_iff T'
    rw [hTl, h1] at h2
    refine ⟨?_, rfl⟩
    congr 2
    rw [decide_eq_decide, h2]
    exact ⟨fun h => ⟨by omega, h⟩, fun h => h.2⟩

/-- What holds at the label: the place and the error stand, and are the answer. -/
def AtLabel (w : World) (len : Nat) (r : DR) (a' : Act) (w' : World) : Prop :=
  ∃ (pl er : Int) (u0 u1 u2 u3 u4 u5 u7 u9 u10 u11 u12 u13 u14 u15 u16 u17 u18 u19 u20 u21 u22 u23 u24 u25 u26 u27 u28 u29 u30 u31 u32 u33 u34 u35 u36 u37 u38 u39 u40 u41 u42 u43 u44 u45 u46 u47 u48 u49 u50 u51 u52 : Value), a' = { tmps := #[u0, u1, u2, u3, u4, u5, .int .i64 er, u7, .int .i64 pl, u9, u10, u11, u12, u13, u14, u15, u16, u17, u18, u19, u20, u21, u22, u23, u24, u25, u26, u27, u28, u29, u30, u31, u32, u33, u34, u35, u36, u37, u38, u39, u40, u41, u42, u43, u44, u45, u46, u47, u48, u49, u50, u51, u52], defers := [] } ∧ DecPost w len r (.returned (.tuple #[.slice none 0 0, .int .i64 pl, .int .i64 er])) w'
theorem atLabel_mk {w : World} {len : Nat} {r : DR} {w' : World} {pl er : Int} (u0 u1 u2 u3 u4 u5 u7 u9 u10 u11 u12 u13 u14 u15 u16 u17 u18 u19 u20 u21 u22 u23 u24 u25 u26 u27 u28 u29 u30 u31 u32 u33 u34 u35 u36 u37 u38 u39 u40 u41 u42 u43 u44 u45 u46 u47 u48 u49 u50 u51 u52 : Value) (h : DecPost w len r (.returned (.tuple #[.slice none 0 0, .int .i64 pl, .int .i64 er])) w') : AtLabel w len r { tmps := #[u0, u1, u2, u3, u4, u5, .int .i64 er, u7, .int .i64 pl, u9, u10, u11, u12, u13, u14, u15, u16, u17, u18, u19, u20, u21, u22, u23, u24, u25, u26, u27, u28, u29, u30, u31, u32, u33, u34, u35, u36, u37, u38, u39, u40, u41, u42, u43, u44, u45, u46, u47, u48, u49, u50, u51, u52], defers := [] } w' :=
  ⟨pl, er, u0, u1, u2, u3, u4, u5, u7, u9, u10, u11, u12, u13, u14, u15, u16, u17, u18, u19, u20, u21, u22, u23, u24, u25, u26, u27, u28, u29, u30, u31, u32, u33, u34, u35, u36, u37, u38, u39, u40, u41, u42, u43, u44, u45, u46, u47, u48, u49, u50, u51, u52, rfl, h⟩

theorem decode_any (a : Option Addr) (len cap : Nat) (w : World) (X : List UInt8) (hs : SrcAt w a X) (hl : X.length = len) (hm : len ≤ 140737488351232) :
    Calls Try.prog 4 #[.slice a len cap] w fun e w' => DecPost w len (dec [] (stream X) 0) e w' := by
  obtain ⟨i, hi1, hi2, hi3, hi4⟩ := info5
  have J1 : Hid (Try.prog.info? 5 = some i) := hi1
  have J2 : Hid (i.zero = some (.int .u8 0)) := hi2
  have J3 : Hid (i.size = 1) := hi3
  have J4 : Hid (i.bytes = 1) := hi4
  have HS : Hid (SrcAt w a X) := hs
  have HSN : Hid (∀ ad, a = some ad → 0 < X.length → ad.block < w.heap.size) := fun ad e h0 => src_lt hs e h0
  obtain ⟨T, hT⟩ : ∃ T, T = stream X := ⟨_, rfl⟩
  rw [← hT]
  have HT : Hid (T = stream X) := hT
  have hTl : T.length = 8 * len := by rw [hT, stream_len, hl]
  have hmf : ∀ (fn : Fn) (first cap : Array Value) (w : World), (Instr.makeFunc fn first cap).run Try.prog w = .ok (.func fn first cap) w := fun _ _ _ _ => rfl
  clear hi1 hi2 hi3 hi4 hs hT
  go_enter Try.func4, Try.ntmps4
  go_wp2_with (fail)
  refine wp_scope_jumps 0 (AtLabel w len (dec [] T 0)) (fun _ _ => 0) rfl ?_ ?_
  · go_wp2_with (fail)
    refine (rows_any _).mono ?_
    rintro e w' ⟨rfl, rfl⟩
    go_wp2_with (fail)
    obtain ⟨w1, hw1⟩ : ∃ w1, w1 = ((w.alloc (Obj.cells #[Value.slice a len cap] 22)).alloc (Obj.cells #[Value.int IntKind.i64 0] 3)).alloc (Obj.cells (rowCells tbl).toArray 45) := ⟨_, rfl⟩
    have hf1 : Fr (fun _ => False) w w1 := by rw [hw1]; exact (((Fr.refl _ w).alloc _).alloc _).alloc _
    have hds : DS w1 w.heap.size (w.heap.size + 1) (w.heap.size + 1 + 1) a len cap X 0 := by
      rw [hw1]
      refine ⟨cell_of_heap (past_at _ (past_at _ (last_at _ rfl))) rfl, past_at _ (last_at _ (by simp)), last_at _ (by simp), HS.out.oldF ((((Fr.refl _ w).alloc _).alloc _).alloc _), by omega, by omega, ?_⟩
      intro ad e h0
      have := HSN.out ad e h0
      omega
    have hdl : DL w w1 w1 (w.heap.size + 1) (.slice none 0 0) [] T 0 := ⟨OwnAt.nil _ _, fun k hk => by simp [Value.ownBlock] at hk, Fr.refl _ _, by simp [DR.pre_nil], by simp⟩
    have hsz1 : w.heap.size + 1 + 1 < w1.heap.size := by rw [hw1]; simp
    rw [← hw1]
    have HF1 : Hid (Fr (fun _ => False) w w1) := hf1
    have H0 : Hid (_ ∧ _) := And.intro hds hdl
    clear hw1 hf1 hds hdl hmf HS
    go_loopg [5] (8 * len) (fun gk v5 wr => ∃ (p no co : Nat) (ao : Option Addr) (out : List UInt8), v5 = .slice ao no co ∧ Hid (gk + p = 8 * len ∧ DS wr w.heap.size (w.heap.size + 1) (w.heap.size + 1 + 1) a len cap X p ∧ DL w w1 wr (w.heap.size + 1) (.slice ao no co) out T p))
    case atStart => exact ⟨0, 0, 0, none, [], rfl, by omega, H0.out.1, H0.out.2⟩
    case round =>
      rename World => wo
      obtain ⟨p, no, co, ao, out, rfl, HJ⟩ := hrel
      have hgp := HJ.out.1
      have cb : wo.cell? ⟨w.heap.size, 0, none⟩ = some (.slice a len cap) := HJ.out.2.1.b
      have ca : wo.cell? ⟨w.heap.size + 1, 0, none⟩ = some (.int .i64 (p : Int)) := cell_of_heap HJ.out.2.1.at_ rfl
      have HTP : Hid ((T.drop p).length = 8 * len - p) := by show _ = _; rw [List.length_drop, hTl]
      have HOK : Hid (dec [] (T.drop p) p = .inl [] → DecPost w len (dec [] T 0) (.returned (.tuple #[.slice ao no co, .int .i64 0, .int .i64 0])) wo) := by
        intro h
        have h2 := HJ.out.2.2.all
        rw [h] at h2
        rw [← h2]
        simp only [DR.pre, List.append_nil, DecPost]
        exact ⟨_, rfl, HJ.out.2.2.own, fun k hk => Nat.le_trans HF1.out.size (HJ.out.2.2.new k hk), (HF1.out.mono (T := fun k => w.heap.size ≤ k) (fun _ _ e => e.elim)).trans (HJ.out.2.2.fr.mono (fun k _ e => by omega)) |>.old⟩
      have HFW : Hid (Fr (fun _ => False) w wo) := by
        have := (HF1.out.mono (T := fun k => w.heap.size ≤ k) (fun _ _ e => e.elim)).trans (HJ.out.2.2.fr.mono (fun k _ e => by omega))
        exact this.old
      by_cases hlt : p < 8 * len
      · have hci : (p : Int) < 8 * len := by omega
        obtain ⟨n, hn⟩ : ∃ n, n = 8 * len - p := ⟨_, rfl⟩
        have hni : 8 * (len : Int) - p = n := by omega
        have K1 := padding_any a len cap n wo X HJ.out.2.1.src hl hm (T.drop p) p (by rw [HT.out]) hlt hn
        by_cases hpad : n ≤ 7 ∧ T.drop p = List.replicate n true
        · rw [decide_eq_true hpad] at K1
          have HK1 : Hid (Calls _ _ _ _ _) := K1
          have HPD : Hid (n ≤ 7 ∧ T.drop p = List.replicate n true) := hpad
          clear K1 hpad hn
          go_wp2_with (fail)
          refine HK1.out.mono ?_
          rintro e w' ⟨rfl, rfl⟩
          go_wp2_with (fail)
          simp only [Exit.jump]
          go_ret3
          exact HOK.out (by rw [HPD.out.2, dec_ones n p (by have := HPD.out.1; omega), if_pos HPD.out.1])
        · rw [decide_eq_false hpad] at K1
          have HK1 : Hid (Calls _ _ _ _ _) := K1
          have HPD : Hid (¬ (n ≤ 7 ∧ T.drop p = List.replicate n true)) := hpad
          have HN : Hid (n = 8 * len - p) := hn
          clear K1 hpad hn
          go_wp2_with (fail)
          refine HK1.out.mono ?_
          rintro e w' ⟨rfl, rfl⟩
          go_wp2_with (fail)
          refine (symbol_any _ _ _ a len cap p X _ HJ.out.2.1 hl hm (by omega) (T.drop p) (by rw [HT.out])).mono ?_
          rintro e w2 ⟨p', hd2, hf2, h⟩
          have HFW2 : Hid (Fr (fun _ => False) w w2) := Fr.old (((HFW.out.mono (T := fun k => w.heap.size ≤ k) (fun _ _ e => e.elim))).trans (hf2.mono (fun k _ e => by omega)))
          have cb2 : w2.cell? ⟨w.heap.size, 0, none⟩ = some (.slice a len cap) := hd2.b
          have ca2 : w2.cell? ⟨w.heap.size + 1, 0, none⟩ = some (.int .i64 (p' : Int)) := cell_of_heap hd2.at_ rfl
          have HD2 : Hid (DS w2 w.heap.size (w.heap.size + 1) (w.heap.size + 1 + 1) a len cap X p') := hd2
          have HF2 : Hid (Fr (fun k => k = w.heap.size + 1) _ w2) := hf2
          clear hd2 hf2
          rcases h with ⟨rfl, hno⟩ | ⟨s, hs, rfl, hp', hsl, hsv⟩
          · have hdec : dec [] T 0 = .inr none := by
              rw [← HJ.out.2.2.all, dec_none _ _ (fun k h0 hk => noCode_find hno k hk), if_neg (by
                intro h
                apply HPD.out
                rw [HTP.out, ← HN.out] at h
                exact h)]
              rfl
            have HPO : Hid (DecPost w len (dec [] T 0) (.returned (.tuple #[.slice none 0 0, .int .i64 (len : Int), .int .i64 30])) w2) := by
              show DecPost _ _ _ _ _
              rw [hdec]
              exact ⟨rfl, HFW2.out⟩
            clear hdec hno
            go_wp2_with (fail)
            go_step3
            simp only [Exit.then, Exit.inBlock, Exit.jump]
            refine ⟨trivial, ?_⟩
            apply atLabel_mk
            exact HPO.out
          · by_cases h256 : s = 256
            · subst h256
              rw [code_end'] at hp' hsl hsv
              have hsl2 : 30 ≤ (T.drop p).length := hsl
              have hp2 : p' = p + 30 := hp'
              have hdec : dec [] T 0 = .inr (some (p + 30 - 1)) := by
                have hc := code_at (T := T.drop p) (s := 256) (by omega) (by rw [code_end']; exact hsl) (by rw [code_end']; exact hsv)
                rw [← HJ.out.2.2.all, hc, dec_code 256 (by omega), if_pos rfl, code_end']
                rfl
              obtain ⟨pl, hpl⟩ : ∃ pl, pl = (p' - 1) / 8 := ⟨_, rfl⟩
              have hpi : ((p' : Int) - 1) / 8 = (pl : Int) := by omega
              have HPI : Hid (((p' : Int) - 1) / 8 = (pl : Int)) := hpi
              have HPO : Hid (DecPost w len (dec [] T 0) (.returned (.tuple #[.slice none 0 0, .int .i64 (pl : Int), .int .i64 31])) w2) := by
                show DecPost _ _ _ _ _
                rw [hdec, hpl, hp2]
                exact ⟨rfl, HFW2.out⟩
              have hp'1 : 1 ≤ p' := by omega
              have hp'2 : p' ≤ 1125899906809886 := by rw [HTP.out] at hsl2; omega
              clear hdec hsl hsv hp' hpl hp2 hsl2 hpi
              go_wp2_with (fail)
              go_step3
              simp only [Exit.then, Exit.inBlock, Exit.jump]
              refine ⟨trivial, ?_⟩
              apply atLabel_mk
              have hpo := HPO.out
              rw [← HPI.out] at hpo
              exact hpo
            · have h256i : ¬ (s : Int) = 256 := by omega
              obtain ⟨c, hc⟩ : ∃ c, c = UInt8.ofNat s := ⟨_, rfl⟩
              have hcs : c.toNat = s := by rw [hc]; simp; omega
              have hsmod : (s : Int) % 256 = (c.toNat : Int) := by omega
              have hca := code_at hs hsl hsv
              have h5 := (code_size s hs).1
              have hall : (dec [] (T.drop p') p').pre (out ++ [c]) = dec [] T 0 := by
                rw [← HJ.out.2.2.all, hca, dec_code s hs, if_neg h256, DR.pre_pre, ← hc, List.drop_drop, hp']
              rw [HTP.out] at hsl
              have HG : Hid (OwnAt (w2.alloc (.cells #[.int .u8 (s : Int)] 5)) 5 (.slice ao no co) (bv out)) := by
                show OwnAt _ _ _ _
                have h1 : ∀ k, (Value.slice ao no co).ownBlock = some k → ¬ k = w.heap.size + 1 := fun k hk e => by
                  have := HJ.out.2.2.new k hk
                  omega
                exact ((HJ.out.2.2.own.fr HF2.out h1)).fr ((Fr.refl (fun _ => False) _).alloc _) (fun _ _ => id)
              have hso := src_one w2 c
              rw [hcs] at hso
              have HSO : Hid (SrcAt (w2.alloc (.cells #[.int .u8 (s : Int)] 5)) (some ⟨w2.heap.size, 0, none⟩) [c]) := hso
              have hfew := HJ.out.2.2.few
              have HB : Hid (out.length + 1 ≤ 225179981368371) := by show _ ≤ _; omega
              have hp8 : p' ≤ 8 * len := by omega
              have hlt' : p < p' := by omega
              have hfew2 : 5 * (out ++ [c]).length ≤ p' := by simp; omega
              have HALL : Hid ((dec [] (T.drop p') p').pre (out ++ [c]) = dec [] T 0 ∧ 5 * (out ++ [c]).length ≤ p') := ⟨hall, hfew2⟩
              clear hc hcs hca hall hfew2 hp' hsl hsv h5 hso hsmod
              go_wp2_with (at_builtin; refine wpList_append_bytes rfl (.tmp 45) (.tmp 48) 22 22 rfl 5 i Try.underlying22 Try.underlying22 J1.out J2.out J3.out J4.out (.slice ao no co) out (by go_simp) HG.out (some ⟨w2.heap.size, 0, none⟩) 1 1 (by go_simp) [c] HSO.out rfl HB.out ?_; intro a4 n4 c4 w4 Hn4 hown4 hf4 hk4)
              have HDL : Hid (DS w4 w.heap.size (w.heap.size + 1) (w.heap.size + 1 + 1) a len cap X p' ∧ DL w w1 w4 (w.heap.size + 1) (.slice a4 n4 c4) (out ++ [c]) T p') := by
                have hf := hf4.out
                have hk := hk4.out
                have hsz2 := HF2.out.size
                have hnw : ∀ k, (Value.slice ao no co).ownBlock = some k → w1.heap.size ≤ k := HJ.out.2.2.new
                have hszo := HJ.out.2.2.fr.size
                have hfa : Fr (fun k => (Value.slice ao no co).ownBlock = some k) w2 w4 := ((Fr.refl _ _).alloc _).trans hf
                have hd2 := HD2.out
                have hsrc : ∀ ad, a = some ad → 0 < X.length → ad.block < w.heap.size := HSN.out
                refine ⟨⟨?_, ?_, ?_, hd2.src.fr hfa (fun ad e h0 h => ?_), hd2.ne⟩, hown4, ?_, ?_, HALL.out.1, HALL.out.2⟩
                · rw [hfa.cell (World.block_lt_of_cell? _ _ hd2.b) (fun e => by have h9 : w1.heap.size ≤ w.heap.size := hnw _ e; omega)]; exact hd2.b
                · rw [hfa.block _ (lt_of_heap hd2.at_) (fun e => by have := hnw _ e; omega)]; exact hd2.at_
                · rw [hfa.block _ (lt_of_heap hd2.r) (fun e => by have := hnw _ e; omega)]; exact hd2.r
                · have h1 := hnw _ h
                  have h2 := hsrc ad e h0
                  omega
                · intro k e
                  rcases hk with h1 | ⟨k', h1, h2⟩
                  · exact hnw k (h1 ▸ e)
                  · rw [h1] at e
                    cases e
                    simp at h2
                    omega
                · have h1 : Fr (fun k => k = w.heap.size + 1 ∨ w1.heap.size ≤ k) w1 w4 := ((HJ.out.2.2.fr.trans HF2.out).mono (fun k _ e => .inl e)).trans (hfa.mono (fun k _ e => .inr (hnw k e)))
                  exact h1.mono (fun k hk e => by rcases e with e | e; exact e; omega)
              clear hown4 hf4 hk4
              go_wp2_with (fail)
              go_roundg (8 * len - p')
              case measure => omega
              case rel => exact ⟨p', n4, c4, a4, out ++ [c], rfl, by omega, HDL.out.1, HDL.out.2⟩
      · have hci : ¬ (p : Int) < 8 * len := by omega
        go_wp2_with (fail)
        simp only [Exit.jump]
        go_ret3
        exact HOK.out (by rw [List.drop_eq_nil_of_le (by omega)]; rfl)
  · rintro a' w' ⟨pl, er, u0, u1, u2, u3, u4, u5, u7, u9, u10, u11, u12, u13, u14, u15, u16, u17, u18, u19, u20, u21, u22, u23, u24, u25, u26, u27, u28, u29, u30, u31, u32, u33, u34, u35, u36, u37, u38, u39, u40, u41, u42, u43, u44, u45, u46, u47, u48, u49, u50, u51, u52, rfl, hpost⟩
    have HP : Hid (DecPost w len (dec [] T 0) (.returned (.tuple #[.slice none 0 0, .int .i64 pl, .int .i64 er])) w') := hpost
    clear hpost
    go_wp2_with (fail)
    try go_step3
    go_wp2_with (fail)
    try simp only [Exit.jump]
    go_ret3
    exact HP.out

end Go.Proofs.Ytcmdhdpedonihaa
