/- Contract of the program's Split. -/
import Derived.Test.YtdndhidinbmpdaaBt
namespace Go.Proofs.Ytdndhidinbmpdaa
open Go.RowKit
set_option linter.unusedVariables false
set_option maxRecDepth 100000
set_option maxHeartbeats 4000000
attribute [local go_sem] Oper.semAt_some

theorem fragments_in (p : Option Addr) (n c : Nat) (m : Int) (w : World) : Calls Try.prog 19 #[.slice p n c, .int .i64 m] w fun e w' => e = .returned (.func (.func 26) #[] #[.pointer (some ⟨w.heap.size + 1, 0, none⟩), .pointer (some ⟨w.heap.size, 0, none⟩)]) ∧ w' = (w.alloc (.cells #[.slice p n c] 22)).alloc (.cells #[.int .i64 m] 3) := by
  go_enter Try.func19, Try.ntmps19
  go_wp2
  go_ret
  exact ⟨rfl, rfl⟩

/-- The frame number k of N. -/
def splitF (sid : Int) (X : List UInt8) (en : Bool) (M N k : Nat) : Fra := { zeroF with k := if k = 0 then 1 else 9, fl := (if k = 0 ∧ en = true then 1 else 0) + (if k + 1 = N then 4 else 0), st := sid, X := piece M X k }
/-- A frame while they are gathered. -/
def contF (sid : Int) (X : List UInt8) (M k : Nat) : Fra := { zeroF with k := 9, st := sid, X := piece M X k }
/-- What Split answers. -/
def SplitAs (w : World) (sid : Int) (X : List UInt8) (en : Bool) (M : Nat) (er : TypeId → Value) (e : Ending) (w' : World) : Prop :=
  ∃ g cap ls, e = .returned (.tuple #[.slice (some ⟨g, 0, none⟩) ls.length cap, er 0]) ∧ ls.length = nP M X.length ∧ (∀ k z, ls[k]? = some z → z.1 = splitF sid X en M (nP M X.length) k) ∧ Frs w.heap.size w' (.slice (some ⟨g, 0, none⟩) ls.length cap) ls ∧ Fr (fun _ => False) w w'

/-- Where the gathering stands. -/
structure Gat (w : World) (sid : Int) (X : List UInt8) (M : Nat) (p : Option Addr) (c : Nat) (k : Nat) (v : Value) (ls : List FM) (W : World) : Prop where
  box : W.heap[w.heap.size + 1]? = some (.cells #[v] 24 (0, 0))
  str : W.heap[w.heap.size]? = some (.cells #[.int .i64 sid] 3 (0, 0))
  frs : Frs w.heap.size W v ls
  len : ls.length = k
  all : ∀ j z, ls[j]? = some z → z.1 = contF sid X M j
  z : fragZ (w.heap.size + 3) (w.heap.size + 2) M p X c w.heap.size W
  fr : Fr (fun _ => False) w W
theorem Gat.own3 {w : World} {sid : Int} {X : List UInt8} {M : Nat} {p : Option Addr} {c k : Nat} {v : Value} {ls : List FM} {W W' : World} (h : Gat w sid X M p c k v ls W) {B : Nat} {row : Option Nat} (hg : W.grownBy W' row) (hr : ∀ r, row = some r → B ≤ r ∧ ∃ o : Obj, W.heap[r]? = some o ∧ o.isCells = false) (hB : w.heap.size ≤ B) : Gat w sid X M p c k v ls W' := by
  have hf := Fr.of_own hg hr
  refine ⟨grown_cell hg hr h.box, grown_cell hg hr h.str, h.frs.own3 hf, h.len, h.all, h.z.own3 hf, ?_⟩
  refine ((h.fr.mono (T := fun k => w.heap.size ≤ k) (fun _ _ e => e.elim)).trans ⟨hg.os, hg.tape, hg.output, hg.size, fun k hk hs => hg.block k hk (fun e => hs ?_)⟩).mono (fun k hk e => by omega)
  have := (hr k e.symm).1
  omega

/-- The frame that is none. -/
def frameZ : Value := .agg #[.int .i64 0, .int .i64 0, .int .i64 0, .slice none 0 0, .int .i64 0, .int .u32 0, .int .i64 0, .int .i64 0, .int .i64 0, .bool false, .int .i64 0, .slice none 0 0]
theorem info_frame : ∃ i, Try.prog.info? 34 = some i ∧ i.zero = some frameZ ∧ i.size = 12 ∧ i.bytes = 128 := ⟨(Try.prog.info? 34).get (by kernel_rfl), by kernel_rfl, by kernel_rfl, by kernel_rfl, by kernel_rfl⟩
theorem keeps_fr {B : Nat} {S : Nat → Prop} {X Y : World} (hf : Fr S X Y) (hs : ∀ k o, S k → X.heap[k]? = some o → o.isCells = true) : KeepsFrom B X Y :=
  ⟨hf.size, fun k o _ hk ho => (hf.block k (lt_of_heap hk) (fun s => by have := hs k o s hk; rw [ho] at this; cases this)).trans hk⟩
theorem row_big {w : World} {v x : Value} {n k : Nat} {xs : List Value} {e t : TypeId} (h : w.ownsRow 0 e 12 v n xs) (he : v.ownBlock = some k) (hk : w.heap[k]? = some (.cells #[x] t (0, 0))) : False := by
  obtain ⟨-, (⟨rfl, -⟩ | ⟨g, cap, cur, rfl, -, h3, -, -, h6, -⟩)⟩ := h
  · simp [Value.ownBlock] at he
  · simp [Value.ownBlock] at he
    subst he
    rw [hk] at h3
    cases h3
    simp at h6
    omega
/-- A frame with another type, with other flags. -/
def chK (z : FM) : FM := ({ z.1 with k := 1 }, z.2)
def chF (f : Int) (z : FM) : FM := ({ z.1 with fl := f }, z.2)
theorem heap_set1 {w : World} {g j : Nat} {cs : Array Value} {t : TypeId} (v : Value) (h : w.heap[g]? = some (.cells cs t (0, 0))) : (w.setCell ⟨g, j, none⟩ v).heap[g]? = some (.cells (cs.setIfInBounds j v) t (0, 0)) := by
  have hl := lt_of_heap h
  simp [World.setCell]
  rw [Array.getElem?_eq_getElem hl] at h
  simp at h
  simp [Array.modify, Array.modifyM, hl, h]

theorem Split_yes (sid : Int) (X : List UInt8) (en : Bool) (M : Nat) (p : Option Addr) (c : Nat) (w : World) (h1 : 1 ≤ sid) (h2 : sid ≤ 2147483647) (hM : 1 ≤ M) (hM2 : M ≤ 9223372036854775807) (hX : X.length < 2 ^ 47) (hc : X.length ≤ c) (hs : SrcAt w p X) (hN : nP M X.length ≤ 6000) :
    Calls Try.prog 10 #[.int .i64 sid, .slice p X.length c, .bool en, .int .i64 (M : Int)] w fun e w' => SplitAs w sid X en M (fun _ => .int .i64 0) e w' := by
  refine (callsIn_wide (n := 0)).1 ?_
  obtain ⟨W, hW⟩ : ∃ W, W = (w.alloc (.cells #[.int .i64 sid] 3)).alloc (.cells #[.slice none 0 0] 24) := ⟨_, rfl⟩
  have HFW : Hid (Fr (fun _ => False) w W) := by rw [hW]; exact ((Fr.refl _ _).alloc _).alloc _
  have A1 : Hid (W.heap[w.heap.size]? = some (.cells #[.int .i64 sid] 3 (0, 0))) := by rw [hW]; exact past_at _ (heap_alloc_new w _)
  have B1 : Hid (W.heap[w.heap.size + 1]? = some (.cells #[.slice none 0 0] 24 (0, 0))) := by rw [hW]; exact last_at _ (by simp)
  have HWS : Hid (W.heap.size = w.heap.size + 2) := by show _ = _; rw [hW]; simp
  have KF : Hid (Calls Try.prog 19 #[.slice p X.length c, .int .i64 (M : Int)] W fun e w' => e = .returned (.func (.func 26) #[] #[.pointer (some ⟨w.heap.size + 3, 0, none⟩), .pointer (some ⟨w.heap.size + 2, 0, none⟩)]) ∧ w' = (W.alloc (.cells #[.slice p X.length c] 22)).alloc (.cells #[.int .i64 (M : Int)] 3)) := by
    have := fragments_in p X.length c M W
    rw [HWS.out] at this
    exact this
  have hM3 : ¬ (M : Int) < 1 := by omega
  have hd1 : decide (sid < 1) = false := by simp; omega
  have hd2 : decide (2147483647 < sid) = false := by simp; omega
  have HS : Hid (SrcAt W p X) := hs.oldF HFW.out
  have HSP : Hid (∀ ad, p = some ad → 0 < X.length → ad.block < w.heap.size) := srcB_lt hs
  have q0 : (w.alloc (.cells #[.int .i64 sid] 3)).cell? ⟨w.heap.size, 0, none⟩ = some (.int .i64 sid) := cell_of_heap (heap_alloc_new w _) rfl
  clear hs
  refine callsIn_of_wp_marks Try.func10 rfl trivial ?_ rfl
  simp only [Try.ntmps10, List.size_toArray, List.length_cons, List.length_nil, Nat.reduceAdd, Nat.reduceSub, Array.replicate_succ, Array.replicate_zero, List.push_toArray, List.append_toArray, List.nil_append, List.cons_append]
  gi_wp2
  rw [← hW]
  clear hW q0
  refine ⟨trivial, rfl, (callsIn_wide.2 KF.out).mono ?_⟩
  rintro e W2 ⟨rfl, hW2⟩
  have F2 : Hid (Fr (fun _ => False) w W2) := by rw [hW2]; exact (HFW.out.alloc _).alloc _
  have C2 : Hid (W2.heap[w.heap.size + 2]? = some (.cells #[.slice p X.length c] 22 (0, 0))) := by rw [hW2]; exact past_at _ (last_at _ HWS.out)
  have D2 : Hid (W2.heap[w.heap.size + 3]? = some (.cells #[.int .i64 (M : Int)] 3 (0, 0))) := by rw [hW2]; exact last_at _ (by have := HWS.out; simp; omega)
  have A2 : Hid (W2.heap[w.heap.size]? = some (.cells #[.int .i64 sid] 3 (0, 0))) := by rw [hW2]; exact past_at _ (past_at _ A1.out)
  have B2 : Hid (W2.heap[w.heap.size + 1]? = some (.cells #[.slice none 0 0] 24 (0, 0))) := by rw [hW2]; exact past_at _ (past_at _ B1.out)
  have S2 : Hid (SrcAt W2 p X) := HS.out.oldF (by rw [hW2]; exact ((Fr.refl _ _).alloc _).alloc _)
  have G2 : Hid (Gat w sid X M p c 0 (.slice none 0 0) [] W2) := ⟨B2.out, A2.out, Frs.nil _ _, rfl, fun j z hj => by simp at hj, ⟨⟨_, D2.out⟩, ⟨_, C2.out⟩, S2.out, F2.out.size⟩, F2.out⟩
  have HL2 : Hid (w.heap.size + 4 ≤ W2.heap.size) := lt_of_heap D2.out
  clear hW2
  gi_wp2
  refine range_law3 (gf := 26) (fs := #[]) (lb := #[.pointer (some ⟨w.heap.size + 3, 0, none⟩), .pointer (some ⟨w.heap.size + 2, 0, none⟩)]) rfl (enters_of Try.func26 (by kernel_rfl) rfl)
    (frag_tells (w.heap.size + 3) (w.heap.size + 2) M c w.heap.size p X hM hM2 hX hc) (fun k args W h => by obtain ⟨a, d, rfl, -⟩ := h; rfl)
    (fun k W => ∃ v ls, Gat w sid X M p c k v ls W)
    (fun k X1 Y1 row hs hg hr => by obtain ⟨v, ls, h⟩ := hs; exact ⟨v, ls, h.own3 hg hr (by have := HL2.out; omega)⟩)
    (fun k W h => by obtain ⟨v, ls, h⟩ := h; exact h.z)
    ⟨_, _, G2.out⟩
    (fun k a' W => ∃ a d, (OwnAt W 5 (.slice a (piece M X k).length d) (bv (piece M X k)) ∧ (∀ ad, a = some ad → w.heap.size ≤ ad.block)) ∧ a' = { tmps := #[.int .i64 sid, .slice p X.length c, .bool en, .int .i64 (M : Int), .pointer (some ⟨w.heap.size, 0, none⟩), undef, undef, undef, .slice none 0 0, .int .i64 0, .pointer (some ⟨w.heap.size + 1, 0, none⟩), .slice a (piece M X k).length d, undef, undef, .int .i64 sid, .bool false, .bool false, .int .i64 sid, .bool false, .bool false, .bool false, .int .i64 (M : Int), .bool false, .bool false, .slice p X.length c, .int .i64 (M : Int), .func (.func 26) #[] #[.pointer (some ⟨w.heap.size + 3, 0, none⟩), .pointer (some ⟨w.heap.size + 2, 0, none⟩)], .slice a (piece M X k).length d, undef, undef, undef, undef, undef, undef, undef, undef, undef, undef, undef, undef, undef, undef, undef, undef, undef, undef, undef, undef, undef, undef, undef, undef, undef, undef, undef, undef, undef, undef, undef, undef], defers := [] })
    (fun k a' _ X1 Y1 row hs hg hr => by
      obtain ⟨a, d, ⟨e1, e2⟩, e3⟩ := hs
      exact ⟨a, d, ⟨e1.own3 (Fr.of_own hg hr), e2⟩, e3⟩)
    ?assign ?body ?done
  case assign =>
    rintro l k W args K hk ⟨v, ls, hG⟩ ⟨a, d, rfl, ho, hn⟩ hK
    gi_wp2
    exact hK _ _ (KeepsFrom.refl _ _) ⟨v, ls, hG⟩ ⟨a, d, ⟨ho, hn⟩, rfl⟩
  case body =>
    rintro l k a' W hl hk ⟨v, ls, hG⟩ ⟨a, d, ⟨ho, hn⟩, rfl⟩
    have HG : Hid (Gat w sid X M p c k v ls W) := hG
    obtain ⟨zz, hzz⟩ : ∃ zz : FM, zz = (contF sid X M k, a, d, none, 0) := ⟨_, rfl⟩
    have HZZ : Hid (zz = (contF sid X M k, a, d, none, 0)) := hzz
    have HZ1 : Hid (OwnAt W 5 (.slice zz.2.1 zz.1.X.length zz.2.2.1) (bv zz.1.X) ∧ zz.2.2.2 = (none, 0) ∧ (∀ ad, zz.2.1 = some ad → w.heap.size ≤ ad.block)) := by rw [hzz]; exact ⟨ho, rfl, hn⟩
    have HF1 : Hid (fcl zz = [.int .i64 9, .int .i64 0, .int .i64 sid, .slice a (piece M X k).length d, .int .i64 0, .int .u32 0, .int .i64 0, .int .i64 0, .int .i64 0, .bool false, .int .i64 0, .slice none 0 0]) := by rw [hzz]; rfl
    have q10 : W.cell? ⟨w.heap.size + 1, 0, none⟩ = some v := cell_of_heap hG.box rfl
    have z10 : W.frozen? ⟨w.heap.size + 1, 0, none⟩ = false := frozen_of_heap hG.box
    have q4 : W.cell? ⟨w.heap.size, 0, none⟩ = some (.int .i64 sid) := cell_of_heap hG.str rfl
    obtain ⟨W1, hW1⟩ : ∃ W1, W1 = W.alloc (.cells #[.int .i64 9, .int .i64 0, .int .i64 sid, .slice a (piece M X k).length d, .int .i64 0, .int .u32 0, .int .i64 0, .int .i64 0, .int .i64 0, .bool false, .int .i64 0, .slice none 0 0] 34) := ⟨_, rfl⟩
    have FW1 : Hid (Fr (fun _ => False) W W1) := by rw [hW1]; exact (Fr.refl _ _).alloc _
    have HNW : Hid (∀ j u, (fcl zz)[j]? = some u → W1.cell? ((⟨W.heap.size, 0, none⟩ : Addr).add j) = some u) := fun j u hj => by
      rw [add_none, hW1, Nat.zero_add]
      refine cell_of_heap (heap_alloc_new W _) ?_
      rw [HF1.out] at hj
      rw [← Array.getElem?_toList]
      exact hj
    have HR1 : Hid (W1.ownsRow 0 34 12 v ls.length (frows ls)) := row_fr hG.frs.row FW1.out (fun _ _ => id)
    have HKN : Hid (k < 6000) := by show _ < _; omega
    have HLN : Hid (ls.length = k) := hG.len
    have HBX : Hid (∀ w4, Fr (fun k => v.ownBlock = some k) W1 w4 → w4.heap[w.heap.size + 1]? = some (.cells #[v] 24 (0, 0))) := fun w4 hf => by
      have h1 : W1.heap[w.heap.size + 1]? = some (.cells #[v] 24 (0, 0)) := (FW1.out.block _ (lt_of_heap HG.out.box) id).trans HG.out.box
      refine (hf.block _ (lt_of_heap h1) (fun e => ?_)).trans h1
      obtain ⟨-, cur, hc⟩ := row_lt HR1.out _ e
      rw [h1] at hc
      simp at hc
    obtain ⟨i5, i1, i2, i3, i4⟩ := info_frame
    have I1 : Hid (Try.prog.info? 34 = some i5) := i1
    have I2 : Hid (i5.zero = some frameZ) := i2
    have I3 : Hid (i5.size = 12) := i3
    have I4 : Hid (i5.bytes = 128) := i4
    have HVW : Hid (w.heap.size + 4 ≤ W2.heap.size) := HL2.out
    clear hG ho hn i1 i2 i3 i4 hzz
    rw [hW1] at HNW HR1 HBX FW1
    gi_wp2_with (refine wpListIn_append_wide2 rfl (.tmp 28) (.tmp 32) 24 rfl 34 i5 frameZ 12 128 Try.underlying24 I1.out I2.out I3.out I4.out rfl (by decide) v ls.length (frows ls) (by go_simp) HR1.out ⟨W.heap.size, 0, none⟩ 1 1 (fcl zz) (by go_simp) (by decide) rfl HNW.out (fcl_one zz) (by have := HKN.out; have := HLN.out; unfold maxLen; omega) (by have := HKN.out; have := HLN.out; omega) ?_; intro a4 n4 c4 w4 N4 O4 F4 K4; have B4 := HBX.out w4 F4.out; have q11 : w4.cell? ⟨w.heap.size + 1, 0, none⟩ = some v := cell_of_heap B4 rfl; have z11 : w4.frozen? ⟨w.heap.size + 1, 0, none⟩ = false := frozen_of_heap B4; have HB4 : Hid (w4.heap[w.heap.size + 1]? = some (.cells #[v] 24 (0, 0))) := B4; clear B4)
    have F5 : Fr (fun k => v.ownBlock = some k) W w4 := (FW1.out.mono (fun _ _ e => e.elim)).trans F4.out
    have F6 : Fr (fun k => k = w.heap.size + 1) w4 (w4.setCell ⟨w.heap.size + 1, 0, none⟩ (.slice a4 n4 c4)) := (Fr.refl _ _).setB _ _
    have hsz : w.heap.size ≤ W.heap.size := HG.out.fr.size
    have hn4 : n4 = ls.length + 1 := N4.out
    have hfr7 : Frs w.heap.size w4 (.slice a4 n4 c4) (ls ++ [zz]) := HG.out.frs.add HZ1.out O4.out F5 (by
      rcases K4.out with e | e
      · exact .inl e
      · exact .inr ⟨_, e, by simp; omega⟩)
    have hne : ∀ (b : Nat) (cs : Array Value) (t : TypeId), W.heap[b]? = some (.cells cs t (0, 0)) → t ≠ 34 → w4.heap[b]? = some (.cells cs t (0, 0)) := fun b cs t hb ht => by
      refine (F5.block b (lt_of_heap hb) (fun e => ?_)).trans hb
      obtain ⟨-, cur, hc⟩ := row_lt HG.out.frs.row b e
      rw [hb] at hc
      cases hc
      exact ht rfl
    refine ⟨?_, .slice a4 n4 c4, ls ++ [zz], ⟨?_, ?_, ?_, ?_, ?_, ?_, ?_⟩⟩
    · refine (keeps_fr F5 (fun b o hb ho => ?_)).trans (keeps_fr F6 (fun b o hb ho => ?_))
      · obtain ⟨-, cur, hc⟩ := row_lt HG.out.frs.row b hb
        rw [hc] at ho; cases ho; rfl
      · have hb' : b = w.heap.size + 1 := hb
        subst hb'
        rw [HB4.out] at ho; cases ho; rfl
    · have := heap_set1 (j := 0) (.slice a4 n4 c4) HB4.out
      simpa using this
    · exact (F6.block _ (lt_of_heap (hne _ _ _ HG.out.str (by decide))) (by omega)).trans (hne _ _ _ HG.out.str (by decide))
    · exact hfr7.fr F6 (fun k cur t _ hk ht e => by
        have e' : k = w.heap.size + 1 := e
        subst e'
        rw [HB4.out] at hk
        cases hk
        rcases ht with ht | ht <;> cases ht)
    · rw [List.length_append, HLN.out]; rfl
    · intro j y hj
      rcases Nat.lt_or_ge j ls.length with h1 | h1
      · rw [List.getElem?_append_left h1] at hj; exact HG.out.all j y hj
      · rw [List.getElem?_append_right h1] at hj
        obtain ⟨rfl⟩ : j = ls.length := by
          have := (List.getElem?_eq_some_iff.1 hj).1
          simp at this
          omega
        simp at hj
        rw [← hj, HZZ.out, HLN.out]
    · obtain ⟨⟨t1, y1⟩, ⟨t2, y2⟩, y3, y4⟩ := HG.out.z
      refine ⟨⟨t1, ?_⟩, ⟨t2, ?_⟩, ?_, Nat.le_trans y4 (Nat.le_trans F5.size F6.size)⟩
      · refine (F6.block _ (Nat.lt_of_lt_of_le (lt_of_heap y1) F5.size) (by omega)).trans ((F5.block _ (lt_of_heap y1) (fun e => ?_)).trans y1)
        exact row_big HG.out.frs.row e y1
      · refine (F6.block _ (Nat.lt_of_lt_of_le (lt_of_heap y2) F5.size) (by omega)).trans ((F5.block _ (lt_of_heap y2) (fun e => ?_)).trans y2)
        exact row_big HG.out.frs.row e y2
      · refine (y3.fr F5 (fun ad e hl e2 => ?_)).fr F6 (fun ad e hl e2 => ?_)
        · have h1 := HSP.out ad e hl
          have h2 := HG.out.frs.new _ e2
          omega
        · have h1 := HSP.out ad e hl
          omega
    · exact ((HG.out.fr.mono (T := fun k => w.heap.size ≤ k) (fun _ _ e => e.elim)).trans ((F5.mono (fun k _ e => HG.out.frs.new k e)).trans (F6.mono (fun k _ e => by omega)))).mono (fun k hk e => by omega)
  case done =>
    rintro D W hD ⟨v, ls, hG⟩ hK
    obtain ⟨N, hN1⟩ : ∃ N, nP M X.length = N + 1 := ⟨_, rfl⟩
    have hlen : ls.length = N + 1 := by rw [← hN1]; exact hG.len
    obtain ⟨g, cap, rfl⟩ : ∃ g cap, v = .slice (some ⟨g, 0, none⟩) (N + 1) cap := by
      have := hG.frs.row
      rw [hlen] at this
      rcases this.2 with ⟨_, h0⟩ | ⟨g, cap, _, rfl, _⟩
      · omega
      · exact ⟨g, cap, rfl⟩
    have HG : Hid (Gat w sid X M p c (N + 1) (.slice (some ⟨g, 0, none⟩) (N + 1) cap) ls W) := by rw [hN1] at hG; exact hG
    have hROW : W.ownsRow 0 34 12 (.slice (some ⟨g, 0, none⟩) (N + 1) cap) (N + 1) (frows ls) := by have := hG.frs.row; rwa [hlen] at this
    have HROW : Hid (W.ownsRow 0 34 12 (.slice (some ⟨g, 0, none⟩) (N + 1) cap) (N + 1) (frows ls)) := hROW
    have HLEN : Hid (ls.length = N + 1) := hlen
    have hN6 : N < 6000 := by omega
    have w1 : wrap64 ((N : Int) + 1 - 1) = (N : Int) := by unfold wrap64; omega
    have w2 : IntKind.i64.wrap ((N : Int) + 1 - 1) = (N : Int) := by rw [IntWalk.i64_left]; exact w1
    have w3 : (N : Int) + 1 - 1 = (N : Int) := by omega
    have w4 : (N : Int) < (N : Int) + 1 := by omega
    have q10 : W.cell? ⟨w.heap.size + 1, 0, none⟩ = some (.slice (some ⟨g, 0, none⟩) (N + 1) cap) := cell_of_heap hG.box rfl
    have HGN : Hid (g ≠ w.heap.size + 1 ∧ w.heap.size ≤ g ∧ w.heap.size + 4 ≤ D) := ⟨fun e => by
      have h1 := HROW.out
      exact row_big h1 (by rw [e]; rfl) HG.out.box, HG.out.frs.new g rfl, by have := HL2.out; omega⟩
    have HGD : Hid (g ≠ D) := fun e => by
      obtain ⟨-, cur, hc⟩ := row_lt HROW.out g rfl
      rw [e, hK] at hc
      cases hc
    have HN1 : Hid (nP M X.length = N + 1) := hN1
    clear hG hROW hN1 hlen
    gi_wp2
    gi_region
    have FV : Fr (fun _ => False) W W.drew := (Fr.refl _ _).drew
    have HFV : Hid (Frs w.heap.size W.drew (.slice (some ⟨g, 0, none⟩) (N + 1) cap) ls) := HG.out.frs.later FV
    have HBV : Hid (W.drew.heap[w.heap.size + 1]? = some (.cells #[.slice (some ⟨g, 0, none⟩) (N + 1) cap] 24 (0, 0))) := HG.out.box
    have HKV : Hid (W.drew.heap[D]? = some (.deferred (some []))) := hK
    have HAV : Hid (∀ j z, ls[j]? = some z → z.1 = contF sid X M j) := HG.out.all
    have HFX : Hid (Fr (fun _ => False) w W.drew) := HG.out.fr.trans FV
    have b1 : bits .or .i64 0 1 = 1 := by decide
    have b2 : bits .or .i64 0 4 = 4 := by decide
    have b3 : bits .or .i64 1 4 = 5 := by decide
    clear FV HG HROW hK q10
    generalize W.drew = V at HFV HBV HKV HFX ⊢
    obtain ⟨z0, hz0⟩ : ∃ z0, ls[0]? = some z0 := ⟨ls[0]'(by rw [HLEN.out]; omega), List.getElem?_eq_getElem _⟩
    have HC0 : Hid (z0.1 = contF sid X M 0) := HAV.out 0 z0 hz0
    cases en with
    | false =>
      by_cases hN0 : N = 0
      · subst hN0
        simp only [Nat.zero_add] at HLEN HFV HBV HN1 ⊢
        have c0 : V.cell? ⟨g, 0, none⟩ = some (.int .i64 9) ∧ V.frozen? ⟨g, 0, none⟩ = false := HFV.out.cell HLEN.out (i := 0) (j := 0) hz0 (by rw [fcl, HC0.out]; rfl)
        have L1 : Frs w.heap.size (V.setCell ⟨g, 0, none⟩ (.int .i64 1)) (.slice (some ⟨g, 0, none⟩) (1) cap) (ls.set 0 (chK z0)) := HFV.out.set HLEN.out (i := 0) (j := 0) hz0 (by decide) rfl rfl rfl
        have l1 : (ls.set 0 (chK z0)).length = 1 := by rw [List.length_set]; exact HLEN.out
        have g1 : (ls.set 0 (chK z0))[0]? = some (chK z0) := by rw [List.getElem?_set_self (by rw [HLEN.out]; decide)]
        have c3 : (V.setCell ⟨g, 0, none⟩ (.int .i64 1)).cell? ⟨g, 1, none⟩ = some (.int .i64 0) ∧ (V.setCell ⟨g, 0, none⟩ (.int .i64 1)).frozen? ⟨g, 1, none⟩ = false := L1.cell l1 (i := 0) (j := 1) g1 (by simp only [chK, fcl]; rw [HC0.out]; rfl)
        have L3 : Frs w.heap.size ((V.setCell ⟨g, 0, none⟩ (.int .i64 1)).setCell ⟨g, 1, none⟩ (.int .i64 4)) (.slice (some ⟨g, 0, none⟩) (1) cap) ((ls.set 0 (chK z0)).set 0 (chF 4 (chK z0))) := L1.set l1 (i := 0) (j := 1) g1 (by decide) rfl rfl rfl
        have HL3 : Hid (Frs w.heap.size ((V.setCell ⟨g, 0, none⟩ (.int .i64 1)).setCell ⟨g, 1, none⟩ (.int .i64 4)) (.slice (some ⟨g, 0, none⟩) (1) cap) ((ls.set 0 (chK z0)).set 0 (chF 4 (chK z0)))) := L3
        have F3 : Hid (Fr (fun k => k = g) V ((V.setCell ⟨g, 0, none⟩ (.int .i64 1)).setCell ⟨g, 1, none⟩ (.int .i64 4))) := ((Fr.refl _ _).setB _ _).setB _ _
        have HALL : Hid (∀ k z, ((ls.set 0 (chK z0)).set 0 (chF 4 (chK z0)))[k]? = some z → z.1 = splitF sid X false M (1) k) := fun k z hz => by
          have hk : k = 0 := by have := (List.getElem?_eq_some_iff.1 hz).1; simp only [List.length_set] at this; rw [HLEN.out] at this; omega
          subst hk
          rw [List.getElem?_set_self (by simp only [List.length_set]; rw [HLEN.out]; decide)] at hz
          cases hz
          simp only [chK, chF]; rw [HC0.out]; simp [splitF, contF, zeroF]
        obtain ⟨c0, y0⟩ := c0
        obtain ⟨c3, y3⟩ := c3
        have q10 : ((V.setCell ⟨g, 0, none⟩ (.int .i64 1)).setCell ⟨g, 1, none⟩ (.int .i64 4)).cell? ⟨w.heap.size + 1, 0, none⟩ = some (.slice (some ⟨g, 0, none⟩) (1) cap) := cell_of_heap ((F3.out.block _ (lt_of_heap HBV.out) (by have := HGN.out; omega)).trans HBV.out) rfl
        have HK3 : Hid (((V.setCell ⟨g, 0, none⟩ (.int .i64 1)).setCell ⟨g, 1, none⟩ (.int .i64 4)).heap[D]? = some (.deferred (some []))) := (F3.out.block _ (lt_of_heap HKV.out) (fun e => HGD.out e.symm)).trans HKV.out
        clear L1 L3 l1 g1
        gi_wp2
        generalize ((V.setCell ⟨g, 0, none⟩ (.int .i64 1)).setCell ⟨g, 1, none⟩ (.int .i64 4)) = V3 at q10 HK3 HL3 F3 ⊢
        refine ⟨by simp, .inl ⟨_, _, rfl, run_takeDeferred HK3.out, ?_⟩⟩
        have hfo : Fr (fun k => ∃ o : Obj, V3.heap[k]? = some o ∧ o.isCells = false) V3 (V3.putObj D (.deferred none)) := Fr.of_own (B := w.heap.size) (row := some D) (grownBy_putObj' V3 D _) (fun r e => by cases e; exact ⟨by have := HGN.out; omega, _, HK3.out, rfl⟩)
        have hfD : Fr (fun k => k = D) V3 (V3.putObj D (.deferred none)) := ⟨hfo.os, hfo.tape, hfo.output, hfo.size, fun k hk hs => (grownBy_putObj' V3 D _).block k hk (fun e => hs (by cases e; rfl))⟩
        refine ⟨.tuple #[.slice (some ⟨g, 0, none⟩) (1) cap, .int .i64 0], ?_, g, cap, ((ls.set 0 (chK z0)).set 0 (chF 4 (chK z0))), ?_, ?_, ?_, ?_, ?_⟩
        · simp [results, Try.f10, go_sem]
        · simp only [List.length_set]; rw [HLEN.out]
        · simp only [List.length_set]; rw [HLEN.out, HN1.out]
        · rw [HN1.out]; exact HALL.out
        · have := HL3.out.own3 hfo
          simp only [List.length_set] at this ⊢
          rw [HLEN.out]; exact this
        · exact (((HFX.out.mono (T := fun k => w.heap.size ≤ k) (fun _ _ e => e.elim)).trans (F3.out.mono (fun k _ e => by have := HGN.out; omega))).trans (hfD.mono (fun k _ e => by have := HGN.out; omega))).mono (fun k hk e => by omega)
      · obtain ⟨zN, hzN⟩ : ∃ zN, ls[N]? = some zN := ⟨ls[N]'(by rw [HLEN.out]; omega), List.getElem?_eq_getElem _⟩
        have HCN : Hid (zN.1 = contF sid X M N) := HAV.out N zN hzN
        have c0 : V.cell? ⟨g, 0, none⟩ = some (.int .i64 9) ∧ V.frozen? ⟨g, 0, none⟩ = false := HFV.out.cell HLEN.out (i := 0) (j := 0) hz0 (by rw [fcl, HC0.out]; rfl)
        have L1 : Frs w.heap.size (V.setCell ⟨g, 0, none⟩ (.int .i64 1)) (.slice (some ⟨g, 0, none⟩) (N + 1) cap) (ls.set 0 (chK z0)) := HFV.out.set HLEN.out (i := 0) (j := 0) hz0 (by decide) rfl rfl rfl
        have l1 : (ls.set 0 (chK z0)).length = N + 1 := by rw [List.length_set]; exact HLEN.out
        have g1 : (ls.set 0 (chK z0))[0]? = some (chK z0) := by rw [List.getElem?_set_self (by rw [HLEN.out]; omega)]
        have gN : (ls.set 0 (chK z0))[N]? = some zN := by rw [List.getElem?_set_ne (by omega)]; exact hzN
        have c3 : (V.setCell ⟨g, 0, none⟩ (.int .i64 1)).cell? ⟨g, N * 12 + 1, none⟩ = some (.int .i64 0) ∧ (V.setCell ⟨g, 0, none⟩ (.int .i64 1)).frozen? ⟨g, N * 12 + 1, none⟩ = false := L1.cell l1 (i := N) (j := 1) gN (by rw [fcl, HCN.out]; rfl)
        have L3 : Frs w.heap.size ((V.setCell ⟨g, 0, none⟩ (.int .i64 1)).setCell ⟨g, N * 12 + 1, none⟩ (.int .i64 4)) (.slice (some ⟨g, 0, none⟩) (N + 1) cap) ((ls.set 0 (chK z0)).set N (chF 4 zN)) := L1.set l1 (i := N) (j := 1) gN (by decide) rfl rfl rfl
        have HL3 : Hid (Frs w.heap.size ((V.setCell ⟨g, 0, none⟩ (.int .i64 1)).setCell ⟨g, N * 12 + 1, none⟩ (.int .i64 4)) (.slice (some ⟨g, 0, none⟩) (N + 1) cap) ((ls.set 0 (chK z0)).set N (chF 4 zN))) := L3
        have F3 : Hid (Fr (fun k => k = g) V ((V.setCell ⟨g, 0, none⟩ (.int .i64 1)).setCell ⟨g, N * 12 + 1, none⟩ (.int .i64 4))) := ((Fr.refl _ _).setB _ _).setB _ _
        have HALL : Hid (∀ k z, ((ls.set 0 (chK z0)).set N (chF 4 zN))[k]? = some z → z.1 = splitF sid X false M (N + 1) k) := fun k z hz => by
          by_cases hkN : k = N
          · subst hkN
            rw [List.getElem?_set_self (by simp only [List.length_set]; rw [HLEN.out]; omega)] at hz
            cases hz
            simp only [chF]; rw [HCN.out]; simp [splitF, contF, zeroF]; omega
          · rw [List.getElem?_set_ne (by omega)] at hz
            by_cases hk0 : k = 0
            · subst hk0
              rw [g1] at hz
              cases hz
              simp only [chK]; rw [HC0.out]; simp [splitF, contF, zeroF]; omega
            · rw [List.getElem?_set_ne (by omega)] at hz
              rw [HAV.out k z hz]; simp [splitF, contF, hk0, zeroF]; omega
        obtain ⟨c0, y0⟩ := c0
        obtain ⟨c3, y3⟩ := c3
        have q10 : ((V.setCell ⟨g, 0, none⟩ (.int .i64 1)).setCell ⟨g, N * 12 + 1, none⟩ (.int .i64 4)).cell? ⟨w.heap.size + 1, 0, none⟩ = some (.slice (some ⟨g, 0, none⟩) (N + 1) cap) := cell_of_heap ((F3.out.block _ (lt_of_heap HBV.out) (by have := HGN.out; omega)).trans HBV.out) rfl
        have HK3 : Hid (((V.setCell ⟨g, 0, none⟩ (.int .i64 1)).setCell ⟨g, N * 12 + 1, none⟩ (.int .i64 4)).heap[D]? = some (.deferred (some []))) := (F3.out.block _ (lt_of_heap HKV.out) (fun e => HGD.out e.symm)).trans HKV.out
        clear L1 L3 l1 g1 gN
        gi_wp2
        generalize ((V.setCell ⟨g, 0, none⟩ (.int .i64 1)).setCell ⟨g, N * 12 + 1, none⟩ (.int .i64 4)) = V3 at q10 HK3 HL3 F3 ⊢
        refine ⟨by simp, .inl ⟨_, _, rfl, run_takeDeferred HK3.out, ?_⟩⟩
        have hfo : Fr (fun k => ∃ o : Obj, V3.heap[k]? = some o ∧ o.isCells = false) V3 (V3.putObj D (.deferred none)) := Fr.of_own (B := w.heap.size) (row := some D) (grownBy_putObj' V3 D _) (fun r e => by cases e; exact ⟨by have := HGN.out; omega, _, HK3.out, rfl⟩)
        have hfD : Fr (fun k => k = D) V3 (V3.putObj D (.deferred none)) := ⟨hfo.os, hfo.tape, hfo.output, hfo.size, fun k hk hs => (grownBy_putObj' V3 D _).block k hk (fun e => hs (by cases e; rfl))⟩
        refine ⟨.tuple #[.slice (some ⟨g, 0, none⟩) (N + 1) cap, .int .i64 0], ?_, g, cap, ((ls.set 0 (chK z0)).set N (chF 4 zN)), ?_, ?_, ?_, ?_, ?_⟩
        · simp [results, Try.f10, go_sem]
        · simp only [List.length_set]; rw [HLEN.out]
        · simp only [List.length_set]; rw [HLEN.out, HN1.out]
        · rw [HN1.out]; exact HALL.out
        · have := HL3.out.own3 hfo
          simp only [List.length_set] at this ⊢
          rw [HLEN.out]; exact this
        · exact (((HFX.out.mono (T := fun k => w.heap.size ≤ k) (fun _ _ e => e.elim)).trans (F3.out.mono (fun k _ e => by have := HGN.out; omega))).trans (hfD.mono (fun k _ e => by have := HGN.out; omega))).mono (fun k hk e => by omega)
    | true =>
      by_cases hN0 : N = 0
      · subst hN0
        simp only [Nat.zero_add] at HLEN HFV HBV HN1 ⊢
        have c0 : V.cell? ⟨g, 0, none⟩ = some (.int .i64 9) ∧ V.frozen? ⟨g, 0, none⟩ = false := HFV.out.cell HLEN.out (i := 0) (j := 0) hz0 (by rw [fcl, HC0.out]; rfl)
        have L1 : Frs w.heap.size (V.setCell ⟨g, 0, none⟩ (.int .i64 1)) (.slice (some ⟨g, 0, none⟩) (1) cap) (ls.set 0 (chK z0)) := HFV.out.set HLEN.out (i := 0) (j := 0) hz0 (by decide) rfl rfl rfl
        have l1 : (ls.set 0 (chK z0)).length = 1 := by rw [List.length_set]; exact HLEN.out
        have g1 : (ls.set 0 (chK z0))[0]? = some (chK z0) := by rw [List.getElem?_set_self (by rw [HLEN.out]; decide)]
        have c1 : (V.setCell ⟨g, 0, none⟩ (.int .i64 1)).cell? ⟨g, 1, none⟩ = some (.int .i64 0) ∧ (V.setCell ⟨g, 0, none⟩ (.int .i64 1)).frozen? ⟨g, 1, none⟩ = false := L1.cell l1 (i := 0) (j := 1) g1 (by simp only [chK, fcl]; rw [HC0.out]; rfl)
        have L2 : Frs w.heap.size ((V.setCell ⟨g, 0, none⟩ (.int .i64 1)).setCell ⟨g, 1, none⟩ (.int .i64 1)) (.slice (some ⟨g, 0, none⟩) (1) cap) ((ls.set 0 (chK z0)).set 0 (chF 1 (chK z0))) := L1.set l1 (i := 0) (j := 1) g1 (by decide) rfl rfl rfl
        have l2 : ((ls.set 0 (chK z0)).set 0 (chF 1 (chK z0))).length = 1 := by rw [List.length_set]; exact l1
        have g2 : ((ls.set 0 (chK z0)).set 0 (chF 1 (chK z0)))[0]? = some (chF 1 (chK z0)) := by rw [List.getElem?_set_self (by rw [l1]; omega)]
        have c3 : ((V.setCell ⟨g, 0, none⟩ (.int .i64 1)).setCell ⟨g, 1, none⟩ (.int .i64 1)).cell? ⟨g, 1, none⟩ = some (.int .i64 1) ∧ ((V.setCell ⟨g, 0, none⟩ (.int .i64 1)).setCell ⟨g, 1, none⟩ (.int .i64 1)).frozen? ⟨g, 1, none⟩ = false := L2.cell l2 (i := 0) (j := 1) g2 (by simp only [chK, chF, fcl]; rfl)
        have L3 : Frs w.heap.size (((V.setCell ⟨g, 0, none⟩ (.int .i64 1)).setCell ⟨g, 1, none⟩ (.int .i64 1)).setCell ⟨g, 1, none⟩ (.int .i64 5)) (.slice (some ⟨g, 0, none⟩) (1) cap) (((ls.set 0 (chK z0)).set 0 (chF 1 (chK z0))).set 0 (chF 5 (chF 1 (chK z0)))) := L2.set l2 (i := 0) (j := 1) g2 (by decide) rfl rfl rfl
        have HL3 : Hid (Frs w.heap.size (((V.setCell ⟨g, 0, none⟩ (.int .i64 1)).setCell ⟨g, 1, none⟩ (.int .i64 1)).setCell ⟨g, 1, none⟩ (.int .i64 5)) (.slice (some ⟨g, 0, none⟩) (1) cap) (((ls.set 0 (chK z0)).set 0 (chF 1 (chK z0))).set 0 (chF 5 (chF 1 (chK z0))))) := L3
        have F3 : Hid (Fr (fun k => k = g) V (((V.setCell ⟨g, 0, none⟩ (.int .i64 1)).setCell ⟨g, 1, none⟩ (.int .i64 1)).setCell ⟨g, 1, none⟩ (.int .i64 5))) := (((Fr.refl _ _).setB _ _).setB _ _).setB _ _
        have HALL : Hid (∀ k z, (((ls.set 0 (chK z0)).set 0 (chF 1 (chK z0))).set 0 (chF 5 (chF 1 (chK z0))))[k]? = some z → z.1 = splitF sid X true M (1) k) := fun k z hz => by
          have hk : k = 0 := by have := (List.getElem?_eq_some_iff.1 hz).1; simp only [List.length_set] at this; rw [HLEN.out] at this; omega
          subst hk
          rw [List.getElem?_set_self (by simp only [List.length_set]; rw [HLEN.out]; decide)] at hz
          cases hz
          simp only [chK, chF]; rw [HC0.out]; simp [splitF, contF, zeroF]
        obtain ⟨c0, y0⟩ := c0
        obtain ⟨c1, y1⟩ := c1
        obtain ⟨c3, y3⟩ := c3
        have q10 : (((V.setCell ⟨g, 0, none⟩ (.int .i64 1)).setCell ⟨g, 1, none⟩ (.int .i64 1)).setCell ⟨g, 1, none⟩ (.int .i64 5)).cell? ⟨w.heap.size + 1, 0, none⟩ = some (.slice (some ⟨g, 0, none⟩) (1) cap) := cell_of_heap ((F3.out.block _ (lt_of_heap HBV.out) (by have := HGN.out; omega)).trans HBV.out) rfl
        have HK3 : Hid ((((V.setCell ⟨g, 0, none⟩ (.int .i64 1)).setCell ⟨g, 1, none⟩ (.int .i64 1)).setCell ⟨g, 1, none⟩ (.int .i64 5)).heap[D]? = some (.deferred (some []))) := (F3.out.block _ (lt_of_heap HKV.out) (fun e => HGD.out e.symm)).trans HKV.out
        clear L1 L2 L3 l1 g1 l2 g2
        gi_wp2
        generalize (((V.setCell ⟨g, 0, none⟩ (.int .i64 1)).setCell ⟨g, 1, none⟩ (.int .i64 1)).setCell ⟨g, 1, none⟩ (.int .i64 5)) = V3 at q10 HK3 HL3 F3 ⊢
        refine ⟨by simp, .inl ⟨_, _, rfl, run_takeDeferred HK3.out, ?_⟩⟩
        have hfo : Fr (fun k => ∃ o : Obj, V3.heap[k]? = some o ∧ o.isCells = false) V3 (V3.putObj D (.deferred none)) := Fr.of_own (B := w.heap.size) (row := some D) (grownBy_putObj' V3 D _) (fun r e => by cases e; exact ⟨by have := HGN.out; omega, _, HK3.out, rfl⟩)
        have hfD : Fr (fun k => k = D) V3 (V3.putObj D (.deferred none)) := ⟨hfo.os, hfo.tape, hfo.output, hfo.size, fun k hk hs => (grownBy_putObj' V3 D _).block k hk (fun e => hs (by cases e; rfl))⟩
        refine ⟨.tuple #[.slice (some ⟨g, 0, none⟩) (1) cap, .int .i64 0], ?_, g, cap, (((ls.set 0 (chK z0)).set 0 (chF 1 (chK z0))).set 0 (chF 5 (chF 1 (chK z0)))), ?_, ?_, ?_, ?_, ?_⟩
        · simp [results, Try.f10, go_sem]
        · simp only [List.length_set]; rw [HLEN.out]
        · simp only [List.length_set]; rw [HLEN.out, HN1.out]
        · rw [HN1.out]; exact HALL.out
        · have := HL3.out.own3 hfo
          simp only [List.length_set] at this ⊢
          rw [HLEN.out]; exact this
        · exact (((HFX.out.mono (T := fun k => w.heap.size ≤ k) (fun _ _ e => e.elim)).trans (F3.out.mono (fun k _ e => by have := HGN.out; omega))).trans (hfD.mono (fun k _ e => by have := HGN.out; omega))).mono (fun k hk e => by omega)
      · obtain ⟨zN, hzN⟩ : ∃ zN, ls[N]? = some zN := ⟨ls[N]'(by rw [HLEN.out]; omega), List.getElem?_eq_getElem _⟩
        have HCN : Hid (zN.1 = contF sid X M N) := HAV.out N zN hzN
        have c0 : V.cell? ⟨g, 0, none⟩ = some (.int .i64 9) ∧ V.frozen? ⟨g, 0, none⟩ = false := HFV.out.cell HLEN.out (i := 0) (j := 0) hz0 (by rw [fcl, HC0.out]; rfl)
        have L1 : Frs w.heap.size (V.setCell ⟨g, 0, none⟩ (.int .i64 1)) (.slice (some ⟨g, 0, none⟩) (N + 1) cap) (ls.set 0 (chK z0)) := HFV.out.set HLEN.out (i := 0) (j := 0) hz0 (by decide) rfl rfl rfl
        have l1 : (ls.set 0 (chK z0)).length = N + 1 := by rw [List.length_set]; exact HLEN.out
        have g1 : (ls.set 0 (chK z0))[0]? = some (chK z0) := by rw [List.getElem?_set_self (by rw [HLEN.out]; omega)]
        have c1 : (V.setCell ⟨g, 0, none⟩ (.int .i64 1)).cell? ⟨g, 1, none⟩ = some (.int .i64 0) ∧ (V.setCell ⟨g, 0, none⟩ (.int .i64 1)).frozen? ⟨g, 1, none⟩ = false := L1.cell l1 (i := 0) (j := 1) g1 (by simp only [chK, fcl]; rw [HC0.out]; rfl)
        have L2 : Frs w.heap.size ((V.setCell ⟨g, 0, none⟩ (.int .i64 1)).setCell ⟨g, 1, none⟩ (.int .i64 1)) (.slice (some ⟨g, 0, none⟩) (N + 1) cap) ((ls.set 0 (chK z0)).set 0 (chF 1 (chK z0))) := L1.set l1 (i := 0) (j := 1) g1 (by decide) rfl rfl rfl
        have l2 : ((ls.set 0 (chK z0)).set 0 (chF 1 (chK z0))).length = N + 1 := by rw [List.length_set]; exact l1
        have g2 : ((ls.set 0 (chK z0)).set 0 (chF 1 (chK z0)))[0]? = some (chF 1 (chK z0)) := by rw [List.getElem?_set_self (by rw [l1]; omega)]
        have gN : ((ls.set 0 (chK z0)).set 0 (chF 1 (chK z0)))[N]? = some zN := by rw [List.getElem?_set_ne (by omega), List.getElem?_set_ne (by omega)]; exact hzN
        have c3 : ((V.setCell ⟨g, 0, none⟩ (.int .i64 1)).setCell ⟨g, 1, none⟩ (.int .i64 1)).cell? ⟨g, N * 12 + 1, none⟩ = some (.int .i64 0) ∧ ((V.setCell ⟨g, 0, none⟩ (.int .i64 1)).setCell ⟨g, 1, none⟩ (.int .i64 1)).frozen? ⟨g, N * 12 + 1, none⟩ = false := L2.cell l2 (i := N) (j := 1) gN (by rw [fcl, HCN.out]; rfl)
        have L3 : Frs w.heap.size (((V.setCell ⟨g, 0, none⟩ (.int .i64 1)).setCell ⟨g, 1, none⟩ (.int .i64 1)).setCell ⟨g, N * 12 + 1, none⟩ (.int .i64 4)) (.slice (some ⟨g, 0, none⟩) (N + 1) cap) (((ls.set 0 (chK z0)).set 0 (chF 1 (chK z0))).set N (chF 4 zN)) := L2.set l2 (i := N) (j := 1) gN (by decide) rfl rfl rfl
        have HL3 : Hid (Frs w.heap.size (((V.setCell ⟨g, 0, none⟩ (.int .i64 1)).setCell ⟨g, 1, none⟩ (.int .i64 1)).setCell ⟨g, N * 12 + 1, none⟩ (.int .i64 4)) (.slice (some ⟨g, 0, none⟩) (N + 1) cap) (((ls.set 0 (chK z0)).set 0 (chF 1 (chK z0))).set N (chF 4 zN))) := L3
        have F3 : Hid (Fr (fun k => k = g) V (((V.setCell ⟨g, 0, none⟩ (.int .i64 1)).setCell ⟨g, 1, none⟩ (.int .i64 1)).setCell ⟨g, N * 12 + 1, none⟩ (.int .i64 4))) := (((Fr.refl _ _).setB _ _).setB _ _).setB _ _
        have HALL : Hid (∀ k z, (((ls.set 0 (chK z0)).set 0 (chF 1 (chK z0))).set N (chF 4 zN))[k]? = some z → z.1 = splitF sid X true M (N + 1) k) := fun k z hz => by
          by_cases hkN : k = N
          · subst hkN
            rw [List.getElem?_set_self (by simp only [List.length_set]; rw [HLEN.out]; omega)] at hz
            cases hz
            simp only [chF]; rw [HCN.out]; simp [splitF, contF, zeroF]; omega
          · rw [List.getElem?_set_ne (by omega)] at hz
            by_cases hk0 : k = 0
            · subst hk0
              rw [g2] at hz
              cases hz
              simp only [chK, chF]; rw [HC0.out]; simp [splitF, contF, zeroF]; omega
            · rw [List.getElem?_set_ne (by omega), List.getElem?_set_ne (by omega)] at hz
              rw [HAV.out k z hz]; simp [splitF, contF, hk0, zeroF]; omega
        obtain ⟨c0, y0⟩ := c0
        obtain ⟨c1, y1⟩ := c1
        obtain ⟨c3, y3⟩ := c3
        have q10 : (((V.setCell ⟨g, 0, none⟩ (.int .i64 1)).setCell ⟨g, 1, none⟩ (.int .i64 1)).setCell ⟨g, N * 12 + 1, none⟩ (.int .i64 4)).cell? ⟨w.heap.size + 1, 0, none⟩ = some (.slice (some ⟨g, 0, none⟩) (N + 1) cap) := cell_of_heap ((F3.out.block _ (lt_of_heap HBV.out) (by have := HGN.out; omega)).trans HBV.out) rfl
        have HK3 : Hid ((((V.setCell ⟨g, 0, none⟩ (.int .i64 1)).setCell ⟨g, 1, none⟩ (.int .i64 1)).setCell ⟨g, N * 12 + 1, none⟩ (.int .i64 4)).heap[D]? = some (.deferred (some []))) := (F3.out.block _ (lt_of_heap HKV.out) (fun e => HGD.out e.symm)).trans HKV.out
        clear L1 L2 L3 l1 g1 l2 g2 gN
        gi_wp2
        generalize (((V.setCell ⟨g, 0, none⟩ (.int .i64 1)).setCell ⟨g, 1, none⟩ (.int .i64 1)).setCell ⟨g, N * 12 + 1, none⟩ (.int .i64 4)) = V3 at q10 HK3 HL3 F3 ⊢
        refine ⟨by simp, .inl ⟨_, _, rfl, run_takeDeferred HK3.out, ?_⟩⟩
        have hfo : Fr (fun k => ∃ o : Obj, V3.heap[k]? = some o ∧ o.isCells = false) V3 (V3.putObj D (.deferred none)) := Fr.of_own (B := w.heap.size) (row := some D) (grownBy_putObj' V3 D _) (fun r e => by cases e; exact ⟨by have := HGN.out; omega, _, HK3.out, rfl⟩)
        have hfD : Fr (fun k => k = D) V3 (V3.putObj D (.deferred none)) := ⟨hfo.os, hfo.tape, hfo.output, hfo.size, fun k hk hs => (grownBy_putObj' V3 D _).block k hk (fun e => hs (by cases e; rfl))⟩
        refine ⟨.tuple #[.slice (some ⟨g, 0, none⟩) (N + 1) cap, .int .i64 0], ?_, g, cap, (((ls.set 0 (chK z0)).set 0 (chF 1 (chK z0))).set N (chF 4 zN)), ?_, ?_, ?_, ?_, ?_⟩
        · simp [results, Try.f10, go_sem]
        · simp only [List.length_set]; rw [HLEN.out]
        · simp only [List.length_set]; rw [HLEN.out, HN1.out]
        · rw [HN1.out]; exact HALL.out
        · have := HL3.out.own3 hfo
          simp only [List.length_set] at this ⊢
          rw [HLEN.out]; exact this
        · exact (((HFX.out.mono (T := fun k => w.heap.size ≤ k) (fun _ _ e => e.elim)).trans (F3.out.mono (fun k _ e => by have := HGN.out; omega))).trans (hfD.mono (fun k _ e => by have := HGN.out; omega))).mono (fun k hk e => by omega)
end Go.Proofs.Ytdndhidinbmpdaa
