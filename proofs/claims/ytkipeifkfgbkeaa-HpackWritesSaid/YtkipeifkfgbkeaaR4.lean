/- Contract of the document's bits (aqueductref03.bits). -/
import Derived.Test.YtkipeifkfgbkeaaR3
import Derived.Test.YtkipeifkfgbkeaaG1
namespace Go.Proofs.Ytkipeifkfgbkeaa
open Go.RowKit
set_option maxRecDepth 100000
set_option maxHeartbeats 4000000
set_option linter.unusedVariables false

/-- A bit as a number. -/
def b01 (l : List Bool) : List UInt8 := l.map fun b => if b then 1 else 0
theorem b01_len (l : List Bool) : (b01 l).length = l.length := by simp [b01]
theorem b01_append (l m : List Bool) : b01 (l ++ m) = b01 l ++ b01 m := by simp [b01]
theorem bitsN_at (n : Nat) : ∀ (w i : Nat), i < n → (bitsN n w)[i]? = some (w / 2 ^ (n - 1 - i) % 2 == 1) := by
  induction n with
  | zero => intro w i h; omega
  | succ n ih =>
    intro w i h
    rw [bitsN]
    by_cases hi : i < n
    · rw [List.getElem?_append_left (by rw [bitsN_len]; exact hi), ih _ _ hi, Nat.div_div_eq_div_mul, ← Nat.pow_succ', show (n - 1 - i).succ = n + 1 - 1 - i by omega]
    · obtain rfl : i = n := by omega
      rw [List.getElem?_append_right (by rw [bitsN_len]; omega), bitsN_len]
      simp
/-- The next bit of a code. -/
theorem code_bit (s n wd q : Nat) (hs : codeOf s = (wd, n)) (hq : q < n) : (code s).take (n - q) = (code s).take (n - (q + 1)) ++ [wd / 2 ^ q % 2 == 1] := by
  have h : (code s)[n - (q + 1)]? = some (wd / 2 ^ q % 2 == 1) := by
    rw [code, hs]
    have := bitsN_at n wd (n - (q + 1)) (by omega)
    rwa [show n - 1 - (n - (q + 1)) = q by omega] at this
  rw [show n - q = n - (q + 1) + 1 by omega, List.take_add_one, h]
  rfl

/-- Both tables lie in blocks gc and gs: a symbol's size is nought, or its code is there. -/
def Tabs (wr : World) (gc gs : Nat) : Prop := ∃ C S : Array Value, wr.heap[gc]? = some (.cells C 100 (0, 0)) ∧ wr.heap[gs]? = some (.cells S 101 (0, 0)) ∧ C.size = 256 ∧ S.size = 256 ∧
  ∀ j < 256, S[j]? = some (.int .i64 0) ∨ (S[j]? = some (.int .i64 (codeOf j).2) ∧ C[j]? = some (.int .u32 (codeOf j).1))
/-- Where bits stands. -/
structure BS (w1 wr : World) (gc gs : Nat) (v : Value) (out : List UInt8) : Prop where
  own : OwnAt wr 5 v (bv out)
  new : ∀ k, v.ownBlock = some k → w1.heap.size ≤ k
  fr : Fr (fun k => k = gc ∨ k = gs) w1 wr
  tabs : Tabs wr gc gs
theorem Tabs.keep {wr w' : World} {gc gs : Nat} (h : Tabs wr gc gs) (h1 : w'.heap[gc]? = wr.heap[gc]?) (h2 : w'.heap[gs]? = wr.heap[gs]?) : Tabs w' gc gs := by
  obtain ⟨C, S, a, b, c⟩ := h
  exact ⟨C, S, by rw [h1]; exact a, by rw [h2]; exact b, c⟩
theorem Tabs.lt {wr : World} {gc gs : Nat} (h : Tabs wr gc gs) : gc < wr.heap.size ∧ gs < wr.heap.size := by
  obtain ⟨C, S, a, b, c⟩ := h
  exact ⟨lt_of_heap a, lt_of_heap b⟩
theorem BS.old {w1 wr w' : World} {gc gs : Nat} {v : Value} {out : List UInt8} (h : BS w1 wr gc gs v out) (hf : Fr (fun _ => False) wr w') : BS w1 w' gc gs v out :=
  ⟨h.own.fr hf (fun _ _ => id), h.new, h.fr.trans (hf.mono (fun _ _ e => e.elim)), h.tabs.keep (hf.block _ h.tabs.lt.1 id) (hf.block _ h.tabs.lt.2 id)⟩
theorem BS.app {w1 wr w' : World} {gc gs : Nat} {v v' : Value} {out out' : List UInt8} (h : BS w1 wr gc gs v out) (hc : gc < w1.heap.size) (hs : gs < w1.heap.size) (hO : OwnAt w' 5 v' (bv out')) (hf : Fr (fun k => v.ownBlock = some k) wr w') (hk : v'.ownBlock = v.ownBlock ∨ ∃ k, v'.ownBlock = some k ∧ wr.heap.size ≤ k) : BS w1 w' gc gs v' out' := by
  have hsz := h.fr.size
  refine ⟨hO, fun k e => ?_, ?_, h.tabs.keep (hf.block _ h.tabs.lt.1 (fun e => by have := h.new _ e; omega)) (hf.block _ h.tabs.lt.2 (fun e => by have := h.new _ e; omega))⟩
  · rcases hk with h1 | ⟨k', h1, h2⟩
    · exact h.new k (h1 ▸ e)
    · rw [h1] at e
      cases e
      omega
  · have h1 : Fr (fun k => (k = gc ∨ k = gs) ∨ w1.heap.size ≤ k) w1 w' := (h.fr.mono (fun _ _ e => .inl e)).trans (hf.mono (fun k _ e => .inr (h.new k e)))
    exact h1.mono (fun k hk e => by rcases e with e | e; exact e; omega)
theorem BS.put {w1 wr : World} {gc gs : Nat} {v : Value} {out : List UInt8} (h : BS w1 wr gc gs v out) (hc : gc < w1.heap.size) (hs : gs < w1.heap.size) (hne : gc ≠ gs) (x : Nat) (hx : x < 256) :
    BS w1 ((wr.setCell ⟨gc, x, none⟩ (.int .u32 (codeOf x).1)).setCell ⟨gs, x, none⟩ (.int .i64 (codeOf x).2)) gc gs v out ∧ ((wr.setCell ⟨gc, x, none⟩ (.int .u32 (codeOf x).1)).setCell ⟨gs, x, none⟩ (.int .i64 (codeOf x).2)).cell? ⟨gc, x, none⟩ = some (.int .u32 (codeOf x).1) := by
  have hf1 : Fr (fun k => k = gc) wr (wr.setCell ⟨gc, x, none⟩ (.int .u32 (codeOf x).1)) := (Fr.refl _ _).setB x _
  have hf2 : Fr (fun k => k = gs) (wr.setCell ⟨gc, x, none⟩ (.int .u32 (codeOf x).1)) ((wr.setCell ⟨gc, x, none⟩ (.int .u32 (codeOf x).1)).setCell ⟨gs, x, none⟩ (.int .i64 (codeOf x).2)) := (Fr.refl _ _).setB x _
  have hff : Fr (fun k => k = gc ∨ k = gs) wr ((wr.setCell ⟨gc, x, none⟩ (.int .u32 (codeOf x).1)).setCell ⟨gs, x, none⟩ (.int .i64 (codeOf x).2)) := (hf1.mono (fun _ _ e => .inl e)).trans (hf2.mono (fun _ _ e => .inr e))
  obtain ⟨C, S, a, b, c1, c2, c3⟩ := h.tabs
  have hC : (wr.setCell ⟨gc, x, none⟩ (.int .u32 (codeOf x).1)).heap[gc]? = some (.cells (C.setIfInBounds x (.int .u32 (codeOf x).1)) 100 (0, 0)) := by
    rw [setCell_eq_setRow wr gc _ C _ _ _ a]; exact setRow_heap wr gc C _ _ _ a
  have hS0 : (wr.setCell ⟨gc, x, none⟩ (.int .u32 (codeOf x).1)).heap[gs]? = some (.cells S 101 (0, 0)) := by
    rw [hf1.block gs (lt_of_heap b) (fun e => hne e.symm)]; exact b
  have hC2 : ((wr.setCell ⟨gc, x, none⟩ (.int .u32 (codeOf x).1)).setCell ⟨gs, x, none⟩ (.int .i64 (codeOf x).2)).heap[gc]? = some (.cells (C.setIfInBounds x (.int .u32 (codeOf x).1)) 100 (0, 0)) := by
    rw [hf2.block gc (lt_of_heap hC) hne]; exact hC
  refine ⟨⟨h.own.fr hff (fun k hk e => by have := h.new k hk; omega), h.new, h.fr.trans hff, ?_⟩, cell_of_heap hC2 (by rw [Array.getElem?_setIfInBounds]; simp [c1, hx])⟩
  refine ⟨C.setIfInBounds x (.int .u32 (codeOf x).1), S.setIfInBounds x (.int .i64 (codeOf x).2), ?_, ?_, by simpa using c1, by simpa using c2, ?_⟩
  · exact hC2
  · rw [setCell_eq_setRow _ gs _ S _ _ _ hS0]; exact setRow_heap _ gs S _ _ _ hS0
  · intro j hj
    by_cases hjx : x = j
    · subst hjx
      exact .inr ⟨by rw [Array.getElem?_setIfInBounds]; simp [c2, hj], by rw [Array.getElem?_setIfInBounds]; simp [c1, hj]⟩
    · rw [Array.getElem?_setIfInBounds_ne hjx, Array.getElem?_setIfInBounds_ne hjx]
      exact c3 j hj
theorem Tabs.cells {wr : World} {gc gs : Nat} (h : Tabs wr gc gs) (x : Nat) (hx : x < 256) : (∃ u, wr.cell? ⟨gc, x, none⟩ = some u) ∧ wr.frozen? ⟨gc, x, none⟩ = false ∧ wr.frozen? ⟨gs, x, none⟩ = false ∧
    (wr.cell? ⟨gs, x, none⟩ = some (.int .i64 0) ∨ (wr.cell? ⟨gs, x, none⟩ = some (.int .i64 (codeOf x).2) ∧ wr.cell? ⟨gc, x, none⟩ = some (.int .u32 (codeOf x).1))) := by
  obtain ⟨C, S, a, b, c1, c2, c3⟩ := h
  refine ⟨⟨C[x]'(by omega), cell_of_heap a (by simp [c1, hx])⟩, frozen_of_heap a, frozen_of_heap b, ?_⟩
  rcases c3 x hx with h | ⟨h1, h2⟩
  · exact .inl (cell_of_heap b h)
  · exact .inr ⟨cell_of_heap b h1, cell_of_heap a h2⟩

theorem zero_rcodes : ∃ Z1 Z2 : List Value, (∀ w, (zeroValue 100).run Try.prog w = .ok (.agg Z1.toArray) w) ∧ (∀ w, (zeroValue 101).run Try.prog w = .ok (.agg Z2.toArray) w) ∧ Z1.toArray.size = 256 ∧ Z2.toArray.size = 256 ∧ ∀ j < 256, Z2.toArray[j]? = some (.int .i64 0) :=
  ⟨List.replicate 256 (.int .u32 0), List.replicate 256 (.int .i64 0), (zero_of_info (n := 256) (by kernel_rfl)).1, (zero_of_info (n := 256) (by kernel_rfl)).1, by rw [List.size_toArray, List.length_replicate], by rw [List.size_toArray, List.length_replicate], by intro j hj; rw [List.getElem?_toArray, List.getElem?_replicate, if_pos hj]⟩
theorem bs_start (w : World) (Z1 Z2 : List Value) (h1 : Z1.toArray.size = 256) (h2 : Z2.toArray.size = 256) (h3 : ∀ j < 256, Z2.toArray[j]? = some (.int .i64 0)) : BS ((w.alloc (.cells Z1.toArray 100)).alloc (.cells Z2.toArray 101)) ((w.alloc (.cells Z1.toArray 100)).alloc (.cells Z2.toArray 101)) w.heap.size (w.heap.size + 1) (.slice none 0 0) [] :=
  ⟨OwnAt.nil _ _, fun k hk => by simp [Value.ownBlock] at hk, Fr.refl _ _, _, _, past_at _ (last_at _ rfl), last_at _ (by simp), h1, h2, fun j hj => .inl (h3 j hj)⟩

theorem rbits_any (a : Option Addr) (len cap : Nat) (w : World) (X : List UInt8) (hs : SrcAt w a X) (hl : X.length = len) (hm : len ≤ 1099511627776) :
    Calls Try.prog 56 #[.slice a len cap] w fun e w' => ∃ v, e = .returned v ∧ Gath w w' v (b01 (padded (enc X))) := by
  obtain ⟨i, hi1, hi2, hi3, hi4⟩ := info5
  have J1 : Hid (Try.prog.info? 5 = some i) := hi1
  have J2 : Hid (i.zero = some (.int .u8 0)) := hi2
  have J3 : Hid (i.size = 1) := hi3
  have J4 : Hid (i.bytes = 1) := hi4
  obtain ⟨Z1, Z2, z1, z2, z3, z4, z5⟩ := zero_rcodes
  have HB0 : Hid (BS ((w.alloc (.cells Z1.toArray 100)).alloc (.cells Z2.toArray 101)) ((w.alloc (.cells Z1.toArray 100)).alloc (.cells Z2.toArray 101)) w.heap.size (w.heap.size + 1) (.slice none 0 0) []) := bs_start w Z1 Z2 z3 z4 z5
  have hf1 : Fr (fun _ => False) w ((w.alloc (.cells Z1.toArray 100)).alloc (.cells Z2.toArray 101)) := ((Fr.refl _ _).alloc _).alloc _
  have HF1 : Hid (Fr (fun _ => False) w ((w.alloc (.cells Z1.toArray 100)).alloc (.cells Z2.toArray 101))) := hf1
  have HS : Hid (SrcAt w a X) := hs
  have hsz1 : ((w.alloc (.cells Z1.toArray 100)).alloc (.cells Z2.toArray 101)).heap.size = w.heap.size + 2 := by simp
  obtain ⟨W1, hW1⟩ : ∃ W1, W1 = (w.alloc (.cells Z1.toArray 100)).alloc (.cells Z2.toArray 101) := ⟨_, rfl⟩
  rw [← hW1] at HB0 HF1 hsz1
  have HW1 : Hid (W1 = (w.alloc (.cells Z1.toArray 100)).alloc (.cells Z2.toArray 101)) := hW1
  clear hi1 hi2 hi3 hi4 hs z3 z4 z5 hf1 hW1
  go_enter Try.func56, Try.ntmps56
  go_wp2_with (fail)
  rw [← HW1.out]
  clear z1 z2 HW1
  go_loopw [5, 6] (fun v5 v6 wr => ∃ (k no co : Nat) (ao : Option Addr), k ≤ len ∧ v6 = .int .i64 k ∧ v5 = .slice ao no co ∧ Hid (BS W1 wr w.heap.size (w.heap.size + 1) (.slice ao no co) (b01 (enc (X.take k))))) (fun _ v6 _ => len - (intOf v6).toNat)
  case atStart => exact ⟨0, 0, 0, none, by omega, rfl, rfl, HB0⟩
  case round =>
    clear HB0
    rename World => wo
    obtain ⟨k, no, co, ao, hk, rfl, rfl, HB⟩ := hrel
    have HFo : Hid (Fr (fun _ => False) w wo) := by
      have h1 : Fr (fun k => w.heap.size ≤ k) w wo := (HF1.out.mono (fun _ _ e => e.elim)).trans (HB.out.fr.mono (fun k _ e => by omega))
      exact h1.old
    have HEL : Hid ((enc (X.take k)).length ≤ 30 * len) := by
      show _ ≤ _
      rw [enc_len, ← hl]; exact sumBits_take X k
    by_cases hlt : k < len
    · have hci : (k : Int) < len := by omega
      obtain ⟨ad, x, rfl, hx, hc⟩ := src_at (HS.out.oldF HFo.out) k (by omega)
      have hx8 : x.toNat < 256 := UInt8.toNat_lt x
      have hx8i : (x.toNat : Int) < 256 := by omega
      have hcv : codeVal (x.toNat : Int) = .tuple #[.int .u32 (codeOf x.toNat).1, .int .i64 (codeOf x.toNat).2, .int .i64 0] := codeVal_hit x.toNat _ _ (byte_le x) rfl
      have hsz := code_size x.toNat (byte_le x)
      have HCB := fun q hq => code_bit x.toNat (codeOf x.toNat).2 (codeOf x.toNat).1 q rfl hq
      have HCL : Hid ((code x.toNat).length = (codeOf x.toNat).2) := code_len x.toNat
      have HPUT : Hid (∀ wr v out, BS W1 wr w.heap.size (w.heap.size + 1) v out → BS W1 ((wr.setCell ⟨w.heap.size, x.toNat, none⟩ (.int .u32 (codeOf x.toNat).1)).setCell ⟨w.heap.size + 1, x.toNat, none⟩ (.int .i64 (codeOf x.toNat).2)) w.heap.size (w.heap.size + 1) v out ∧ ((wr.setCell ⟨w.heap.size, x.toNat, none⟩ (.int .u32 (codeOf x.toNat).1)).setCell ⟨w.heap.size + 1, x.toNat, none⟩ (.int .i64 (codeOf x.toNat).2)).cell? ⟨w.heap.size, x.toNat, none⟩ = some (.int .u32 (codeOf x.toNat).1)) := fun wr v out h => h.put (by omega) (by omega) (by omega) x.toNat hx8
      have HTC : Hid (∀ wr, Tabs wr w.heap.size (w.heap.size + 1) → (∃ u, wr.cell? ⟨w.heap.size, x.toNat, none⟩ = some u) ∧ wr.frozen? ⟨w.heap.size, x.toNat, none⟩ = false ∧ wr.frozen? ⟨w.heap.size + 1, x.toNat, none⟩ = false ∧
    (wr.cell? ⟨w.heap.size + 1, x.toNat, none⟩ = some (.int .i64 0) ∨ (wr.cell? ⟨w.heap.size + 1, x.toNat, none⟩ = some (.int .i64 (codeOf x.toNat).2) ∧ wr.cell? ⟨w.heap.size, x.toNat, none⟩ = some (.int .u32 (codeOf x.toNat).1)))) := fun wr h => h.cells x.toNat hx8
      obtain ⟨n, hn⟩ : ∃ n, n = (codeOf x.toNat).2 := ⟨_, rfl⟩
      obtain ⟨wd, hwd⟩ : ∃ wd, wd = (codeOf x.toNat).1 := ⟨_, rfl⟩
      rw [← hn] at hcv hsz HCB HCL HPUT HTC
      rw [← hwd] at hcv hsz HCB HPUT HTC
      obtain ⟨hz1, hz2, hz3⟩ := hsz
      have hwd2 : wd < 4294967296 := Nat.lt_of_lt_of_le hz3 (Nat.le_trans (Nat.pow_le_pow_right (by omega) hz2) (by decide))
      have HK : Hid (∀ w, Calls Try.prog 59 #[.int .i64 x.toNat] w fun e w' => e = .returned (codeVal x.toNat) ∧ Fr (fun _ => False) w w') := fun w => rcode_any x.toNat w
      rw [hcv] at HK
      have HCB' : Hid (∀ q, q < n → (code x.toNat).take (n - q) = (code x.toNat).take (n - (q + 1)) ++ [wd / 2 ^ q % 2 == 1]) := HCB
      have HX : Hid (X[k]? = some x) := hx
      have hn0 : ¬ (n : Int) = 0 := by omega
      clear hcv HCB hz3 hn hwd hx
      obtain ⟨⟨u, hu⟩, hf1, hf2, hcase⟩ := HTC.out wo HB.out.tabs
      rcases hcase with h0 | ⟨hcs, hcc⟩
      case' inl =>
        clear hu hf1 hf2
        go_wp2_with (fail)
        refine (HK.out wo).mono ?_
        rintro e w2 ⟨rfl, hf⟩
        have hb2 := HB.out.old hf
        have h0' : w2.cell? ⟨w.heap.size + 1, x.toNat, none⟩ = some (.int .i64 0) := by rw [hf.cell (p := ⟨w.heap.size + 1, x.toNat, none⟩) HB.out.tabs.lt.2 id]; exact h0
        obtain ⟨⟨u2, hu2⟩, hf1', hf2', -⟩ := HTC.out w2 hb2.tabs
        have HB3 := HPUT.out w2 _ _ hb2
        have hgs : w.heap.size + 1 < w2.heap.size := hb2.tabs.lt.2
        have HB2 : Hid (_ ∧ _) := HB3
        clear hf hb2 HB3 h0
        go_wp2_with (fail)
        generalize hwq : (w2.setCell { block := w.heap.size, off := x.toNat } (Value.int IntKind.u32 (wd : Int))).setCell { block := w.heap.size + 1, off := x.toNat } (Value.int IntKind.i64 (n : Int)) = wq at *
        have HBq : Hid (BS W1 wq w.heap.size (w.heap.size + 1) (.slice ao no co) (b01 (enc (X.take k))) ∧ wq.cell? ⟨w.heap.size, x.toNat, none⟩ = some (.int .u32 (wd : Int))) := HB2.out
        clear h0' hu2 hf1' hf2' hwq HB2 hgs
      case' inr =>
        have HB2 : Hid (BS W1 wo w.heap.size (w.heap.size + 1) (.slice ao no co) (b01 (enc (X.take k))) ∧ wo.cell? ⟨w.heap.size, x.toNat, none⟩ = some (.int .u32 (wd : Int))) := ⟨HB.out, hcc⟩
        have hnb : ((n : Int) == 0) = false := by simp; omega
        clear hu hf1 hf2 hcc
        go_wp2_with (fail)
        obtain ⟨wq, hwq⟩ : ∃ wq, wq = wo := ⟨_, rfl⟩
        rw [← hwq]
        have HBq : Hid (BS W1 wq w.heap.size (w.heap.size + 1) (.slice ao no co) (b01 (enc (X.take k))) ∧ wq.cell? ⟨w.heap.size, x.toNat, none⟩ = some (.int .u32 (wd : Int))) := hwq ▸ HB2.out
        clear hwq HB2 hcs hnb
      all_goals
        go_loopw [5, 8] (fun v5 v8 wr => ∃ (j no co : Nat) (ao : Option Addr), j ≤ n ∧ v8 = .int .i64 ((j : Int) - 1) ∧ v5 = .slice ao no co ∧ Hid (BS W1 wr w.heap.size (w.heap.size + 1) (.slice ao no co) (b01 (enc (X.take k) ++ (code x.toNat).take (n - j))) ∧ wr.cell? ⟨w.heap.size, x.toNat, none⟩ = some (.int .u32 (wd : Int)))) (fun _ v8 _ => (intOf v8 + 1).toNat)
        case atStart => exact ⟨n, no, co, ao, by omega, rfl, rfl, by have := HBq.out; show _ ∧ _; simpa using this⟩
        case round =>
          clear HBq HB HTC HPUT HK
          obtain ⟨j, no, co, ao, hj, rfl, rfl, HBr⟩ := hrel
          cases j with
          | zero =>
            have hj0 : ¬ (0 : Int) ≤ ((0 : Nat) : Int) - 1 := by omega
            have HE : Hid (BS W1 wr w.heap.size (w.heap.size + 1) (.slice ao no co) (b01 (enc (X.take (k + 1))))) := by
              have h := HBr.out.1
              rw [Nat.sub_zero, ← HCL.out, List.take_length] at h
              rw [List.take_add_one, HX.out, Option.toList, enc_append, show enc [x] = code x.toNat by simp [enc]]
              exact h
            clear HBr
            go_wp2_with (fail)
            go_roundw
            case rel => exact ⟨k + 1, no, co, ao, by omega, by go_num, rfl, HE⟩
            case measure => simp [intOf]; omega
          | succ q =>
            have hqi : ((q + 1 : Nat) : Int) - 1 = (q : Int) := by omega
            rw [hqi]
            have hcc := HBr.out.2
            obtain ⟨c, hcd⟩ : ∃ c : UInt8, c = if (wd / 2 ^ q % 2 == 1) then 1 else 0 := ⟨_, rfl⟩
            have hcn : wd / 2 ^ q % 2 = c.toNat := by
              rcases Nat.mod_two_eq_zero_or_one (wd / 2 ^ q) with h | h <;> rw [hcd, h] <;> rfl
            have hcl : c.toNat < 2 := by omega
            obtain ⟨d, hd⟩ : ∃ d, d = wd / 2 ^ q := ⟨_, rfl⟩
            have hdi : (wd : Int) / 2 ^ q = (d : Int) := by
              rw [hd, show (2 : Int) ^ q = ((2 ^ q : Nat) : Int) by push_cast; rfl]
              omega
            have hdl : d < 4294967296 := by rw [hd]; exact Nat.lt_of_le_of_lt (Nat.div_le_self _ _) hwd2
            have hbv : (d : Int) % 2 = (c.toNat : Int) := by rw [← hd] at hcn; omega
            have HT : Hid (b01 (enc (X.take k) ++ (code x.toNat).take (n - q)) = b01 (enc (X.take k) ++ (code x.toNat).take (n - (q + 1))) ++ [c]) := by
              show _ = _
              rw [HCB'.out q (by omega), ← List.append_assoc, b01_append _ [_], hcd]
              rfl
            have HG : Hid (OwnAt (wr.alloc (.cells #[.int .u8 c.toNat] 5)) 5 (.slice ao no co) (bv (b01 (enc (X.take k) ++ (code x.toNat).take (n - (q + 1)))))) := HBr.out.1.own.fr ((Fr.refl (fun _ => False) _).alloc _) (fun _ _ => id)
            have HSO : Hid (SrcAt (wr.alloc (.cells #[.int .u8 c.toNat] 5)) (some ⟨wr.heap.size, 0, none⟩) [c]) := src_one wr c
            have HBd : Hid ((b01 (enc (X.take k) ++ (code x.toNat).take (n - (q + 1)))).length + 1 ≤ 225179981368371) := by
              show _ ≤ _
              have h1 := HEL.out
              have h2 := HCL.out
              rw [b01_len, List.length_append, List.length_take]
              omega
            have hq2 : q < 18446744073709551616 := by omega
            clear hcd hcn hd
            go_wp2_with (at_builtin; refine wpList_append_bytes rfl (.tmp 42) (.tmp 51) 35 35 rfl 5 i Try.underlying35 Try.underlying35 J1.out J2.out J3.out J4.out (.slice ao no co) _ (by go_simp) HG.out (some ⟨wr.heap.size, 0, none⟩) 1 1 (by go_simp) [c] HSO.out rfl HBd.out ?_; intro a4 n4 c4 w4 Hn4 hown4 hf4 hk4)
            have HB4 : Hid (BS W1 w4 w.heap.size (w.heap.size + 1) (.slice a4 n4 c4) (b01 (enc (X.take k) ++ (code x.toNat).take (n - q))) ∧ w4.cell? ⟨w.heap.size, x.toNat, none⟩ = some (.int .u32 (wd : Int))) := by
              have h1 := (HBr.out.1.old ((Fr.refl _ _).alloc (.cells #[.int .u8 c.toNat] 5))).app (by omega) (by omega) hown4 hf4.out hk4.out
              refine ⟨HT.out ▸ h1, ?_⟩
              have hnw : ∀ k, (Value.slice ao no co).ownBlock = some k → W1.heap.size ≤ k := HBr.out.1.new
              have hgt := HBr.out.1.tabs.lt.1
              rw [hf4.out.cell (p := ⟨w.heap.size, x.toNat, none⟩) (by simp; omega) (fun e => by have h9 : W1.heap.size ≤ w.heap.size := hnw _ e; omega)]
              rw [((Fr.refl (fun _ => False) wr).alloc (.cells #[.int .u8 c.toNat] 5)).cell (p := ⟨w.heap.size, x.toNat, none⟩) hgt id]
              exact HBr.out.2
            clear hown4 hf4 hk4 Hn4
            go_wp2_with (fail)
            go_roundw
            case rel =>
              exact ⟨q, n4, c4, a4, by omega, rfl, rfl, HB4⟩
            case measure => simp [intOf]
    · obtain rfl : k = len := by omega
      have hci : ¬ (k : Int) < k := by omega
      rw [List.take_of_length_le (by omega)] at HB HEL
      obtain ⟨E, hE⟩ : ∃ E, E = enc X := ⟨_, rfl⟩
      rw [← hE] at HB HEL
      have HEE : Hid (E = enc X) := hE
      have hEl := HEL.out
      have HW : Hid (Fr (fun _ => False) w W1) := HF1
      clear hE HS hl
      go_wp2_with (fail)
      go_loopw [5] (fun v5 wr => ∃ (t no co : Nat) (ao : Option Addr), t ≤ padN E.length ∧ v5 = .slice ao no co ∧ Hid (BS W1 wr w.heap.size (w.heap.size + 1) (.slice ao no co) (b01 (E ++ List.replicate t true)))) (fun v5 _ => match v5 with | .slice _ n _ => E.length + 8 - n | _ => 0)
      case atStart => exact ⟨0, no, co, ao, by omega, rfl, by have := HB.out; show BS _ _ _ _ _ _; simpa using this⟩
      case round =>
        clear HB HFo
        obtain ⟨t, no, co, ao, ht, rfl, HBr⟩ := hrel
        have hno : no = E.length + t := by
          have := (own_len HBr.out.own).1
          rw [b01_len] at this
          simpa using this
        have hpad : padN E.length = (8 - E.length % 8) % 8 := rfl
        by_cases htp : t < padN E.length
        · have hrem : ¬ (no : Int) % 8 = 0 := by omega
          have HT : Hid (b01 (E ++ List.replicate (t + 1) true) = b01 (E ++ List.replicate t true) ++ [1]) := by
            show _ = _
            rw [List.replicate_succ', ← List.append_assoc, b01_append _ [true]]
            rfl
          have HG : Hid (OwnAt (wr.alloc (.cells #[.int .u8 1] 5)) 5 (.slice ao no co) (bv (b01 (E ++ List.replicate t true)))) := HBr.out.own.fr ((Fr.refl (fun _ => False) _).alloc _) (fun _ _ => id)
          have HSO : Hid (SrcAt (wr.alloc (.cells #[.int .u8 1] 5)) (some ⟨wr.heap.size, 0, none⟩) [1]) := src_one wr 1
          have HBd : Hid ((b01 (E ++ List.replicate t true)).length + 1 ≤ 225179981368371) := by
            show _ ≤ _
            rw [b01_len, List.length_append, List.length_replicate]
            omega
          have hnob : no < 9223372036854775808 := by omega
          have ht7 : t < 7 := by omega
          clear hpad
          go_wp2_with (at_builtin; refine wpList_append_bytes rfl (.tmp 57) (.tmp 58) 35 35 rfl 5 i Try.underlying35 Try.underlying35 J1.out J2.out J3.out J4.out (.slice ao no co) _ (by go_simp) HG.out (some ⟨wr.heap.size, 0, none⟩) 1 1 (by go_simp) [1] HSO.out rfl HBd.out ?_; intro a4 n4 c4 w4 Hn4 hown4 hf4 hk4)
          have HB4 : Hid (BS W1 w4 w.heap.size (w.heap.size + 1) (.slice a4 n4 c4) (b01 (E ++ List.replicate (t + 1) true))) := by
            have h1 := (HBr.out.old ((Fr.refl _ _).alloc (.cells #[.int .u8 1] 5))).app (by omega) (by omega) hown4 hf4.out hk4.out
            exact HT.out ▸ h1
          have HN4 : Hid (n4 = no + 1) := by
            have := (own_len HB4.out.own).1
            rw [b01_len] at this
            show _ = _
            rw [this]
            simp
            omega
          clear hown4 hf4 hk4 Hn4
          go_wp2_with (fail)
          go_roundw
          case rel => exact ⟨t + 1, n4, c4, a4, by omega, rfl, HB4⟩
          case measure =>
            have := HN4.out
            simp
            omega
        · have hrem : (no : Int) % 8 = 0 := by omega
          have hnob : no < 9223372036854775808 := by omega
          have HD : Hid (b01 (E ++ List.replicate t true) = b01 (padded E)) := by
            show _ = _
            rw [padded, show padN E.length = t by omega]
          clear hpad
          go_wp2_with (fail)
          go_ret
          have h := HBr.out
          rw [HD.out, HEE.out] at h
          refine ⟨_, rfl, h.own, fun k e => Nat.le_trans HF1.out.size (h.new k e), ?_⟩
          have h1 : Fr (fun k => w.heap.size ≤ k) w wr := (HF1.out.mono (fun _ _ e => e.elim)).trans (h.fr.mono (fun k _ e => by omega))
          exact h1.old

end Go.Proofs.Ytkipeifkfgbkeaa
