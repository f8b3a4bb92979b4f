/- Contracts of package chunk's Queue: Add. -/
import Derived.Test.YtaflgioelblcgaaR7
import Derived.Test.YtaflgioelblcgaaA1
namespace Go.Proofs.Ytaflgioelblcgaa
open Go.RowKit
set_option linter.unusedVariables false

/-- How many bytes the chunks have together. -/
def total (L : List (List UInt8)) : Nat := (L.map List.length).sum

/-- The value u is a chunk that holds c, in a row that lies in none of the blocks b and own. -/
def ChunkAt (w : World) (b : Nat) (own : Option Nat) (u : Value) (c : List UInt8) : Prop :=
  0 < c.length ∧ ∃ g o cur, u = .slice (some ⟨g, o, none⟩) c.length c.length ∧ w.heap[g]? = some (.cells (bv cur).toArray 5 (0, 0)) ∧ (cur.drop o).take c.length = c ∧ g ≠ b ∧ own ≠ some g

/-- The queue in block b, its list of chunks being v, holds the chunks L. -/
def QueueIs (w : World) (b : Nat) (v : Value) (L : List (List UInt8)) : Prop :=
  ∃ xs, w.heap[b]? = some (.cells #[.int .i64 (total L : Nat), .bool true, v] 58 (0, 0)) ∧ OwnAt w 31 v xs ∧ v.ownBlock ≠ some b ∧ xs.length = L.length ∧ L.length ≤ 4096 ∧
    ∀ (j : Nat) c, L[j]? = some c → ∃ u, xs[j]? = some u ∧ ChunkAt w b v.ownBlock u c

theorem cell3 {w : World} {b : Nat} {v0 v1 v2 : Value} {t : TypeId} (h : w.heap[b]? = some (.cells #[v0, v1, v2] t (0, 0))) :
    w.cell? ⟨b, 0, none⟩ = some v0 ∧ w.cell? ⟨b, 1, none⟩ = some v1 ∧ w.cell? ⟨b, 2, none⟩ = some v2 :=
  ⟨cell_of_heap h rfl, cell_of_heap h rfl, cell_of_heap h rfl⟩

theorem QueueIs.cells {w : World} {b : Nat} {v : Value} {L : List (List UInt8)} (h : QueueIs w b v L) :
    w.cell? ⟨b, 0, none⟩ = some (.int .i64 (total L : Nat)) ∧ w.cell? ⟨b, 1, none⟩ = some (.bool true) ∧ (∃ a cap, v = .slice a L.length cap ∧ w.cell? ⟨b, 2, none⟩ = some (.slice a L.length cap)) ∧ L.length ≤ 4096 := by
  obtain ⟨xs, hbk, hown, hvb, hxl, hL, hch⟩ := h
  obtain ⟨c0, c1, c2⟩ := cell3 hbk
  obtain ⟨a, cap, hv, hcap⟩ := hown.form
  rw [hxl] at hv
  subst hv
  exact ⟨c0, c1, ⟨a, cap, rfl, c2⟩, hL⟩

theorem newQueue_any (w : World) : Calls Try.prog 18 #[] w fun e w' => e = .returned (.pointer (some ⟨w.heap.size, 0, none⟩)) ∧ QueueIs w' w.heap.size (.slice none 0 0) [] ∧ Fr (fun _ => False) w w' := by
  go_enter Try.func18, Try.ntmps18
  go_wp2
  go_ret
  refine ⟨rfl, ⟨[], heap_alloc_new w _, OwnAt.nil _ _, by simp [Value.ownBlock], rfl, by simp, fun j c h => by simp at h⟩, (Fr.refl _ _).alloc _⟩

set_option maxRecDepth 100000 in
theorem add_full (b : Nat) (v : Value) (L : List (List UInt8)) (sp : Option Addr) (slen scap : Nat) (w : World) (hq : QueueIs w b v L) (hL : L.length = 4096) :
    Calls Try.prog 19 #[.pointer (some ⟨b, 0, none⟩), .slice sp slen scap] w fun e w' => e = .returned (.int .i64 9) ∧ w' = w := by
  obtain ⟨c0, c1, ⟨a, cap, rfl, c2⟩, -⟩ := hq.cells
  rw [hL] at c2
  clear hq hL
  go_enter Try.func19, Try.ntmps19
  go_wp2
  go_ret
  exact ⟨rfl, rfl⟩

set_option maxRecDepth 100000 in
theorem add_empty (b : Nat) (v : Value) (L : List (List UInt8)) (sp : Option Addr) (scap : Nat) (w : World) (hq : QueueIs w b v L) (hL : L.length < 4096) :
    Calls Try.prog 19 #[.pointer (some ⟨b, 0, none⟩), .slice sp 0 scap] w fun e w' => e = .returned (.int .i64 0) ∧ w' = w := by
  obtain ⟨c0, c1, ⟨a, cap, rfl, c2⟩, -⟩ := hq.cells
  have hL' : (L.length : Int) < 4096 := by omega
  clear hq
  go_enter Try.func19, Try.ntmps19
  go_wp2
  go_ret
  exact ⟨rfl, rfl⟩

theorem total_snoc (L : List (List UInt8)) (c : List UInt8) : total (L ++ [c]) = total L + c.length := by simp [total]

theorem queue_added {w w3 w4 : World} {b : Nat} {v : Value} {L : List (List UInt8)} {xs : List Value} {bs : List UInt8} {a4 : Option Addr} {c4 slen : Nat} {o : Obj} {T : Nat} {v3 : Value}
    (hbs : b < w.heap.size) (hT : T = total L) (hL : L.length < 4096) (hown : OwnAt w 31 v xs) (hvb : v.ownBlock ≠ some b) (hxl : xs.length = L.length)
    (hch : ∀ (j : Nat) c, L[j]? = some c → ∃ u, xs[j]? = some u ∧ ChunkAt w b v.ownBlock u c)
    (hf3 : Fr (fun k => k = b) w w3) (hd3 : w3.heap[w.heap.size]? = some (.cells (bv bs).toArray 5 (0, 0))) (hlen : bs.length = slen) (h0 : 0 < slen)
    (hf4 : Fr (fun k => v.ownBlock = some k) (w3.alloc o) w4) (hown4 : OwnAt w4 31 (.slice a4 (xs.length + 1) c4) (xs ++ [.slice (some ⟨w.heap.size, 0, none⟩) slen slen]))
    (hk4 : (Value.slice a4 (xs.length + 1) c4).ownBlock = v.ownBlock ∨ ∃ k, (Value.slice a4 (xs.length + 1) c4).ownBlock = some k ∧ (w3.alloc o).heap.size ≤ k)
    (hb4 : w4.heap[b]? = some (.cells #[.int .i64 ((T : Int) + (bs.length : Int)), .bool true, v3] 58 (0, 0))) :
    QueueIs (w4.setCell ⟨b, 2, none⟩ (.slice a4 (xs.length + 1) c4)) b (.slice a4 (xs.length + 1) c4) (L ++ [bs]) ∧
      Fr (fun k => k = b ∨ v.ownBlock = some k) w (w4.setCell ⟨b, 2, none⟩ (.slice a4 (xs.length + 1) c4)) ∧
      ((Value.slice a4 (xs.length + 1) c4).ownBlock = v.ownBlock ∨ ∃ k, (Value.slice a4 (xs.length + 1) c4).ownBlock = some k ∧ w.heap.size ≤ k) := by
  obtain ⟨v4, hv4⟩ : ∃ v4, v4 = Value.slice a4 (xs.length + 1) c4 := ⟨_, rfl⟩
  rw [← hv4] at hown4 hk4 ⊢
  have hs3 : w.heap.size < w3.heap.size := lt_of_heap hd3
  have hsa : (w3.alloc o).heap.size = w3.heap.size + 1 := by simp
  have hvb4 : v4.ownBlock ≠ some b := by
    rcases hk4 with h | ⟨k, h, hk⟩
    · rw [h]; exact hvb
    · rw [h]; intro e; cases e; omega
  have far : ∀ g, g < w3.heap.size → v.ownBlock ≠ some g → v4.ownBlock ≠ some g := by
    intro g hg h
    rcases hk4 with h' | ⟨k, h', hk⟩
    · rw [h']; exact h
    · rw [h']; intro e; cases e; omega
  have keep : ∀ g, g < w3.heap.size → g ≠ b → v.ownBlock ≠ some g → (w4.setCell ⟨b, 2, none⟩ v4).heap[g]? = w3.heap[g]? := by
    intro g hg hgb hgo
    rw [setCell_other _ hgb, hf4.block g (by omega) hgo]
    exact Below.heap_alloc w3 _ g hg
  refine ⟨⟨xs ++ [.slice (some ⟨w.heap.size, 0, none⟩) slen slen], ?_, ?_, hvb4, by simp [hxl], by simp; omega, ?_⟩, ?_, ?_⟩
  · rw [total_snoc, ← hT, Int.natCast_add]; exact setCell_heap _ hb4
  · exact hown4.fr (S := fun k => k = b) (Fr.setB (Fr.refl _ _) _ _) (fun k hk e => hvb4 (by rw [hk, e]))
  · intro j c hj
    by_cases hjl : j < L.length
    · rw [List.getElem?_append_left hjl] at hj
      obtain ⟨u, hu, hpos, g, o', cur, e1, e2, e3, e4, e5⟩ := hch j c hj
      have hg := lt_of_heap e2
      refine ⟨u, by rw [List.getElem?_append_left (by omega)]; exact hu, hpos, g, o', cur, e1, ?_, e3, e4, far g (by omega) e5⟩
      rw [keep g (by omega) e4 e5, hf3.block g hg e4]
      exact e2
    · rw [List.getElem?_append_right (by omega)] at hj
      have hj0 : j - L.length = 0 := by
        have := (List.getElem?_eq_some_iff.1 hj).1
        simp at this; omega
      rw [hj0] at hj
      simp at hj
      subst hj
      refine ⟨.slice (some ⟨w.heap.size, 0, none⟩) slen slen, by rw [List.getElem?_append_right (by omega), hxl, hj0]; rfl, by omega, w.heap.size, 0, bs, by rw [hlen], ?_, by simp, by omega, ?_⟩
      · rw [keep _ hs3 (by omega) (fun e => by have := hown.lt _ e; omega)]; exact hd3
      · exact far _ hs3 (fun e => by have := hown.lt _ e; omega)
  · have h1 : Fr (fun k => k = b ∨ v.ownBlock = some k) w w4 := Fr.trans ((hf3.mono (fun k _ e => .inl e)).alloc o) (hf4.mono (fun k _ e => .inr e))
    exact h1.setS (c := b) (.inl rfl) _ _
  · rcases hk4 with h | ⟨k, h, hk⟩
    · exact .inl h
    · exact .inr ⟨k, h, by omega⟩

theorem info31 : ∃ i, Try.prog.info? 31 = some i ∧ i.zero = some (.slice none 0 0) ∧ i.size = 1 ∧ i.bytes = 24 := ⟨(Try.prog.info? 31).get (by kernel_rfl), by kernel_rfl, by kernel_rfl, by kernel_rfl, by kernel_rfl⟩
theorem info5 : ∃ i, Try.prog.info? 5 = some i ∧ i.zero = some (.int .u8 0) ∧ i.size = 1 ∧ i.bytes = 1 := ⟨(Try.prog.info? 5).get (by kernel_rfl), by kernel_rfl, by kernel_rfl, by kernel_rfl, by kernel_rfl⟩

set_option maxHeartbeats 1000000 in
set_option maxRecDepth 100000 in
theorem add_some (b : Nat) (v : Value) (L : List (List UInt8)) (sp : Option Addr) (slen scap : Nat) (bs : List UInt8) (w : World) (hq : QueueIs w b v L) (hL : L.length < 4096)
    (hs : SrcAt w sp bs) (hlen : bs.length = slen) (h0 : 0 < slen) (hmax : slen ≤ 1048576) (htot : total L ≤ 1073741824) :
    Calls Try.prog 19 #[.pointer (some ⟨b, 0, none⟩), .slice sp slen scap] w fun e w' => e = .returned (.int .i64 0) ∧
      ∃ v', QueueIs w' b v' (L ++ [bs]) ∧ Fr (fun k => k = b ∨ v.ownBlock = some k) w w' ∧ (v'.ownBlock = v.ownBlock ∨ ∃ k, v'.ownBlock = some k ∧ w.heap.size ≤ k) := by
  obtain ⟨c0, c1, ⟨a, cap, hv, c2⟩, -⟩ := hq.cells
  have hL' : (L.length : Int) < 4096 := by omega
  have hne : ((slen : Int) == 0) = false := by simp; omega
  have hdec : decide ((4096 : Int) ≤ (L.length : Int)) = false := by simp; omega
  have hmk := make_bytes slen (by omega)
  have HQ : Hid (QueueIs w b v L) := hq
  have HV : Hid (v = .slice a L.length cap) := hv
  have HLEN : Hid (bs.length = slen) := hlen
  have h0' : (0 : Int) < (slen : Int) := by omega
  obtain ⟨T, hT⟩ : ∃ T, T = total L := ⟨_, rfl⟩
  rw [← hT] at c0 htot
  have HT : Hid (T = total L) := hT
  have hh1 : (T : Int) ≤ 1073741824 := by omega
  have hwr : IntKind.i64.wrap ((T : Int) + (bs.length : Int)) = (T : Int) + (bs.length : Int) := by rw [IntKind.wrap_i64]; have := HLEN.out; omega
  have hh2 : (slen : Int) ≤ 1048576 := by omega
  have hbs : b < w.heap.size := World.block_lt_of_cell? _ _ c0
  clear hq hv hlen hT
  go_enter Try.func19, Try.ntmps19
  go_wp2_with fail
  obtain ⟨w1, hw1⟩ : ∃ w1, w1 = w.alloc (Obj.cells (bv (List.replicate slen 0)).toArray 5) := ⟨_, rfl⟩
  rw [← hw1]
  have hf1 : Fr (fun _ => False) w w1 := by rw [hw1]; exact (Fr.refl _ _).alloc _
  have hd1 : w1.heap[w.heap.size]? = some (.cells (bv (List.replicate slen 0)).toArray 5 (0, 0)) := by rw [hw1]; exact heap_alloc_new w _
  have hsz1 : w1.heap.size = w.heap.size + 1 := by rw [hw1]; simp
  have hs1 : SrcAt w1 sp bs := by
    intro j c hj
    obtain ⟨ad, e, hc⟩ := hs j c hj
    exact ⟨ad, e, by rw [hf1.cell (World.block_lt_of_cell? _ _ hc) id]; exact hc⟩
  clear hw1 hmk
  have HF1 : Hid (Fr (fun _ => False) w w1) := hf1
  have hb1 : w1.heap[b]? = some (.cells #[.int .i64 (T : Nat), .bool true, .slice a L.length cap] 58 (0, 0)) := by
    rw [hf1.block b hbs id]
    obtain ⟨xs, h, -⟩ := HQ.out
    rw [HT.out, ← HV.out]
    exact h
  obtain ⟨d0, d1, d2⟩ := cell3 hb1
  have z0 : w1.frozen? ⟨b, 0, none⟩ = false := frozen_of_heap hb1
  have HB1 : Hid (w1.heap[b]? = some (.cells #[.int .i64 (T : Nat), .bool true, .slice a L.length cap] 58 (0, 0))) := hb1
  have HSZ1 : Hid (w1.heap.size = w.heap.size + 1) := hsz1
  have HM : Hid (bs.length = Nat.min slen slen) := HLEN.out.trans (Nat.min_self slen).symm
  have hfit : 0 + bs.length ≤ (List.replicate slen (0 : UInt8)).length := by rw [HLEN.out]; simp
  have hbd : b ≠ w.heap.size := by omega
  have HC : Hid (∀ w2, Fr (fun k => k = w.heap.size) w1.drew w2 → w2.cell? ⟨b, 0, none⟩ = some (.int .i64 (T : Nat)) ∧ w2.frozen? ⟨b, 0, none⟩ = false) := by
    intro w2 hf2
    have hx : w2.heap[b]? = some (.cells #[.int .i64 (T : Nat), .bool true, .slice a L.length cap] 58 (0, 0)) := (hf2.block b (show b < w1.heap.size by omega) hbd).trans hb1
    exact ⟨(cell3 hx).1, frozen_of_heap hx⟩
  clear hf1 hb1 hsz1 hs c0 c1 c2
  go_region_law (refine step_copy_row rfl (.tmp 32) (.tmp 33) 31 31 rfl 5 Try.underlying31 (by kernel_rfl) (some ⟨w.heap.size, 0, none⟩) sp slen slen slen scap (by go_simp) (by go_simp) w.heap.size 0 (List.replicate slen 0) 5 hd1 bs HM.out (fun _ => rfl) (hs1.heap rfl) hfit ?_; intro w2 hg2 hf2; obtain ⟨e0, y0⟩ := HC.out w2 hf2.out)
  all_goals
    obtain ⟨w3, hw3⟩ : ∃ w3, w3 = w2.setCell ⟨b, 0, none⟩ (.int .i64 ((T : Int) + (bs.length : Int))) := ⟨_, rfl⟩
    rw [← hw3]
    have hb2 : w2.heap[b]? = some (.cells #[.int .i64 (T : Nat), .bool true, .slice a L.length cap] 58 (0, 0)) := (hf2.out.block b (by have := HSZ1.out; show b < w1.heap.size; omega) hbd).trans HB1.out
    have hf3 : Fr (fun k => k = b) w w3 := by
      have h1 : Fr (fun k => k = w.heap.size) w w2 := Fr.trans (b := w1.drew) (HF1.out.mono (fun _ _ e => e.elim)).drew hf2.out
      rw [hw3]
      exact Fr.setB (h1.mono (fun k hk e => by omega)) _ _
    have hb3 : w3.heap[b]? = some (.cells #[.int .i64 ((T : Int) + (bs.length : Int)), .bool true, .slice a L.length cap] 58 (0, 0)) := by rw [hw3]; exact setCell_heap _ hb2
    have hd3 : w3.heap[w.heap.size]? = some (.cells (bv bs).toArray 5 (0, 0)) := by
      rw [hw3, setCell_other _ (Ne.symm hbd)]
      have := hg2.out
      rw [splice_zero, List.drop_of_length_le (by rw [HLEN.out]; simp), List.append_nil] at this
      exact this
    obtain ⟨q0, q1, q2⟩ := cell3 hb3
    have x2 : w3.frozen? ⟨b, 2, none⟩ = false := frozen_of_heap hb3
    have hs3 : w.heap.size < w3.heap.size := lt_of_heap hd3
    have HF3 : Hid (Fr (fun k => k = b) w w3) := hf3
    have HB3 : Hid (w3.heap[b]? = some (.cells #[.int .i64 ((T : Int) + (bs.length : Int)), .bool true, .slice a L.length cap] 58 (0, 0))) := hb3
    have HD3 : Hid (w3.heap[w.heap.size]? = some (.cells (bv bs).toArray 5 (0, 0))) := hd3
    clear hb2 hf3 hb3 hd3 hw3 hg2 hf2 e0 y0 d0 d1 d2 z0 hd1 hs1 HB1 HSZ1 HF1 HC
    obtain ⟨xs, -, hown, hvb, hxl, -, hch⟩ := HQ.out
    have hownA : OwnAt (w3.alloc (Obj.cells #[Value.slice (some ⟨w.heap.size, 0, none⟩) slen slen] 31)) 31 (.slice a L.length cap) xs := by
      rw [← HV.out]
      exact hown.fr (HF3.out.alloc _) (fun k hk e => hvb (by rw [hk, e]))
    have hsrcA : Src Try.prog 1 39 (.slice (some ⟨w3.heap.size, 0, none⟩) 1 1) 1 [.slice (some ⟨w.heap.size, 0, none⟩) slen slen] (w3.alloc (Obj.cells #[Value.slice (some ⟨w.heap.size, 0, none⟩) slen slen] 31)) :=
      Src.ofSlice _ Try.underlying39 _ _ _ _ (by simp) (fun j u hj => by
        rw [add_none]
        refine cell_of_heap (heap_alloc_new w3 _) ?_
        simpa using hj) (by simp [Value.oneCell'])
    obtain ⟨i, hi1, hi2, hi3, hi4⟩ := info31
    have HI : Hid (Try.prog.info? 31 = some i) := hi1
    have HI2 : Hid (i.zero = some (.slice none 0 0)) := hi2
    have HI3 : Hid (i.size = 1) := hi3
    have HBY : Hid ((xs.length + 1) * i.bytes ≤ 140737488355328) := by show _ ≤ _; rw [hi4, hxl]; omega
    have H63 : Hid (xs.length + 1 ≤ maxLen) := by show _ ≤ _; rw [hxl]; unfold maxLen; omega
    have HXL : Hid (xs.length = L.length) := hxl
    have HVB : Hid (v.ownBlock ≠ some b) := hvb
    have HCH : Hid (∀ (j : Nat) c, L[j]? = some c → ∃ u, xs[j]? = some u ∧ ChunkAt w b v.ownBlock u c) := hch
    clear hi1 hi2 hi3 hi4 hvb hxl hch
    have HCC : Hid (∀ w4, Fr (fun k => (Value.slice a L.length cap).ownBlock = some k) (w3.alloc (Obj.cells #[Value.slice (some ⟨w.heap.size, 0, none⟩) slen slen] 31)) w4 → w4.cell? ⟨b, 2, none⟩ = some (.slice a L.length cap) ∧ w4.frozen? ⟨b, 2, none⟩ = false ∧ w4.heap[b]? = some (.cells #[.int .i64 ((T : Int) + (bs.length : Int)), .bool true, .slice a L.length cap] 58 (0, 0))) := by
      intro w4 hf4
      have hb4 := ((hf4.block b (by simp; omega) (by rw [← HV.out]; exact HVB.out)).trans (Below.heap_alloc w3 _ b (by omega))).trans HB3.out
      exact ⟨(cell3 hb4).2.2, frozen_of_heap hb4, hb4⟩
    go_wp2_with (at_builtin; refine wpList_append_at rfl (.tmp 43) (.tmp 45) 39 39 rfl 31 i (.slice none 0 0) Try.underlying39 HI.out HI2.out HI3.out rfl (.slice a L.length cap) xs (by go_simp) hownA (.slice (some ⟨w3.heap.size, 0, none⟩) 1 1) (by go_simp) 1 [.slice (some ⟨w.heap.size, 0, none⟩) slen slen] hsrcA HBY.out H63.out ?_; intro a4 c4 w4 hown4 hf4 hk4; obtain ⟨r1, r2, r3⟩ := HCC.out w4 hf4.out)
    have HB4 : Hid (w4.heap[b]? = some (.cells #[.int .i64 ((T : Int) + (bs.length : Int)), .bool true, .slice a L.length cap] 58 (0, 0))) := r3
    clear r3
    go_ret
    have hv : (Value.slice a L.length cap) = v := HV.out.symm
    rw [hv] at hf4 hk4
    exact ⟨rfl, _, queue_added hbs HT.out hL hown HVB.out HXL.out HCH.out HF3.out HD3.out HLEN.out h0 hf4.out hown4 hk4.out HB4.out⟩

end Go.Proofs.Ytaflgioelblcgaa
