/- Ties: the program's. -/
import Derived.Test.YtedkjlhhgalcfaaHc
namespace Go.Proofs.Ytedkjlhhgalcfaa
open Go.RowKit
set_option linter.unusedVariables false
set_option maxRecDepth 100000
set_option maxHeartbeats 4000000

theorem box_set {w : World} {b : Nat} {u v : Value} (h : w.heap[b]? = some (.cells #[u] 3 (0, 0))) : (w.setCell ⟨b, 0, none⟩ v).heap[b]? = some (.cells #[v] 3 (0, 0)) := by
  have hl := lt_of_heap h
  simp [World.setCell]
  rw [Array.getElem?_eq_getElem hl] at h
  simp at h
  simp [Array.modify, Array.modifyM, hl, h]
/-- Where Ties stands: the numbers that fit, the least load so far. -/
structure TieS (w wr : World) (b : Nat) (a : Option Addr) (m c : Nat) (F : List Int) (l : Int) : Prop where
  own : OwnAt wr 3 (.slice a m c) (iv F)
  box : wr.heap[b]? = some (.cells #[.int .i64 l] 3 (0, 0))
  ne : ∀ k, (Value.slice a m c).ownBlock = some k → k ≠ b
  bb : w.heap.size ≤ b
  fr : Fr (fun _ => False) w wr
theorem TieS.later {w w1 w2 : World} {b : Nat} {a : Option Addr} {m c : Nat} {F : List Int} {l : Int} (h : TieS w w1 b a m c F l) (f : Fr (fun _ => False) w1 w2) : TieS w w2 b a m c F l :=
  ⟨h.own.fr f (fun _ _ => id), (f.block b (lt_of_heap h.box) id).trans h.box, h.ne, h.bb, h.fr.trans f⟩
theorem TieS.put {w w1 : World} {b : Nat} {a : Option Addr} {m c : Nat} {F : List Int} {l : Int} (h : TieS w w1 b a m c F l) (l' : Int) : TieS w (w1.setCell ⟨b, 0, none⟩ (.int .i64 l')) b a m c F l' := by
  have f : Fr (fun k => k = b) w1 (w1.setCell ⟨b, 0, none⟩ (.int .i64 l')) := (Fr.refl _ _).setB _ _
  refine ⟨h.own.fr f (fun k hk => h.ne k hk), box_set h.box, h.ne, h.bb, ?_⟩
  have f1 : Fr (fun k => w.heap.size ≤ k) w w1 := h.fr.mono (fun _ _ e => e.elim)
  exact (f1.trans (f.mono (fun k _ e => by show _ ≤ k; rw [e]; exact h.bb))).mono (fun k hk e => by have : w.heap.size ≤ k := e; omega)
theorem pkTies_in (q : Option Addr) (c n : Nat) (L : List Bk) (w : World) (h : BacksAt w q c L) (hl : L.length = n) : Calls Try.prog 12 #[.slice q n c] w (GotI w (tieL L)) := by
  have HB : Hid (BacksAt w q c L) := h
  have HL : Hid (L.length = n) := hl
  have hnb : (n : Int) ≤ 6000000000000 := by have := h.few; rw [hl] at this; have h2 : reachBytes < 2 ^ 47 := reach_lt; omega
  have hnc : n ≤ c := by have := h.cap; rw [hl] at this; exact this
  obtain ⟨F, hF⟩ : ∃ F, fitL L = F := ⟨_, rfl⟩
  have HF : Hid (fitL L = F) := hF
  have hfl : F.length ≤ n := by rw [← hF, ← hl]; exact nums_len _ _ _
  obtain ⟨nF, hnF⟩ : ∃ nF, F.length = nF := ⟨_, rfl⟩
  have HNF : Hid (F.length = nF) := hnF
  rw [hnF] at hfl
  clear h hl hF hnF
  go_enter Try.func12, Try.ntmps12
  go_upto_region 2 with (fail)
  obtain ⟨wa, hwa⟩ : ∃ wa, wa = w.alloc (Obj.cells #[.int .i64 9223372036854775807] 3) := ⟨_, rfl⟩
  obtain ⟨b, hb⟩ : ∃ b, b = w.heap.size := ⟨_, rfl⟩
  have Fa : Hid (Fr (fun _ => False) w wa) := by rw [hwa]; exact (Fr.refl _ _).alloc _
  have ba : Hid (wa.heap[b]? = some (.cells #[.int .i64 9223372036854775807] 3 (0, 0))) := by show _ = _; rw [hwa, hb]; exact heap_alloc_new _ _
  have K := pkFit_in q c n L wa (HB.out.fr Fa.out (fun _ _ => id)) HL.out
  rw [HF.out] at K
  have Hb : Hid (w.heap.size ≤ b) := by show _ ≤ _; omega
  rw [← hwa, ← hb]
  clear hwa hb
  go_wp2_with (go_at_call 9; refine K.mono ?_; clear K; rintro e w1 ⟨fa, fm, fc, rfl, h1⟩; obtain ⟨e1, hfc⟩ := h1.own.lenI; rw [HNF.out] at e1 hfc; subst e1)
  have HS0 : Hid (TieS w w1 b fa fm fc F (lst L (F.take 0))) := ⟨h1.own, (h1.fr.block b (lt_of_heap ba.out) id).trans ba.out, fun k hk e => by have h2 := h1.new k hk; have h3 := lt_of_heap ba.out; omega, Hb.out, Fa.out.trans h1.fr⟩
  clear h1 Fa ba Hb
  go_loopw [9] (fun x9 wr => ∃ i : Nat, x9 = .int .i64 (i : Int) ∧ i ≤ fm ∧ Hid (TieS w wr b fa fm fc F (lst L (F.take i)))) (fun x9 _ => fm - (intOf x9).toNat)
  case atStart => exact ⟨0, rfl, by omega, HS0.out⟩
  case round =>
    clear HS0
    obtain ⟨i, rfl, hin, HS⟩ := hrel
    by_cases hlt : i < fm
    · have hlt2 : (i : Int) < (fm : Int) := by omega
      obtain ⟨a, ha⟩ : ∃ d, F[i]? = some d := ⟨F[i]'(by rw [HNF.out]; exact hlt), List.getElem?_eq_getElem _⟩
      obtain ⟨r, rfl, hr, x, hx, -⟩ := nums_mem.1 (show a ∈ nums fitB L L.length by have := HF.out; unfold fitL at this; rw [this]; exact List.mem_of_getElem? ha)
      rw [HL.out] at hr
      have hr2 : (r : Int) < (n : Int) := by omega
      obtain ⟨gf, of, rfl, -, c0⟩ := HS.out.own.ints i (r : Int) ha
      obtain ⟨gq, oq, rfl, hgq, -, -, d2, -, -⟩ := HB.out.cells r x hx
      have c2 : wr.cell? ⟨gq, oq + r * 3 + 2, none⟩ = some (.int .i64 x.2.2) := (HS.out.fr.cell (p := ⟨gq, oq + r * 3 + 2, none⟩) hgq id).trans d2
      have cb : wr.cell? ⟨b, 0, none⟩ = some (.int .i64 (lst L (F.take i))) := cell_of_heap HS.out.box rfl
      have zb : wr.frozen? ⟨b, 0, none⟩ = false := frozen_of_heap HS.out.box
      have HT : Hid (lst L (F.take (i + 1)) = min (lst L (F.take i)) x.2.2) := by
        show _ = _
        rw [List.take_add_one, ha]
        show lst L (F.take i ++ [(r : Int)]) = _
        rw [lst_snoc, load_at hx]
      obtain ⟨l, hl⟩ : ∃ l, lst L (F.take i) = l := ⟨_, rfl⟩
      rw [hl] at HT HS cb
      obtain ⟨y, hy⟩ : ∃ y, x.2.2 = y := ⟨_, rfl⟩
      rw [hy] at HT c2
      clear ha hx hgq d2 hl hy
      by_cases hm : l ≤ y
      · have hm2 : min l y = l := by omega
        have HS2 : Hid (TieS w (wr.setCell ⟨b, 0, none⟩ (.int .i64 l)) b (some ⟨gf, of, none⟩) fm fc F (lst L (F.take (i + 1)))) := by rw [HT.out, hm2]; exact HS.out.put l
        clear HT HS
        go_wp2_with (fail)
        go_region
        go_wp2_with (fail)
        go_roundw
        case rel => exact ⟨i + 1, by go_num, by omega, HS2.out.later ((Fr.refl _ _).drewN _)⟩
        case measure => simp [intOf]; omega
      · have hm2 : min l y = y := by omega
        have HS2 : Hid (TieS w (wr.setCell ⟨b, 0, none⟩ (.int .i64 y)) b (some ⟨gf, of, none⟩) fm fc F (lst L (F.take (i + 1)))) := by rw [HT.out, hm2]; exact HS.out.put y
        clear HT HS
        go_wp2_with (fail)
        go_region
        go_wp2_with (fail)
        go_roundw
        case rel => exact ⟨i + 1, by go_num, by omega, HS2.out.later ((Fr.refl _ _).drewN _)⟩
        case measure => simp [intOf]; omega
    · have hlt2 : ¬ (i : Int) < (fm : Int) := by omega
      have HE : Hid (TieS w wr b fa fm fc F (lst L F)) := by
        have h1 := HS.out
        rw [List.take_of_length_le (by rw [HNF.out]; omega)] at h1
        exact h1
      clear HS
      have K := pknum_box 18 b (tieB (lst L F)) q c n L wr (HB.out.fr HE.out.fr (fun _ _ => id)) HL.out enters_ties1 (fun x w' f => pkties1_in x b (lst L F) w' ((f.cell (p := ⟨b, 0, none⟩) (lt_of_heap HE.out.box) id).trans (cell_of_heap HE.out.box rfl)))
      have HQ : Hid (nums (tieB (lst L F)) L n = tieL L) := by show _ = _; unfold tieL; rw [HF.out, HL.out]
      rw [HQ.out] at K
      go_wp2_with (go_at_call 16; refine K.mono ?_; clear K; rintro e w1 ⟨ta, tm, tc, rfl, h1⟩)
      go_ret
      exact ⟨ta, tm, tc, rfl, h1.own, fun k hk => Nat.le_trans HE.out.fr.size (h1.new k hk), HE.out.fr.trans h1.fr⟩
end Go.Proofs.Ytedkjlhhgalcfaa
