/- Headers appended to a row of one's own; the headers that are passed on as they were. -/
import Derived.Test.YtplggcfoadjffaaGreatDoorXj
import Derived.Test.YtplggcfoadjffaaGreatDoorXb
import Derived.Test.YtplggcfoadjffaaGreatDoorAv
import Derived.Test.YtplggcfoadjffaaGreatDoorOr
namespace Go.Proofs.YtplggcfoadjffaaGreatDoor
open Go.RowKit
set_option linter.unusedVariables false
set_option maxRecDepth 100000
set_option maxHeartbeats 4000000

/-- append(l, h) of headers. -/
theorem wpList_addH {ops : Array Oper} {rest : List Oper} {o : Oper} {a : Act} {w : World} {Q : Exit → Act → World → Prop} (hgd : o.guard = none) (s x : Operand)
    (ho : o.op = .call { callee := .builtin .append, args := #[s, x], argTypes := #[22, 22] })
    (v : Value) (L : List Hd) (h : Hd) (hs : a.eval s = v) (hown : w.ownsRow 0 35 3 v L.length (cellsH L)) (hx : a.eval x = .slice (some ⟨w.heap.size, 0, none⟩) 1 1) (hfew : L.length * 40 < 2 ^ 47)
    (hn : ∀ a' n' c' w', Hid (n' = L.length + 1) → Hid (w'.ownsRow 0 35 3 (.slice a' n' c') (L ++ [h]).length (cellsH (L ++ [h]))) → Hid (Fr (fun k => v.ownBlock = some k) w w') → Hid ((Value.slice a' n' c').ownBlock = v.ownBlock ∨ ∃ k, (Value.slice a' n' c').ownBlock = some k ∧ w.heap.size ≤ k) → wpList Tryz.prog ops Q rest (a.put o.dst (.slice a' n' c')) w') : wpList Tryz.prog ops Q (o :: rest) a (w.alloc (.cells #[.string h.1, .string h.2.1, .bool h.2.2] 35)) := by
  obtain ⟨i, hi, hz0, hz1, hz2⟩ := info_parts info_hd
  have hal : Fr (fun _ => False) w (w.alloc (.cells #[.string h.1, .string h.2.1, .bool h.2.2] 35)) := (Fr.refl _ _).alloc _
  refine wpList_append_wide2 hgd s x 22 ho 35 i (.agg #[.string ⟨#[]⟩, .string ⟨#[]⟩, .bool false]) 3 40 Tryz.underlying22 hi hz0 hz1 hz2 rfl (by decide) v L.length (cellsH L) hs (rowH_fr hown hal (fun _ _ => id)) ⟨w.heap.size, 0, none⟩ 1 1 [.string h.1, .string h.2.1, .bool h.2.2] hx (by decide) rfl (fun j u hj => ?_) (by simp [Value.oneCell']) (by unfold maxLen; omega) (by omega) ?_
  · rw [add_none, Nat.zero_add]
    refine cell_of_heap (heap_alloc_new w _) ?_
    rw [← Array.getElem?_toList]
    exact hj
  · intro a' n' c' w' N' O' F' K'
    refine hn a' n' c' w' N' (by rw [cellsH_snoc, List.length_append]; exact O'.out) ((hal.mono (fun _ _ e => e.elim)).trans F'.out) ?_
    rcases K'.out with e | e
    · exact .inl e
    · exact .inr ⟨_, e, by simp⟩
/-- A row of one's own, made since w0; all else is as it was. -/
structure RowN (w0 : World) (v : Value) (L : List Hd) (W : World) : Prop where
  row : W.ownsRow 0 35 3 v L.length (cellsH L)
  new : ∀ k, v.ownBlock = some k → w0.heap.size ≤ k
  fr : Fr (fun _ => False) w0 W
theorem RowN.nil (w : World) : RowN w (.slice none 0 0) [] w := ⟨⟨rfl, .inl ⟨rfl, rfl⟩⟩, fun k hk => by simp [Value.ownBlock] at hk, Fr.refl _ _⟩
theorem RowN.later {w0 : World} {v : Value} {L : List Hd} {W W' : World} (h : RowN w0 v L W) (hf : Fr (fun _ => False) W W') : RowN w0 v L W' := ⟨rowH_fr h.row hf (fun _ _ => id), h.new, h.fr.trans hf⟩
theorem RowN.add {w0 : World} {v v' : Value} {L : List Hd} {h : Hd} {W W' : World} (hr : RowN w0 v L W) (hn : W'.ownsRow 0 35 3 v' (L ++ [h]).length (cellsH (L ++ [h]))) (hf : Fr (fun k => v.ownBlock = some k) W W') (ho : v'.ownBlock = v.ownBlock ∨ ∃ k, v'.ownBlock = some k ∧ W.heap.size ≤ k) : RowN w0 v' (L ++ [h]) W' :=
  ⟨hn, newS hr.new hr.fr.size ho, hr.fr.freshS hf hr.new⟩
theorem RowN.hl {w0 : World} {a : Option Addr} {n c : Nat} {L : List Hd} {W : World} (h : RowN w0 (.slice a n c) L W) (hf : L.length * 40 < 2 ^ 47) (hs : ∀ y ∈ L, y.1.size < 2 ^ 47 ∧ y.2.1.size < 2 ^ 47) : n = L.length ∧ HL W a c L := by
  by_cases h0 : L = []
  · subst h0
    rcases h.row.2 with ⟨e, -⟩ | ⟨g, cap, cur, e, -, -, h3, h4, -⟩
    · cases e
      exact ⟨rfl, HL.nil _⟩
    · cases e
      exact ⟨rfl, ⟨by simp, h4, by simp, fun r h hr => by simp at hr⟩⟩
  · obtain ⟨n1, hn1⟩ : ∃ n1, L.length = n1 + 1 := ⟨L.length - 1, by have := List.length_pos_iff.2 h0; omega⟩
    have hr := h.row
    rw [hn1] at hr
    obtain ⟨g, cap, e⟩ := row_form hr
    have e2 := Value.slice.inj e
    obtain ⟨rfl, rfl, rfl⟩ := e2
    refine ⟨hn1.symm, hl_row ?_ hf hs⟩
    have := h.row
    rw [hn1] at this ⊢
    exact this
def ListAs (w : World) (L : List Hd) (e : Ending) (w' : World) : Prop := ∃ q' c', e = .returned (.slice q' L.length c') ∧ HL w' q' c' L ∧ Fr (fun _ => False) w w'
theorem list_neq {s : ByteArray} {n : List UInt8} (h : tx s ≠ n) : (s.toList == n) = false ∧ ¬ s.toList = n := by
  rw [tx_toList]
  exact ⟨beq_eq_false_iff_ne.2 h, h⟩
theorem list_equ {s : ByteArray} {n : List UInt8} (h : tx s = n) : (s.toList == n) = true ∧ s.toList = n := by
  rw [tx_toList]
  exact ⟨beq_iff_eq.2 h, h⟩
theorem first_byte (s : ByteArray) (h0 : 0 < s.size) : (((s[0]'h0).toNat : Int) == 58) = pseudoB (tx s) := by
  unfold pseudoB
  rw [List.head?_eq_getElem?, tx_at s 0 h0]
  generalize (s[0]'h0) = c
  by_cases h : c = 58
  · subst h; rfl
  · have e1 : (some c == some (58 : UInt8)) = false := by simpa using h
    rw [e1]
    have : c.toNat ≠ 58 := fun e => h (UInt8.toNat_inj.1 (by simpa using e))
    exact beq_eq_false_iff_ne.2 (by omega)
theorem plainF_sizes {l : List Hd} (hs : ∀ y ∈ l, y.1.size < 2 ^ 47 ∧ y.2.1.size < 2 ^ 47) : (plainF l).length ≤ l.length ∧ ∀ y ∈ plainF l, y.1.size < 2 ^ 47 ∧ y.2.1.size < 2 ^ 47 := by
  unfold plainF
  refine ⟨by rw [List.length_map]; exact List.length_filter_le _ _, fun y hy => ?_⟩
  rw [List.mem_map] at hy
  obtain ⟨x, hx, rfl⟩ := hy
  exact hs x (List.mem_filter.1 hx).1
theorem HL.sizes2 {w : World} {q : Option Addr} {c : Nat} {l : List Hd} (h : HL w q c l) : ∀ x ∈ l, x.1.size < 2 ^ 47 ∧ x.2.1.size < 2 ^ 47 := fun x hm => by
  obtain ⟨r, hr', hxr⟩ := List.getElem_of_mem hm
  obtain ⟨_, _, _, _, _, _, _, s1, s2⟩ := h.cells r x (by rw [List.getElem?_eq_getElem hr', hxr])
  exact ⟨s1, s2⟩
theorem xplain_in (q : Option Addr) (c : Nat) (l : List Hd) (w : World) (hl : HL w q c l) :
    Calls Tryz.prog 14 #[.slice q l.length c] w fun e w' => ListAs w (plainF l) e w' := by
  have HLL : Hid (HL w q c l) := hl
  have hfew := hl.few
  obtain ⟨len, hlen⟩ : ∃ len, l.length = len := ⟨_, rfl⟩
  have HN : Hid (l.length = len) := hlen
  rw [hlen] at hfew ⊢
  clear hl hlen
  go_enter Tryz.func14, Tryz.ntmps14
  go_wp2_with (fail)
  go_loopw [3, 4] (fun x3 x4 wr => ∃ (i : Nat) (la : Option Addr) (m lc : Nat), x3 = .slice la m lc ∧ x4 = .int .i64 (i : Int) ∧ i ≤ len ∧ Hid (RowN w (.slice la m lc) (plainF (l.take i)) wr)) (fun _ x4 _ => len - (intOf x4).toNat)
  case atStart => exact ⟨0, none, 0, 0, rfl, rfl, by omega, RowN.nil w⟩
  case round =>
    obtain ⟨i, la, m, lc, rfl, rfl, hi, HK⟩ := hrel
    by_cases hlt : i < len
    · have hlt2 : (i : Int) < (len : Int) := by omega
      obtain ⟨x, hx⟩ : ∃ x, l[i]? = some x := ⟨_, List.getElem?_eq_getElem (by rw [HN.out]; exact hlt)⟩
      obtain ⟨b, o, rfl, hb, c0, c1, c2, -⟩ := (HLL.out.fr HK.out.fr).cells i x hx
      have HX : Hid (l[i]? = some x) := hx
      obtain ⟨xn, xv, xs⟩ := x
      dsimp only at c0 c1 c2
      have hst := plainF_step HX.out
      dsimp only at hst
      have HF2 : Hid (Fr (fun _ => False) wr (wr.alloc (.cells #[.string xn, .string xv, .bool false] 35))) := (Fr.refl _ _).alloc _
      have HK2 : Hid (RowN w (.slice la m lc) (plainF (l.take i)) (wr.alloc (.cells #[.string xn, .string xv, .bool false] 35))) := HK.out.later HF2.out
      have HM : Hid ((plainF (l.take i)).length * 40 < 2 ^ 47) := by
        have h1 : (plainF (l.take i)).length ≤ (l.take i).length := by unfold plainF; rw [List.length_map]; exact List.length_filter_le _ _
        rw [List.length_take] at h1
        show _ < _
        omega
      clear hx
      by_cases h0 : tx xn = sHost
      · have HE : Hid (plainF (l.take (i + 1)) = plainF (l.take i)) := by show _ = _; rw [hst, if_pos (by rw [h0]; decide), List.append_nil]
        obtain ⟨p0, r0⟩ := list_equ h0
        unfold sHost at p0 r0
        clear h0 hst
        go_wp2_with (fail)
        go_roundw
        case rel => exact ⟨i + 1, la, m, lc, rfl, by go_num, by omega, by rw [HE.out]; exact HK2.out⟩
        case measure => simp [intOf]; omega
      obtain ⟨p0, r0⟩ := list_neq h0
      by_cases h1 : tx xn = sCookie
      · have HE : Hid (plainF (l.take (i + 1)) = plainF (l.take i)) := by show _ = _; rw [hst, if_pos (by rw [h1]; decide), List.append_nil]
        obtain ⟨p1, r1⟩ := list_equ h1
        unfold sCookie at p1 r1
        unfold sHost at p0 r0
        clear h0 h1 hst
        go_wp2_with (fail)
        go_roundw
        case rel => exact ⟨i + 1, la, m, lc, rfl, by go_num, by omega, by rw [HE.out]; exact HK2.out⟩
        case measure => simp [intOf]; omega
      obtain ⟨p1, r1⟩ := list_neq h1
      by_cases h2 : tx xn = sVia
      · have HE : Hid (plainF (l.take (i + 1)) = plainF (l.take i)) := by show _ = _; rw [hst, if_pos (by rw [h2]; decide), List.append_nil]
        obtain ⟨p2, r2⟩ := list_equ h2
        unfold sVia at p2 r2
        unfold sCookie at p1 r1
        unfold sHost at p0 r0
        clear h0 h1 h2 hst
        go_wp2_with (fail)
        go_roundw
        case rel => exact ⟨i + 1, la, m, lc, rfl, by go_num, by omega, by rw [HE.out]; exact HK2.out⟩
        case measure => simp [intOf]; omega
      obtain ⟨p2, r2⟩ := list_neq h2
      have hno : [sHost, sCookie, sVia].contains (tx xn) = false := by
        simp [h0, h1, h2]
      rw [hno, Bool.or_false] at hst
      unfold sVia at p2 r2
      unfold sCookie at p1 r1
      unfold sHost at p0 r0
      clear h0 h1 h2 hno
      by_cases hz : xn.size = 0
      · have hp : pseudoB (tx xn) = false := by
          have : tx xn = [] := List.eq_nil_of_length_eq_zero (by rw [tx_len]; exact hz)
          rw [this]; rfl
        have HE : Hid (plainF (l.take (i + 1)) = plainF (l.take i) ++ [(xn, xv, false)]) := by show _ = _; rw [hst, hp]; rfl
        have hz2 : (xn.size : Int) = 0 := by omega
        clear hp hst
        go_wp2_with (refine wpList_addH rfl (.tmp 42) (.tmp 44) rfl (.slice la m lc) (plainF (l.take i)) (xn, xv, false) rfl HK2.out.row (by go_simp) HM.out ?_; intro a6 n6 c6 w6 N6 O6 F6 K6)
        have HK3 : Hid (RowN w (.slice a6 n6 c6) (plainF (l.take (i + 1))) w6) := by rw [HE.out]; exact HK2.out.add O6.out F6.out K6.out
        go_roundw
        case rel => exact ⟨i + 1, a6, n6, c6, rfl, by go_num, by omega, HK3.out⟩
        case measure => simp [intOf]; omega
      · have hz1 : 0 < xn.size := by omega
        have hz2 : ¬ (xn.size : Int) = 0 := by omega
        have hz3 : ((xn.size : Int) == 0) = false := beq_eq_false_iff_ne.2 hz2
        have hi0 : ∀ w : World, (Instr.index 9 (.string xn) (.int .i64 0)).run Tryz.prog w = .ok (.int .u8 ((xn[0]'hz1).toNat : Int)) w := index_tx xn 0 hz1
        have hb0 := first_byte xn hz1
        obtain ⟨k0, hk0⟩ : ∃ k0, ((xn[0]'hz1).toNat : Int) = k0 := ⟨_, rfl⟩
        rw [hk0] at hi0 hb0
        obtain ⟨pb, hpb⟩ : ∃ pb, pseudoB (tx xn) = pb := ⟨_, rfl⟩
        rw [hpb] at hb0 hst
        clear hk0 hpb
        cases pb with
        | true =>
          have HE : Hid (plainF (l.take (i + 1)) = plainF (l.take i)) := by show _ = _; rw [hst]; simp
          obtain rfl : k0 = 58 := by simpa using hb0
          clear hst hb0
          go_wp2_with (fail)
          go_roundw
          case rel => exact ⟨i + 1, la, m, lc, rfl, by go_num, by omega, by rw [HE.out]; exact HK2.out⟩
          case measure => simp [intOf]; omega
        | false =>
          have HE : Hid (plainF (l.take (i + 1)) = plainF (l.take i) ++ [(xn, xv, false)]) := by show _ = _; rw [hst]; simp
          have hb1 : ¬ k0 = 58 := by simpa using hb0
          clear hst
          go_wp2_with (refine wpList_addH rfl (.tmp 42) (.tmp 44) rfl (.slice la m lc) (plainF (l.take i)) (xn, xv, false) rfl HK2.out.row (by go_simp) HM.out ?_; intro a6 n6 c6 w6 N6 O6 F6 K6)
          have HK3 : Hid (RowN w (.slice a6 n6 c6) (plainF (l.take (i + 1))) w6) := by rw [HE.out]; exact HK2.out.add O6.out F6.out K6.out
          go_roundw
          case rel => exact ⟨i + 1, a6, n6, c6, rfl, by go_num, by omega, HK3.out⟩
          case measure => simp [intOf]; omega
    · have hlt2 : ¬ (i : Int) < (len : Int) := by omega
      go_wp2_with (fail)
      go_ret
      have h := HK.out
      rw [List.take_of_length_le (by rw [HN.out]; omega)] at h
      obtain ⟨h1, h2⟩ := plainF_sizes HLL.out.sizes2
      obtain ⟨rfl, hh⟩ := h.hl (by rw [HN.out] at h1; omega) h2
      exact ⟨la, lc, rfl, hh, h.fr⟩
end Go.Proofs.YtplggcfoadjffaaGreatDoor
