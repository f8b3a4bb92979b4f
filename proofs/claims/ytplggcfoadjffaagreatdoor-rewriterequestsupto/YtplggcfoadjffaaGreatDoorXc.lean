/- Texts in memory: the values of all headers of a name; those that are empty fall out. -/
import Derived.Test.YtplggcfoadjffaaGreatDoorXa
import Derived.Test.YtplggcfoadjffaaGreatDoorOe
import Derived.Test.YtplggcfoadjffaaGreatDoorA1
import Derived.Test.YtplggcfoadjffaaGreatDoorUc
namespace Go.Proofs.YtplggcfoadjffaaGreatDoor
open Go.RowKit
set_option linter.unusedVariables false
set_option maxRecDepth 100000
set_option maxHeartbeats 4000000

def strV (zs : List ByteArray) : List Value := zs.map Value.string
theorem strV_length (zs : List ByteArray) : (strV zs).length = zs.length := by simp [strV]
theorem strV_append (a b : List ByteArray) : strV (a ++ b) = strV a ++ strV b := by simp [strV]
/-- Texts that can be read. -/
def TxAt (w : World) (q : Option Addr) (zs : List ByteArray) : Prop := ∀ r z, zs[r]? = some z → ∃ b o, q = some ⟨b, o, none⟩ ∧ b < w.heap.size ∧ w.cell? ⟨b, o + r, none⟩ = some (.string z)
theorem TxAt.fr {S : Nat → Prop} {w w' : World} {q : Option Addr} {zs : List ByteArray} (h : TxAt w q zs) (f : Fr S w w') (hs : ∀ b o, q = some ⟨b, o, none⟩ → ¬ S b) : TxAt w' q zs := fun r z hz => by
  obtain ⟨b, o, hq, hb, hc⟩ := h r z hz
  exact ⟨b, o, hq, Nat.lt_of_lt_of_le hb f.size, (f.cell (p := ⟨b, o + r, none⟩) hb (hs b o hq)).trans hc⟩
theorem OwnAt.texts {w : World} {a : Option Addr} {n c : Nat} {zs : List ByteArray} (h : OwnAt w 9 (.slice a n c) (strV zs)) : TxAt w a zs := fun r z hz => by
  obtain ⟨g, off, cap, e, hc, -⟩ := h.cells r (.string z) (by unfold strV; rw [List.getElem?_map, hz]; rfl)
  have e1 := (Value.slice.inj e).1
  exact ⟨g, off, e1, h.lt g (by rw [e1]; rfl), hc⟩
theorem OwnAt.len {w : World} {a : Option Addr} {n c : Nat} {zs : List ByteArray} (h : OwnAt w 9 (.slice a n c) (strV zs)) : n = zs.length ∧ zs.length ≤ c := by
  obtain ⟨a', cap, e, h1⟩ := h.form
  rw [strV_length] at e h1
  have := Value.slice.inj e
  exact ⟨this.2.1, by rw [this.2.2]; exact h1⟩

theorem xempty_in (z : ByteArray) (w : World) : Calls Tryz.prog 20 #[.string z] w fun e w' => e = .returned (.bool (!fullB z)) ∧ w = w' := by
  have hb : z.toList.isEmpty = !fullB z := by
    unfold fullB
    rw [tx_toList]
    simp
  have hl : (⟨#[]⟩ : ByteArray).toList = [] := by rw [tx_toList]; rfl
  generalize (!fullB z) = V at hb ⊢
  subst hb
  go_enter Tryz.func20, Tryz.ntmps20
  go_wp2_with (fail)
  go_ret
  exact ⟨rfl, rfl⟩

theorem info_str : ∃ i, Tryz.prog.info? 9 = some i ∧ i.zero = some (.string ⟨#[]⟩) ∧ i.size = 1 ∧ i.bytes = 16 := ⟨(Tryz.prog.info? 9).get (by kernel_rfl), by kernel_rfl, by kernel_rfl, by kernel_rfl, by kernel_rfl⟩
section
variable {w : World} {ops : Array Oper} {rest : List Oper} {o : Oper} {a : Act} {Q : Exit → Act → World → Prop}
/-- append(l, s) of texts. -/
theorem wpList_addS (hgd : o.guard = none) (s x : Operand) (ho : o.op = .call { callee := .builtin .append, args := #[s, x], argTypes := #[42, 42] })
    (v : Value) (M : List ByteArray) (d : ByteArray) (hsv : a.eval s = v) (hM : OwnAt w 9 v (strV M)) (hxv : a.eval x = .slice (some ⟨w.heap.size, 0, none⟩) 1 1) (hfew : M.length * 40 < 2 ^ 47)
    (h : ∀ a' n' c' w', Hid (n' = M.length + 1) → Hid (OwnAt w' 9 (.slice a' n' c') (strV (M ++ [d]))) → Hid (Fr (fun k => v.ownBlock = some k) w w') → Hid ((Value.slice a' n' c').ownBlock = v.ownBlock ∨ ∃ k, (Value.slice a' n' c').ownBlock = some k ∧ w.heap.size ≤ k) → wpList Tryz.prog ops Q rest (a.put o.dst (.slice a' n' c')) w') : wpList Tryz.prog ops Q (o :: rest) a (w.alloc (.cells #[.string d] 9)) := by
  obtain ⟨i, I1, I2, I3, I4⟩ := info_str
  have hal : Fr (fun _ => False) w (w.alloc (.cells #[.string d] 9)) := (Fr.refl _ _).alloc _
  have hlen : (strV M).length = M.length := strV_length M
  refine wpList_append_at hgd s x 42 42 ho 9 i (.string ⟨#[]⟩) Tryz.underlying42 I1 I2 I3 rfl v _ hsv (hM.fr hal (fun _ _ => id)) _ hxv 1 [.string d] (Src.ofSlice _ Tryz.underlying42 _ 1 1 [.string d] rfl (fun j u hj => ?_) (by simp [Value.oneCell'])) (by rw [I4, hlen]; omega) (by rw [hlen]; unfold maxLen; omega) ?_
  · cases j with
    | zero => simp at hj; subst hj; rw [add_none]; exact cell_of_heap (heap_alloc_new w _) rfl
    | succ j => simp at hj
  · intro a' c' w' hO hF hk
    refine h a' _ c' w' (by show _ = _; rw [hlen]) (by rw [strV_append]; exact hO) ((hal.mono (fun _ _ e => e.elim)).trans hF.out) ?_
    rcases hk.out with e | ⟨k, e, hk2⟩
    · exact .inl e
    · exact .inr ⟨k, e, by simp at hk2; omega⟩
end
theorem newS {w : World} {v u : Value} (h : ∀ k, v.ownBlock = some k → w.heap.size ≤ k) {n : Nat} (hs : w.heap.size ≤ n) (ho : u.ownBlock = v.ownBlock ∨ ∃ k, u.ownBlock = some k ∧ n ≤ k) : ∀ k, u.ownBlock = some k → w.heap.size ≤ k := fun k hk => by
  rcases ho with e | ⟨k', e, h2⟩
  · exact h k (by rw [← e]; exact hk)
  · rw [e] at hk; cases hk; omega
theorem Fr.freshS {w a b : World} {v : Value} (h : Fr (fun _ => False) w a) (hf : Fr (fun k => v.ownBlock = some k) a b) (hv : ∀ k, v.ownBlock = some k → w.heap.size ≤ k) : Fr (fun _ => False) w b :=
  ((h.mono (T := fun k => w.heap.size ≤ k) (fun _ _ e => e.elim)).trans (hf.mono (fun k _ e => hv k e))).mono (fun k hk e => by omega)
/-- What values answers. -/
def ValsAs (w : World) (zs : List ByteArray) (e : Ending) (w' : World) : Prop := ∃ a c, e = .returned (.slice a zs.length c) ∧ OwnAt w' 9 (.slice a zs.length c) (strV zs) ∧ (∀ k, (Value.slice a zs.length c).ownBlock = some k → w.heap.size ≤ k) ∧ Fr (fun _ => False) w w'
theorem values_in (q : Option Addr) (c : Nat) (l : List Hd) (n : ByteArray) (w : World) (hl : HL w q c l) :
    Calls Tryz.prog 19 #[.slice q l.length c, .string n] w fun e w' => ValsAs w (valuesB l (tx n)) e w' := by
  have HLL : Hid (HL w q c l) := hl
  have hfew := hl.few
  obtain ⟨len, hlen⟩ : ∃ len, l.length = len := ⟨_, rfl⟩
  have HN : Hid (l.length = len) := hlen
  rw [hlen] at hfew ⊢
  clear hl hlen
  go_enter Tryz.func19, Tryz.ntmps19
  go_wp2_with (fail)
  go_loopw [5, 10] (fun x5 x10 wr => ∃ (i : Nat) (la : Option Addr) (m lc : Nat), x5 = .slice la m lc ∧ x10 = .int .i64 (i : Int) ∧ i ≤ len ∧ Hid (OwnAt wr 9 (.slice la m lc) (strV (valuesB (l.take i) (tx n))) ∧ (∀ k, (Value.slice la m lc).ownBlock = some k → w.heap.size ≤ k) ∧ Fr (fun _ => False) w wr)) (fun _ x10 _ => len - (intOf x10).toNat)
  case atStart => exact ⟨0, none, 0, 0, rfl, rfl, by omega, OwnAt.nil _ _, fun k hk => by simp [Value.ownBlock] at hk, Fr.refl _ _⟩
  case round =>
    obtain ⟨i, la, m, lc, rfl, rfl, hi, HK⟩ := hrel
    by_cases hlt : i < len
    · have hlt2 : (i : Int) < (len : Int) := by omega
      obtain ⟨x, hx⟩ : ∃ x, l[i]? = some x := ⟨_, List.getElem?_eq_getElem (by rw [HN.out]; exact hlt)⟩
      obtain ⟨b, o, rfl, hb, c0, c1, c2, hs⟩ := (HLL.out.fr HK.out.2.2).cells i x hx
      have HX : Hid (l[i]? = some x) := hx
      obtain ⟨xn, xv, xs⟩ := x
      dsimp only at c0 c1 c2
      clear hx hs
      have HF2 : Hid (Fr (fun _ => False) wr (wr.alloc (.cells #[.string xn, .string xv, .bool xs] 35))) := (Fr.refl _ _).alloc _
      have ch0 : (wr.alloc (.cells #[.string xn, .string xv, .bool xs] 35)).cell? ⟨wr.heap.size, 0, none⟩ = some (.string xn) := by simp
      have ch1 : (wr.alloc (.cells #[.string xn, .string xv, .bool xs] 35)).cell? ⟨wr.heap.size, 1, none⟩ = some (.string xv) := by simp
      have HO2 : Hid (OwnAt (wr.alloc (.cells #[.string xn, .string xv, .bool xs] 35)) 9 (.slice la m lc) (strV (valuesB (l.take i) (tx n)))) := HK.out.1.fr HF2.out (fun _ _ => id)
      have HM : Hid ((valuesB (l.take i) (tx n)).length * 40 < 2 ^ 47) := by
        have h1 := valuesB_len (l.take i) (tx n)
        rw [List.length_take] at h1
        show _ < _
        omega
      have HV := valuesB_step (n := tx n) HX.out
      by_cases he : tx xn = tx n
      · have he1 : (xn.toList == n.toList) = true := by rw [tx_toList, tx_toList, he]; exact beq_self_eq_true _
        have he2 : xn.toList = n.toList := by rw [tx_toList, tx_toList, he]
        rw [if_pos he] at HV
        have HV2 : Hid (valuesB (l.take (i + 1)) (tx n) = valuesB (l.take i) (tx n) ++ [xv]) := HV
        clear he HV
        go_wp2_with (refine wpList_addS rfl (.tmp 18) (.tmp 21) rfl (.slice la m lc) (valuesB (l.take i) (tx n)) xv rfl HO2.out (by go_simp) HM.out ?_; intro la' n' lc' w2 N2 H2 F2 O2)
        have HK2 : Hid (OwnAt w2 9 (.slice la' n' lc') (strV (valuesB (l.take (i + 1)) (tx n))) ∧ (∀ k, (Value.slice la' n' lc').ownBlock = some k → w.heap.size ≤ k) ∧ Fr (fun _ => False) w w2) := by
          have f := HK.out.2.2.trans HF2.out
          refine ⟨?_, newS HK.out.2.1 f.size O2.out, f.freshS F2.out HK.out.2.1⟩
          rw [HV2.out]
          exact H2.out
        go_roundw
        case rel => exact ⟨i + 1, la', n', lc', rfl, by go_num, by omega, HK2.out⟩
        case measure => simp [intOf]; omega
      · have he2 : ¬ xn.toList = n.toList := by rw [tx_toList, tx_toList]; exact he
        have he1 : (xn.toList == n.toList) = false := beq_eq_false_iff_ne.2 he2
        rw [if_neg he, List.append_nil] at HV
        have HK2 : Hid (OwnAt (wr.alloc (.cells #[.string xn, .string xv, .bool xs] 35)) 9 (.slice la m lc) (strV (valuesB (l.take (i + 1)) (tx n))) ∧ (∀ k, (Value.slice la m lc).ownBlock = some k → w.heap.size ≤ k) ∧ Fr (fun _ => False) w (wr.alloc (.cells #[.string xn, .string xv, .bool xs] 35))) := by
          refine ⟨?_, HK.out.2.1, HK.out.2.2.trans HF2.out⟩
          rw [HV]
          exact HO2.out
        clear he HV
        go_wp2_with (fail)
        go_roundw
        case rel => exact ⟨i + 1, la, m, lc, rfl, by go_num, by omega, HK2.out⟩
        case measure => simp [intOf]; omega
    · have hlt2 : ¬ (i : Int) < (len : Int) := by omega
      go_wp2_with (fail)
      go_ret
      have e := HK.out
      rw [List.take_of_length_le (by rw [HN.out]; omega)] at e
      obtain ⟨rfl, -⟩ := e.1.len
      exact ⟨la, lc, rfl, e⟩

/-- The first empty text. -/
def IdxS (zs : List ByteArray) (e : Ending) : Prop := (e = .returned (.int .i64 (-1)) ∧ zs.filter fullB = zs) ∨ ∃ i : Nat, e = .returned (.int .i64 (i : Int)) ∧ i < zs.length ∧ (zs.take i).filter fullB = zs.take i ∧ (zs.take (i + 1)).filter fullB = zs.take i
theorem indexS_in (a : Option Addr) (c : Nat) (zs : List ByteArray) (w : World) (hz : TxAt w a zs) (hn : zs.length * 40 < 2 ^ 47) :
    Calls Tryz.prog 38 #[.slice a zs.length c, .func (.func 20) #[] #[]] w fun e w' => w = w' ∧ IdxS zs e := by
  have HZ : Hid (TxAt w a zs) := hz
  obtain ⟨n, hlen⟩ : ∃ n, zs.length = n := ⟨_, rfl⟩
  have HN : Hid (zs.length = n) := hlen
  rw [hlen] at hn ⊢
  clear hz hlen
  go_enter Tryz.func38, Tryz.ntmps38
  go_wp2_with (fail)
  go_loopw [8] (fun x8 wr => ∃ i : Nat, x8 = .int .i64 (i : Int) ∧ i ≤ n ∧ w = wr ∧ Hid ((zs.take i).filter fullB = zs.take i)) (fun x8 _ => n - (intOf x8).toNat)
  case atStart => exact ⟨0, rfl, by omega, rfl, rfl⟩
  case round =>
    obtain ⟨i, rfl, hin, rfl, HM⟩ := hrel
    by_cases hlt : i < n
    · have hlt2 : (i : Int) < (n : Int) := by omega
      obtain ⟨z, hz⟩ : ∃ z, zs[i]? = some z := ⟨_, List.getElem?_eq_getElem (by rw [HN.out]; exact hlt)⟩
      obtain ⟨b, o, rfl, hb, c0⟩ := HZ.out i z hz
      have HX : Hid ((zs.take (i + 1)).filter fullB = zs.take i ++ [z].filter fullB ∧ zs.take (i + 1) = zs.take i ++ [z]) := by
        have : zs.take (i + 1) = zs.take i ++ [z] := by rw [List.take_add_one, hz]; rfl
        refine ⟨?_, this⟩
        rw [this, List.filter_append, HM.out]
      have K := xempty_in z w
      obtain ⟨v, hv⟩ : ∃ v, fullB z = v := ⟨_, rfl⟩
      rw [hv] at K
      have HV : Hid (fullB z = v) := hv
      clear hz hv
      cases v with
      | true =>
        have HM2 : Hid ((zs.take (i + 1)).filter fullB = zs.take (i + 1)) := by
          have h1 := HX.out
          show _ = _
          rw [h1.1, h1.2]
          simp [HV.out]
        go_wp2_with (fail)
        refine K.mono ?_
        rintro e w2 ⟨rfl, rfl⟩
        go_wp2_with (fail)
        go_roundw
        case rel => exact ⟨i + 1, by go_num, by omega, trivial, HM2.out⟩
        case measure => simp [intOf]; omega
      | false =>
        have HM2 : Hid ((zs.take (i + 1)).filter fullB = zs.take i) := by
          have h1 := HX.out
          show _ = _
          rw [h1.1]
          simp [HV.out]
        go_wp2_with (fail)
        refine K.mono ?_
        rintro e w2 ⟨rfl, rfl⟩
        go_wp2_with (fail)
        go_ret
        exact ⟨rfl, .inr ⟨i, rfl, by rw [HN.out]; exact hlt, HM.out, HM2.out⟩⟩
    · have hlt2 : ¬ (i : Int) < (n : Int) := by omega
      go_wp2_with (fail)
      go_ret
      have := HM.out
      rw [List.take_of_length_le (by rw [HN.out]; omega)] at this
      exact ⟨rfl, .inl ⟨rfl, this⟩⟩
end Go.Proofs.YtplggcfoadjffaaGreatDoor
