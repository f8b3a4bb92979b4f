/- The law's own cut; append of elements of several cells, and where it lies. -/
import Derived.Test.YtikaefjhmgcidaaZMTe
import Derived.Test.YtikaefjhmgcidaaZTc
import Derived.Test.YtikaefjhmgcidaaZMRk
import Derived.Test.YtikaefjhmgcidaaZMFg
import Derived.Test.YtikaefjhmgcidaaZMPl
namespace Go.Proofs.Ytikaefjhmgcidaa
open Go.RowKit
set_option linter.unusedVariables false
set_option maxRecDepth 100000
set_option maxHeartbeats 4000000

/-- Where what append yields lies: where it lay, or in a new block. -/
theorem append_where {P : Program} (w : World) (t ty e : TypeId) (i : TypeInfo) (z : Value) (ht : P.underlying t = some (.slice e)) (hi : P.info? e = some i) (hz : i.zero = some z)
    (v : Value) (n : Nat) (xs : List Value) (hown : w.ownsRow 0 e i.size v n xs)
    (a : Addr) (m c : Nat) (news : List Value) (hl : news.length = m * i.size) (hnews : ∀ j u, news[j]? = some u → w.cell? (a.add j) = some u) (h1 : ∀ u ∈ news, u.oneCell' = true)
    (hm : 0 < m) (h63 : n + m ≤ 9223372036854775807) (hbytes : ((n + m) + (n + m) / 4 + 192) * i.bytes ≤ 281474976710656) (v' : Value) (w' : World)
    (hr : (Builtin.append_ #[t, t] ty #[v, .slice (some a) m c]).run P w = .ok v' w') : v'.ownBlock = v.ownBlock ∨ v'.ownBlock = some w.heap.size := by
  rcases hown.2 with ⟨rfl, rfl⟩ | ⟨g, cap, cur, rfl, hbg, hg, hnc, hcm, hcs, htake⟩
  · have h2 := run_append_nil (P := P) w t ty e i z ht hi hz a m c news hl hnews hm (by omega) (Nat.le_trans (Nat.mul_le_mul_right _ (by omega)) hbytes)
    rw [h2] at hr
    cases hr
    exact .inr rfl
  · by_cases hroom : n + m ≤ cap
    · have hfit : n * i.size + news.length ≤ cur.size := by rw [hl, hcs, ← Nat.add_mul]; exact Nat.mul_le_mul_right _ hroom
      have h2 := run_append_room (P := P) w t ty e i ht hi g n cap cur hg a m c news hl hnews h1 hroom hfit
      rw [h2] at hr
      cases hr
      exact .inl rfl
    · have h2 := run_append_grow (P := P) w t ty e i z ht hi hz ⟨g, 0, none⟩ n cap xs hown.1 (hown.cells (g := g) rfl) a m c news hl hnews (by omega) (by omega) (growslice_fits_wide (by omega) hbytes)
      rw [h2] at hr
      cases hr
      exact .inr rfl
theorem Fr.of_grown {w w' : World} {row : Option Nat} (h : w.grownBy w' row) : Fr (fun k => row = some k) w w' := ⟨h.os, h.tape, h.output, h.size, fun k hk hs => h.block k hk (fun e => hs e.symm)⟩
theorem wpList_append_wide2 {P : Program} {ops : Array Oper} {rest : List Oper} {o : Oper} {a : Act} {w : World} {Q : Exit → Act → World → Prop} (hgd : o.guard = none) (s x : Operand) (t : TypeId)
    (ho : o.op = .call { callee := .builtin .append, args := #[s, x], argTypes := #[t, t] })
    (e : TypeId) (i : TypeInfo) (z : Value) (size bytes : Nat) (ht : P.underlying t = some (.slice e)) (hi : P.info? e = some i) (hz : i.zero = some z)
    (hsize : i.size = size) (hby : i.bytes = bytes) (hzs : z.cells.size = size) (hsz : 0 < size)
    (v : Value) (n : Nat) (xs : List Value) (hs : a.eval s = v) (hown : w.ownsRow 0 e size v n xs)
    (ad : Addr) (m c : Nat) (news : List Value) (hx : a.eval x = .slice (some ad) m c) (hm : 0 < m) (hl : news.length = m * size) (hnews : ∀ j u, news[j]? = some u → w.cell? (ad.add j) = some u) (h1 : ∀ u ∈ news, u.oneCell' = true)
    (h63 : n + m ≤ maxLen) (hbytes : ((n + m) + (n + m) / 4 + 192) * bytes ≤ 281474976710656)
    (h : ∀ a' n' c' w', Hid (n' = n + m) → Hid (w'.ownsRow 0 e size (.slice a' n' c') (n + m) (xs ++ news)) → Hid (Fr (fun k => v.ownBlock = some k) w w') → Hid ((Value.slice a' n' c').ownBlock = v.ownBlock ∨ (Value.slice a' n' c').ownBlock = some w.heap.size) → wpList P ops Q rest (a.put o.dst (.slice a' n' c')) w') : wpList P ops Q (o :: rest) a w := by
  refine wpList_plain hgd fun K hK => ?_
  obtain ⟨v', w', hr, h2, h3, h4⟩ := run_append_own_wide (P := P) w 0 t o.type e i z size bytes ht hi hz hsize hby hzs hsz v n xs hown ad m c news hl hnews h1 h63 hbytes (Nat.zero_le _)
  subst hsize
  subst hby
  have h5 := append_where (P := P) w t o.type e i z ht hi hz v n xs hown ad m c news hl hnews h1 hm h63 hbytes v' w' hr
  obtain ⟨a', c', rfl⟩ : ∃ a' c', v' = .slice a' (n + m) c' := by
    rcases h2.2 with ⟨rfl, h0⟩ | ⟨g, cap, cur, rfl, -⟩
    · omega
    · exact ⟨_, _, rfl⟩
  unfold Oper.wp execOp
  simp only [ho, resolve, invoke, builtin, Sem.run_bind, Sem.run_pure, Result.andThen_ok, List.map_toArray, List.map_cons, List.map_nil, hs, hx, hr]
  exact hK _ _ (h a' (n + m) c' w' rfl h2 (Fr.of_grown h3) h5)

theorem wpList_piece2 {w0 w : World} {ops : Array Oper} {rest : List Oper} {o : Oper} {a : Act} {Q : Exit → Act → World → Prop} (hgd : o.guard = none) (s x : Operand)
    (ho : o.op = .call { callee := .builtin .append, args := #[s, x], argTypes := #[22, 22] })
    (v : Value) (Xs : List (List UInt8)) (hsv : a.eval s = v) (hP : Pcs w0 w v Xs) (q : Option Addr) (X : List UInt8) (l c : Nat) (hl : X.length = l) (hxv : a.eval x = .slice (some ⟨w.heap.size, 0, none⟩) 1 1) (hX : SrcAt w q X) (hap : ∀ ad, q = some ad → 0 < X.length → v.ownBlock ≠ some ad.block) (hfew : Xs.length ≤ 4000000)
    (h : ∀ a' n' c' w', Hid (n' = Xs.length + 1) → Hid (Pcs w0 w' (.slice a' n' c') (Xs ++ [X])) → Hid (Fr (fun k => v.ownBlock = some k) w w') → Hid ((Value.slice a' n' c').ownBlock = v.ownBlock ∨ ∃ k, (Value.slice a' n' c').ownBlock = some k ∧ w.heap.size < k) → wpList Try.prog ops Q rest (a.put o.dst (.slice a' n' c')) w') : wpList Try.prog ops Q (o :: rest) a (w.alloc (.cells #[.slice q l c] 31)) := by
  subst hl
  obtain ⟨vs, h1, h2, h3, h4, h5⟩ := hP
  obtain ⟨i, I1, I2, I3, I4⟩ := infoB
  have hal : Fr (fun _ => False) w (w.alloc (.cells #[.slice q X.length c] 31)) := (Fr.refl _ _).alloc _
  refine wpList_append_at hgd s x 22 22 ho 31 i (.slice none 0 0) Try.underlying22 I1 I2 I3 rfl v vs hsv (h1.fr hal (fun _ _ => id)) _ hxv 1 [.slice q X.length c] (Src.ofSlice _ Try.underlying22 _ 1 1 [.slice q X.length c] rfl (fun j u hj => ?_) (by simp [Value.oneCell'])) (by rw [I4, h4]; omega) (by rw [h4]; unfold maxLen; omega) ?_
  · cases j with
    | zero => simp at hj; subst hj; rw [add_none]; exact cell_of_heap (heap_alloc_new w _) rfl
    | succ j => simp at hj
  · intro a' c' w' hO hF hk
    rw [h4] at hO hk ⊢
    have hF' : Fr (fun k => v.ownBlock = some k) w w' := (hal.mono (fun _ _ e => e.elim)).trans hF.out
    have hk' : (Value.slice a' (Xs.length + 1) c').ownBlock = v.ownBlock ∨ ∃ k, (Value.slice a' (Xs.length + 1) c').ownBlock = some k ∧ w.heap.size < k := by
      rcases hk.out with e | ⟨k, e, hk2⟩
      · exact .inl e
      · exact .inr ⟨k, e, by simp at hk2; omega⟩
    have hsz := h3.size
    have hap2 : ∀ (q : Option Addr) (Y : List UInt8), SrcAt w q Y → (∀ ad, q = some ad → 0 < Y.length → v.ownBlock ≠ some ad.block) → (∀ ad, q = some ad → 0 < Y.length → (Value.slice a' (Xs.length + 1) c').ownBlock ≠ some ad.block) := fun q Y hY hn ad e hp => by
      rcases hk' with e2 | ⟨k, e2, hk2⟩
      · rw [e2]; exact hn ad e hp
      · rw [e2]
        intro e3
        cases e3
        obtain ⟨ad', e4, hc⟩ := hY 0 Y[0] (by simp)
        rw [e] at e4
        cases e4
        have := World.block_lt_of_cell? _ _ hc
        have hb : (ad.add 0).block = ad.block := by unfold Addr.add; split <;> rfl
        omega
    refine h a' (Xs.length + 1) c' w' rfl ⟨vs ++ [.slice q X.length c], hO, fun k hk2 => ?_, ?_, by simp [h4], fun r Y hr => ?_⟩ hF' hk'
    · rcases hk' with e | ⟨k', e, hk3⟩
      · exact h2 k (e ▸ hk2)
      · rw [e] at hk2; cases hk2; omega
    · exact ((h3.mono (T := fun k => v.ownBlock = some k) (fun _ _ e => e.elim)).trans hF').mono (fun k hk2 e => by have := h2 k e; omega)
    · by_cases hrl : r < Xs.length
      · rw [List.getElem?_append_left hrl] at hr
        obtain ⟨q2, c2, b1, b2, b3⟩ := h5 r Y hr
        exact ⟨q2, c2, by rw [List.getElem?_append_left (by omega)]; exact b1, b2.fr hF' (fun ad e hp => b3 ad e hp), hap2 q2 Y b2 b3⟩
      · rw [List.getElem?_append_right (by omega)] at hr
        have hr0 : r = Xs.length := by
          have := (List.getElem?_eq_some_iff.1 hr).1
          simp at this
          omega
        subst hr0
        simp at hr
        subst hr
        exact ⟨q, c, by rw [List.getElem?_append_right (by omega), h4]; simp, hX.fr hF' (fun ad e hp => hap ad e hp), hap2 q X hX hap⟩


/-- Bytes cut as the law cuts them. -/
def cutL : List UInt8 → List UInt8 → List (List UInt8)
  | X, [] => [X]
  | X, c :: cs => X.take (min X.length (c.toNat % 64)) :: cutL (X.drop (min X.length (c.toNat % 64))) cs
theorem cutL_flat : ∀ (U X : List UInt8), (cutL X U).flatten = X := by
  intro U
  induction U with
  | nil => intro X; simp [cutL]
  | cons c U ih => intro X; rw [cutL, List.flatten_cons, ih, List.take_append_drop]
theorem cutL_len : ∀ (U X : List UInt8), (cutL X U).length = U.length + 1 := by
  intro U
  induction U with
  | nil => intro X; simp [cutL]
  | cons c U ih => intro X; rw [cutL, List.length_cons, ih, List.length_cons]

theorem cut_in (a : Option Addr) (len cap : Nat) (X : List UInt8) (a1 : Option Addr) (len1 cap1 : Nat) (U : List UInt8) (w : World) (hX : SrcAt w a X) (hXl : X.length = len) (hc : len ≤ cap) (hlen : len ≤ 4000) (hU : SrcAt w a1 U) (hUl : U.length = len1) (hb : len1 ≤ 1048576) :
    Calls Try.prog 19 #[.slice a len cap, .slice a1 len1 cap1] w fun e w' => ∃ q n c, e = .returned (.slice q n c) ∧ Pcs w w' (.slice q n c) (cutL X U) := by
  have HU : Hid (SrcAt w a1 U) := hU
  have HUL : Hid (U.length = len1) := hUl
  have HX : Hid (SrcAt w a X) := hX
  have HXL : Hid (X.length = len) := hXl
  clear hU hUl hX hXl
  go_enter Try.func19, Try.ntmps19
  go_wp2_with (fail)
  go_loopw [0, 5, 6] (fun v0 v5 v6 wr => ∃ (i : Nat) (p : Option Addr) (n c : Nat) (Y : List UInt8) (ao : Option Addr) (no co : Nat) (Xs : List (List UInt8)), v0 = .slice p n c ∧ v5 = .slice ao no co ∧ v6 = .int .i64 (i : Int) ∧ i ≤ len1 ∧ n ≤ c ∧ n ≤ 4000 ∧ Hid (Pcs w wr (.slice ao no co) Xs ∧ SrcAt w p Y ∧ Y.length = n ∧ Xs ++ cutL Y (U.drop i) = cutL X U ∧ Xs.length = i)) (fun _ _ v6 _ => len1 - (intOf v6).toNat)
  case atStart => exact ⟨0, a, len, cap, X, none, 0, 0, [], rfl, rfl, rfl, by omega, hc, hlen, Pcs.ofNil (Fr.refl _ _), HX.out, HXL.out, by simp, rfl⟩
  case round =>
    obtain ⟨i, p, n, c, Y, ao, no, co, Xs, rfl, rfl, rfl, hi, hnc, hn4, HR⟩ := hrel
    have HFW : Hid (Fr (fun _ => False) w wr) := by obtain ⟨vs, -, -, h3, -⟩ := HR.out.1; exact h3
    by_cases hlt : i < len1
    · have hlti : (i : Int) < (len1 : Int) := by omega
      obtain ⟨x, hx⟩ : ∃ x, U[i]? = some x := ⟨_, List.getElem?_eq_getElem (by rw [HUL.out]; exact hlt)⟩
      obtain ⟨ad, rfl, hcell⟩ := (HU.out.oldF HFW.out) i x hx
      have hxl : x.toNat < 256 := x.toNat_lt
      obtain ⟨d, hd⟩ : ∃ d, x.toNat % 64 = d := ⟨_, rfl⟩
      have hdi : (x.toNat : Int) % 64 = (d : Int) := by omega
      have hd63 : d ≤ 63 := by omega
      have hdrop : U.drop i = x :: U.drop (i + 1) := by
        rw [List.drop_eq_getElem_cons (by rw [HUL.out]; exact hlt)]
        congr 1
        have := List.getElem?_eq_getElem (l := U) (i := i) (by rw [HUL.out]; exact hlt)
        rw [hx] at this
        exact (Option.some.inj this).symm
      have HDR : Hid (U.drop i = x :: U.drop (i + 1)) := hdrop
      have HAP : Hid (∀ ad, p = some ad → 0 < n → (Value.slice ao no co).ownBlock ≠ some ad.block) := fun ad e hl e2 => by
        obtain ⟨vs, -, h2, -⟩ := HR.out.1
        have h3 := h2 _ e2
        have h4 := srcB_lt HR.out.2.1 ad e (by rw [HR.out.2.2.1]; exact hl)
        omega
      clear hdrop hx
      by_cases hmn : d < n
      case pos =>
        have hmi : (d : Int) < (n : Int) := by omega
        have HMN : Hid (min Y.length (x.toNat % 64) = d) := by show _ = _; rw [HR.out.2.2.1, hd]; omega
        have hu := cutUpto p n c d (by omega)
        obtain ⟨dp, hcf, hdp⟩ := cutF p n c d Y HR.out.2.2.1 hnc (by omega)
        have HDP : Hid (SrcAt w dp (Y.drop d)) := hdp w HR.out.2.1
        have HTL : Hid ((Y.take d).length = d) := by show _ = _; rw [List.length_take, HR.out.2.2.1]; omega
        clear hdp hd
        go_wp2_with (refine wpList_piece2 rfl (.tmp 23) (.tmp 27) rfl (.slice ao no co) Xs (by go_simp) HR.out.1 p (Y.take d) d c HTL.out (by go_simp) ((HR.out.2.1.oldF HFW.out).take d) (fun ad e hl => HAP.out ad e (by rw [HTL.out] at hl; omega)) (by have := HR.out.2.2.2.2; omega) ?_; intro a' n' c' w1 N1 P1 F1 B1)
        go_roundw
        case rel =>
          refine ⟨i + 1, dp, n - d, c - d, Y.drop d, a', n', c', Xs ++ [Y.take d], rfl, rfl, by go_num, by omega, by omega, by omega, P1.out, HDP.out, by rw [List.length_drop, HR.out.2.2.1], ?_, by rw [List.length_append, HR.out.2.2.2.2]; rfl⟩
          have h1 := HR.out.2.2.2.1
          rw [HDR.out, cutL, HMN.out] at h1
          rw [List.append_assoc]
          exact h1
        case measure => simp [intOf]; omega
      case neg =>
        have hmi : ¬ (d : Int) < (n : Int) := by omega
        have hmi2 : (n : Int) ≤ (d : Int) := by omega
        have HMN : Hid (min Y.length (x.toNat % 64) = n) := by show _ = _; rw [HR.out.2.2.1, hd]; omega
        have hu := cutUpto p n c n (by omega)
        obtain ⟨dp, hcf, hdp⟩ := cutF p n c n Y HR.out.2.2.1 hnc (by omega)
        have HDP : Hid (SrcAt w dp (Y.drop n)) := hdp w HR.out.2.1
        have HTL : Hid ((Y.take n).length = n) := by show _ = _; rw [List.length_take, HR.out.2.2.1]; omega
        clear hdp hd
        go_wp2_with (refine wpList_piece2 rfl (.tmp 23) (.tmp 27) rfl (.slice ao no co) Xs (by go_simp) HR.out.1 p (Y.take n) n c HTL.out (by go_simp) ((HR.out.2.1.oldF HFW.out).take n) (fun ad e hl => HAP.out ad e (by rw [HTL.out] at hl; omega)) (by have := HR.out.2.2.2.2; omega) ?_; intro a' n' c' w1 N1 P1 F1 B1)
        go_roundw
        case rel =>
          refine ⟨i + 1, dp, n - n, c - n, Y.drop n, a', n', c', Xs ++ [Y.take n], (by rw [Nat.sub_self]), rfl, by go_num, by omega, by omega, by omega, P1.out, HDP.out, by rw [List.length_drop, HR.out.2.2.1], ?_, by rw [List.length_append, HR.out.2.2.2.2]; rfl⟩
          have h1 := HR.out.2.2.2.1
          rw [HDR.out, cutL, HMN.out] at h1
          rw [List.append_assoc]
          exact h1
        case measure => simp [intOf]; omega
    · have hlti : ¬ (i : Int) < (len1 : Int) := by omega
      have HAP : Hid (∀ ad, p = some ad → 0 < n → (Value.slice ao no co).ownBlock ≠ some ad.block) := fun ad e hl e2 => by
        obtain ⟨vs, -, h2, -⟩ := HR.out.1
        have h3 := h2 _ e2
        have h4 := srcB_lt HR.out.2.1 ad e (by rw [HR.out.2.2.1]; exact hl)
        omega
      go_wp2_with (refine wpList_piece2 rfl (.tmp 32) (.tmp 34) rfl (.slice ao no co) Xs (by go_simp) HR.out.1 p Y n c HR.out.2.2.1 (by go_simp) (HR.out.2.1.oldF HFW.out) (fun ad e hl => HAP.out ad e (by rw [HR.out.2.2.1] at hl; omega)) (by have := HR.out.2.2.2.2; omega) ?_; intro a' n' c' w1 N1 P1 F1 B1)
      go_ret
      refine ⟨a', n', c', rfl, ?_⟩
      have h1 := HR.out.2.2.2.1
      rw [List.drop_of_length_le (by rw [HUL.out]; omega), cutL] at h1
      rw [← h1]
      exact P1.out
end Go.Proofs.Ytikaefjhmgcidaa
