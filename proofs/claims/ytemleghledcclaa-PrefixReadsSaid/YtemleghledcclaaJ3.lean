/- Reading a text: the plain side; contracts of prefix.takeBytes and prefix.GetText. -/
import Derived.Test.YtemleghledcclaaI3
import Derived.Test.YtemleghledcclaaD4
namespace Go.Proofs.Ytemleghledcclaa
open Go.RowKit
set_option maxRecDepth 100000
set_option maxHeartbeats 4000000
set_option linter.unusedVariables false

/-- What is read of the bytes of a text. -/
def textOut (p most q : Nat) (x : UInt8) (Y : List UInt8) : List UInt8 × Nat × Nat :=
  if x.toNat < 128 then (Y, q + Y.length, 0) else
  match dec [] (stream Y) 0 with
  | .inl Z => if most < Z.length then ([], p, 2) else (Z, q + Y.length, 0)
  | .inr none => ([], q + Y.length, 30)
  | .inr (some n) => ([], q + n / 8, 31)
/-- What GetText answers. -/
def readText (X : List UInt8) (p most : Int) : List UInt8 × Nat × Nat :=
  if most < 0 ∨ 16384 < most ∨ p < 0 ∨ (X.length : Int) < p then ([], 0, 1) else
  if (getOut X p 7).2.2 ≠ 0 then ([], (getOut X p 7).2.1, (getOut X p 7).2.2) else
  if most < (getOut X p 7).1 then ([], p.toNat, 2) else
  if X.length - (getOut X p 7).2.1 < (getOut X p 7).1 then ([], X.length, 3) else
  textOut p.toNat most.toNat (getOut X p 7).2.1 (X.getD p.toNat 0) ((X.drop (getOut X p 7).2.1).take (getOut X p 7).1)
def triT (r : List UInt8 × Nat × Nat) : Value := .tuple #[.string ⟨r.1.toArray⟩, .int .i64 r.2.1, .int .i64 r.2.2]

theorem digs_le : ∀ (T : List UInt8) (c s p : Nat), s ≤ 2147483647 → (digs c s p T).1 ≤ 2147483647 ∧ (digs c s p T).2.1 ≤ p + T.length ∧ p ≤ (digs c s p T).2.1 ∧ (digs c s p T).2.2 ≤ 3 := by
  intro T
  induction T with
  | nil => intro c s p h; simp [digs]
  | cons x T ih =>
    intro c s p h
    rw [digs]
    split
    · simp
    · split
      · simp
      · rename_i h1 h2
        split
        · simp; omega
        · have := ih (c + 1) (s + x.toNat % 128 * 128 ^ c) (p + 1) (by omega)
          simp only [List.length_cons]
          omega
theorem getOut_le {X : List UInt8} {p k : Nat} (h1 : 1 ≤ k) (h8 : k ≤ 8) (hp : p ≤ X.length) : (getOut X p k).1 ≤ 2147483647 ∧ (getOut X p k).2.1 ≤ X.length ∧ (getOut X p k).2.2 ≤ 3 ∧ ((getOut X p k).2.2 = 0 → p < (getOut X p k).2.1) := by
  by_cases hlt : p < X.length
  · rw [getOut_at h1 h8 (List.getElem?_eq_getElem hlt)]
    have hb := pow_cases k h8
    have hm := Nat.mod_lt (X[p]).toNat (Nat.two_pow_pos k)
    split
    · simp; omega
    · have := digs_le (X.drop (p + 1)) 0 ((X[p]).toNat % 2 ^ k) (p + 1) (by omega)
      rw [List.length_drop] at this
      omega
  · obtain rfl : p = X.length := by omega
    rw [getOut_end h1 h8]
    simp

theorem set_next (Y : List UInt8) (n i : Nat) (hY : Y.length = n) (hi : i < n) (y : UInt8) (hy : Y[i]? = some y) : (Y.take i ++ List.replicate (n - i) 0).set i y = Y.take (i + 1) ++ List.replicate (n - (i + 1)) 0 := by
  have hl : (Y.take i).length = i := by rw [List.length_take]; omega
  rw [List.set_append_right _ _ (by omega), hl, Nat.sub_self, show n - i = (n - (i + 1)) + 1 by omega, List.replicate_succ, List.set_cons_zero, List.take_add_one, hy]
  simp
theorem make_full (n : Nat) (h : n ≤ 140737488351232) : ∀ w : World, (Instr.makeSlice 22 (.int .i64 (n : Int)) (.int .i64 (n : Int))).run Try.prog w = .ok (.slice (some ⟨w.heap.size, 0, none⟩) n n) (w.alloc (.cells (bv (List.replicate n 0)).toArray 5)) := by
  intro w
  have hr := run_make (P := Try.prog) w 22 5 ((Try.prog.info? 5).get (by kernel_rfl)) (.int .u8 0) Try.underlying22 (by kernel_rfl) (by kernel_rfl) .i64 .i64 n n (by omega) (by omega) (by rw [show (((Try.prog.info? 5).get (by kernel_rfl)).bytes) = 1 from by kernel_rfl]; omega) (by omega)
  rw [show (((Try.prog.info? 5).get (by kernel_rfl)).size) = 1 from by kernel_rfl] at hr
  simpa [Value.cells, made_bytes] using hr
theorem own_full (w : World) (n : Nat) (hn : n ≤ 140737488351232) : OwnAt (w.alloc (.cells (bv (List.replicate n 0)).toArray 5)) 5 (.slice (some ⟨w.heap.size, 0, none⟩) n n) (bv (List.replicate n 0)) :=
  .inr ⟨w.heap.size, 0, n, _, by simp [bv_length], heap_alloc_new w _, by simp [bv_length], by simp [bv_length], by unfold maxLen; omega, by simp⟩

theorem takeBytes_any (a : Option Addr) (len cap p n : Nat) (w : World) (X : List UInt8) (hs : SrcAt w a X) (hl : X.length = len) (hm : len ≤ 9223372036854775807) (hp : p + n ≤ len) (hn : n ≤ 1048576) :
    Calls Try.prog 35 #[.slice a len cap, .int .i64 p, .int .i64 n] w fun e w' => ∃ g, e = .returned (.slice (some ⟨g, 0, none⟩) n n) ∧ Gath w w' (.slice (some ⟨g, 0, none⟩) n n) ((X.drop p).take n) := by
  have hmk := make_full n (by omega)
  obtain ⟨Y, hY⟩ : ∃ Y, Y = (X.drop p).take n := ⟨_, rfl⟩
  have hYl : Y.length = n := by rw [hY, List.length_take, List.length_drop]; omega
  have HYg : Hid (∀ i, i < n → ∀ c, X[p + i]? = some c → Y[i]? = some c) := by
    intro i hi c hc
    rw [hY, List.getElem?_take, if_pos hi, List.getElem?_drop]
    exact hc
  rw [← hY]
  have HS : Hid (SrcAt w a X) := hs
  have HOF : Hid (OwnAt (w.alloc (.cells (bv (List.replicate n 0)).toArray 5)) 5 (.slice (some ⟨w.heap.size, 0, none⟩) n n) (bv (List.replicate n 0))) := own_full w n (by omega)
  clear hs hY
  go_enter Try.func35, Try.ntmps35
  go_wp2_with (fail)
  go_loopw [12] (fun v12 wr => ∃ i : Nat, i ≤ n ∧ v12 = .int .i64 i ∧ Hid (OwnAt wr 5 (.slice (some ⟨w.heap.size, 0, none⟩) n n) (bv (Y.take i ++ List.replicate (n - i) 0)) ∧ Fr (fun _ => False) w wr)) (fun v12 _ => n - (intOf v12).toNat)
  case atStart => exact ⟨0, by omega, rfl, by simpa using HOF.out, (Fr.refl _ _).alloc _⟩
  case round =>
    obtain ⟨i, hi, rfl, HJ⟩ := hrel
    by_cases hlt : i < n
    · have hci : (i : Int) < n := by omega
      obtain ⟨r, hr⟩ : ∃ r, r = p + i := ⟨_, rfl⟩
      have hri : (p : Int) + i = (r : Int) := by omega
      have hrl : (r : Int) < len := by omega
      obtain ⟨ad, x, rfl, hx, hc⟩ := src_at (HS.out.oldF HJ.out.2) r (by omega)
      have hyx := HYg.out i hlt x (by rw [← hr]; exact hx)
      have hzl : (Y.take i ++ List.replicate (n - i) 0).length = n := by rw [List.length_append, List.length_take, List.length_replicate]; omega
      obtain ⟨y0, hy0, hz0⟩ := own_cell HJ.out.1 i (by rw [hzl]; exact hlt)
      rw [Nat.zero_add] at hy0 hz0
      have hset := own_set HJ.out.1 i (by rw [hzl]; exact hlt) x
      rw [Nat.zero_add, set_next Y n i hYl hlt x hyx] at hset
      have HN : Hid (OwnAt (wr.setCell ⟨w.heap.size, i, none⟩ (.int .u8 x.toNat)) 5 (.slice (some ⟨w.heap.size, 0, none⟩) n n) (bv (Y.take (i + 1) ++ List.replicate (n - (i + 1)) 0)) ∧ Fr (fun _ => False) w (wr.setCell ⟨w.heap.size, i, none⟩ (.int .u8 x.toNat))) := by
        refine ⟨hset, ?_⟩
        have h1 : Fr (fun k => w.heap.size ≤ k) w (wr.setCell ⟨w.heap.size, i, none⟩ (.int .u8 x.toNat)) := (HJ.out.2.mono (fun _ _ e => e.elim)).setS (Nat.le_refl _) i _
        exact h1.old
      have hgl : w.heap.size < wr.heap.size := World.block_lt_of_cell? _ _ hy0
      clear hset hyx hx hr
      go_wp2_with (fail)
      go_roundw
      case rel => exact ⟨i + 1, by omega, by go_num, HN⟩
      case measure => simp [intOf]; omega
    · obtain rfl : i = n := by omega
      have hci : ¬ (i : Int) < i := by omega
      have HD : Hid (OwnAt wr 5 (.slice (some ⟨w.heap.size, 0, none⟩) i i) (bv Y)) := by
        have h := HJ.out.1
        rw [Nat.sub_self, List.replicate_zero, List.append_nil, List.take_of_length_le (by omega)] at h
        exact h
      go_wp2_with (fail)
      go_ret
      exact ⟨_, rfl, HD.out, fun k hk => by simp [Value.ownBlock] at hk; omega, HJ.out.2⟩

end Go.Proofs.Ytemleghledcclaa
