/- Contracts of what makes a number's bytes: field.lowest, aqueductref02.bytes. -/
import Derived.Test.YtpjbgjgaigkbcaaGreatFU2
namespace Go.Proofs.YtpjbgjgaigkbcaaGreat
open Go.RowKit
set_option linter.unusedVariables false

/-- The n lowest bytes of m, the highest of them first. -/
def be : Nat → Nat → List UInt8
  | 0, _ => []
  | n + 1, m => be n (m / 256) ++ [UInt8.ofNat m]

theorem be_length (n m : Nat) : (be n m).length = n := by
  induction n generalizing m with
  | zero => rfl
  | succ n ih => simp [be, ih]

/-- Bytes that lie in memory that was not there. -/
def New (w w' : World) (sp : Option Addr) (X : List UInt8) : Prop := SrcAt w' sp X ∧ ∀ ad, sp = some ad → w.heap.size ≤ ad.block
theorem New.nil (w w' : World) : New w w' none [] := ⟨SrcAt.nil _ _, fun _ h => by cases h⟩

theorem src_block {w : World} {g : Nat} {cs : Array Value} {t : TypeId} (off : Nat) (X : List UInt8) (hg : w.heap[g]? = some (.cells cs t (0, 0))) (h : cs.toList.drop off = bv X) : SrcAt w (some ⟨g, off, none⟩) X := by
  intro j c hj
  refine ⟨_, rfl, ?_⟩
  rw [add_none]
  refine cell_of_heap hg ?_
  have h1 : (cs.toList.drop off)[j]? = some (.int .u8 c.toNat) := by rw [h]; exact (bv_get _ _ _).2 ⟨c, hj, rfl⟩
  rw [List.getElem?_drop] at h1
  simpa using h1

theorem step_full {P : Program} {w0 w : World} {o : Oper} {a : Act} {K : Act → World → Prop} {Q : Exit → Act → World → Prop} (s x : Operand) (t tx : TypeId)
    (ho : o.op = .call { callee := .builtin .append, args := #[s, x], argTypes := #[t, tx] })
    (i : TypeInfo) (ht : P.underlying t = some (.slice 5)) (htx : P.underlying tx = some (.slice 5)) (hi : P.info? 5 = some i) (hz : i.zero = some (.int .u8 0)) (hsize : i.size = 1) (hby : i.bytes = 1)
    (sv : Option Addr) (n : Nat) (xs : List UInt8) (hsv : a.eval s = .slice sv n n) (hS : SrcAt w sv xs) (hn : xs.length = n) (hf : Fr (fun _ => False) w0 w) (sp : Option Addr) (m c : Nat) (hxv : a.eval x = .slice sp m c) (X : List UInt8) (hX : SrcAt w sp X) (hm : X.length = m) (h0 : 0 < m) (hbytes : xs.length + m ≤ 225179981368371)
    (h : ∀ a' n' c' w', Hid (n' = xs.length + m) → Gath w0 w' (.slice a' n' c') (xs ++ X) → Hid (Fr (fun _ => False) w w') → K (a.put o.dst (.slice a' n' c')) w') : o.wp P a w K Q := by
  subst hn
  subst hm
  have hs := src_bytes (P := P) tx 5 htx hX X.length c rfl
  have hold : (Builtin.firstCells i.size xs.length (.slice sv xs.length xs.length)).run P w.drew = .ok (bv xs).toArray w.drew := by
    cases sv with
    | none =>
      have h0 : xs = [] := by
        cases xs with
        | nil => rfl
        | cons y r => obtain ⟨ad, e, _⟩ := hS 0 y rfl; cases e
      subst h0
      exact run_firstCells_none _ _ _ _ _
    | some ad =>
      refine run_firstCells_some w.drew _ _ _ _ _ (bv xs) (by rw [hsize, bv_length]; omega) ?_
      intro j u hj
      obtain ⟨y, hy, rfl⟩ := (bv_get _ _ _).1 hj
      obtain ⟨ad', e, hc⟩ := hS j y hy
      cases e
      exact hc
  have hr := run_append_grow_src (P := P) w t tx o.type 5 i (.int .u8 0) ht hi hz sv xs.length xs.length (bv xs) hold (.slice sp X.length c) X.length (bv X) (by rw [hsize]; exact hs) (by omega) (by omega) (growslice_fits_wide (by omega) (by rw [hby]; omega))
  unfold Oper.wp execOp
  simp only [ho, resolve, invoke, builtin, Sem.run_bind, Sem.run_pure, Result.andThen_ok, List.map_toArray, List.map_cons, List.map_nil, hsv, hxv, hr]
  have hge := grownCap_ge w (xs.length + X.length) xs.length 5
  have hfr : Fr (fun _ => False) w (w.drew.alloc (.cells (((bv xs) ++ bv X).toArray ++ Builtin.zeroCells (Value.int .u8 0).cells (grownCap w (xs.length + X.length) xs.length 5 - (xs.length + X.length))) 5)) := (Fr.refl _ _).drew.alloc _
  refine h _ _ _ _ rfl ⟨.inr ⟨w.heap.size, 0, _, _, by rw [bv_length, List.length_append], heap_alloc_new w.drew _, ?_, ?_, grownCap_le_maxLen w _ xs.length 5 (by unfold maxLen; omega), ?_⟩, fun k hk => ?_, hf.trans hfr⟩ hfr
  · simp [size_zeroCells, Value.cells, bv_length]; omega
  · rw [bv_length, List.length_append]; exact hge
  · rw [List.drop_zero, Array.toList_append, ← bv_append]; exact List.take_left
  · simp [Value.ownBlock] at hk; have := hf.size; omega
theorem wpList_full {P : Program} {w0 w : World} {ops : Array Oper} {rest : List Oper} {o : Oper} {a : Act} {Q : Exit → Act → World → Prop} (hgd : o.guard = none) (s x : Operand) (t tx : TypeId)
    (ho : o.op = .call { callee := .builtin .append, args := #[s, x], argTypes := #[t, tx] })
    (i : TypeInfo) (ht : P.underlying t = some (.slice 5)) (htx : P.underlying tx = some (.slice 5)) (hi : P.info? 5 = some i) (hz : i.zero = some (.int .u8 0)) (hsize : i.size = 1) (hby : i.bytes = 1)
    (sv : Option Addr) (n : Nat) (xs : List UInt8) (hsv : a.eval s = .slice sv n n) (hS : SrcAt w sv xs) (hn : xs.length = n) (hf : Fr (fun _ => False) w0 w) (sp : Option Addr) (m c : Nat) (hxv : a.eval x = .slice sp m c) (X : List UInt8) (hX : SrcAt w sp X) (hm : X.length = m) (h0 : 0 < m) (hbytes : xs.length + m ≤ 225179981368371)
    (h : ∀ a' n' c' w', Hid (n' = xs.length + m) → Gath w0 w' (.slice a' n' c') (xs ++ X) → Hid (Fr (fun _ => False) w w') → wpList P ops Q rest (a.put o.dst (.slice a' n' c')) w') : wpList P ops Q (o :: rest) a w :=
  wpList_plain hgd fun _ hK => step_full s x t tx ho i ht htx hi hz hsize hby sv n xs hsv hS hn hf sp m c hxv X hX hm h0 hbytes (fun a' n' c' w' h1 h2 h3 => hK _ _ (h a' n' c' w' h1 h2 h3))
theorem stepR_full {P : Program} {w0 w : World} {ops : Array Oper} {o : Oper} {a : Act} {K : Act → World → Prop} {Q : Exit → Act → World → Prop} {E : Prop} (hgd : o.guard = none) (dd : Tmp) (hdst : o.dst = some dd) (s x : Operand) (t tx : TypeId)
    (ho : o.op = .call { callee := .builtin .append, args := #[s, x], argTypes := #[t, tx] })
    (i : TypeInfo) (ht : P.underlying t = some (.slice 5)) (htx : P.underlying tx = some (.slice 5)) (hi : P.info? 5 = some i) (hz : i.zero = some (.int .u8 0)) (hsize : i.size = 1) (hby : i.bytes = 1)
    (sv : Option Addr) (n : Nat) (xs : List UInt8) (hsv : a.eval s = .slice sv n n) (hS : SrcAt w sv xs) (hn : xs.length = n) (hf : Fr (fun _ => False) w0 w) (sp : Option Addr) (m c : Nat) (hxv : a.eval x = .slice sp m c) (X : List UInt8) (hX : SrcAt w sp X) (hm : X.length = m) (h0 : 0 < m) (hbytes : xs.length + m ≤ 225179981368371)
    (h : ∀ a' n' c' w', Hid (n' = xs.length + m) → Gath w0 w' (.slice a' n' c') (xs ++ X) → Hid (Fr (fun _ => False) w w') → K (a.put (some dd) (.slice a' n' c')) w') :
    if Region.wanted o (yielded ops a.tmps) = true then Oper.wp P o a w K Q else E := by
  have hw : Region.wanted o (yielded ops a.tmps) = true := by simp [Region.wanted, hgd]
  rw [if_pos hw]
  rw [← hdst] at h
  exact step_full s x t tx ho i ht htx hi hz hsize hby sv n xs hsv hS hn hf sp m c hxv X hX hm h0 hbytes h

theorem make_bytes (n : Nat) (h : n ≤ 140737488351232) : ∀ w : World, (Instr.makeSlice 43 (.int .i64 (n : Int)) (.int .i64 (n : Int))).run Tryz.prog w = .ok (.slice (some ⟨w.heap.size, 0, none⟩) n n) (w.alloc (.cells (bv (List.replicate n 0)).toArray 5)) := by
  intro w
  have hr := run_make (P := Tryz.prog) w 43 5 ((Tryz.prog.info? 5).get (by kernel_rfl)) (.int .u8 0) Tryz.underlying43 (by kernel_rfl) (by kernel_rfl) .i64 .i64 n n (by omega) (by omega) (by rw [show (((Tryz.prog.info? 5).get (by kernel_rfl)).bytes) = 1 from by kernel_rfl]; omega) (by omega)
  rw [show (((Tryz.prog.info? 5).get (by kernel_rfl)).size) = 1 from by kernel_rfl] at hr
  simpa [Value.cells, made_bytes] using hr

theorem lowest2 (m : Nat) (w : World) (hm : m < 4294967296) :
    Calls Tryz.prog 98 #[.int .u32 m, .int .i64 2] w fun e w' => (∃ sp, e = .returned (.slice sp 2 2) ∧ New w w' sp (be 2 m)) ∧ Fr (fun _ => False) w w' := by
  go_enter Tryz.func98, Tryz.ntmps98
  go_wp2
  go_ret
  refine ⟨⟨_, rfl, src_block 2 _ (heap_alloc_new w _) ?_, fun ad h => by cases h; exact Nat.le_refl _⟩, (Fr.refl _ _).alloc _⟩
  simp [be, bv]
  all_goals omega

theorem lowest3 (m : Nat) (w : World) (hm : m < 4294967296) :
    Calls Tryz.prog 98 #[.int .u32 m, .int .i64 3] w fun e w' => (∃ sp, e = .returned (.slice sp 3 3) ∧ New w w' sp (be 3 m)) ∧ Fr (fun _ => False) w w' := by
  go_enter Tryz.func98, Tryz.ntmps98
  go_wp2
  go_ret
  refine ⟨⟨_, rfl, src_block 1 _ (heap_alloc_new w _) ?_, fun ad h => by cases h; exact Nat.le_refl _⟩, (Fr.refl _ _).alloc _⟩
  simp [be, bv]
  all_goals omega

theorem lowest4 (m : Nat) (w : World) (hm : m < 4294967296) :
    Calls Tryz.prog 98 #[.int .u32 m, .int .i64 4] w fun e w' => (∃ sp, e = .returned (.slice sp 4 4) ∧ New w w' sp (be 4 m)) ∧ Fr (fun _ => False) w w' := by
  go_enter Tryz.func98, Tryz.ntmps98
  go_wp2
  go_ret
  refine ⟨⟨_, rfl, src_block 0 _ (heap_alloc_new w _) ?_, fun ad h => by cases h; exact Nat.le_refl _⟩, (Fr.refl _ _).alloc _⟩
  simp [be, bv]
  all_goals omega

end Go.Proofs.YtpjbgjgaigkbcaaGreat
