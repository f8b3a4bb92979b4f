/- Contract of the program's pieces of a frame. -/
import Derived.Test.YtpjbgjgaigkbcaaGreatFc
import Derived.Test.YtpjbgjgaigkbcaaGreatFe
import Derived.Test.YtpjbgjgaigkbcaaGreatFf
import Derived.Shelf.Abstract
namespace Go.Proofs.YtpjbgjgaigkbcaaGreat
open Go.RowKit
set_option linter.unusedVariables false
set_option maxRecDepth 100000
set_option maxHeartbeats 4000000

theorem parts_cell (js : List Nat) : ∀ (i t : Nat) (j : Nat), js[i]? = some j → t < 3 → ((js.map partCells).flatten)[i * 3 + t]? = (partCells j)[t]? := by
  induction js with
  | nil => intro i t j h; simp at h
  | cons a js ih =>
    intro i t j h ht
    have hl : (partCells a).length = 3 := rfl
    cases i with
    | zero =>
      simp at h
      subst h
      rw [List.map_cons, List.flatten_cons, Nat.zero_mul, Nat.zero_add, List.getElem?_append_left (by omega)]
    | succ i =>
      rw [List.map_cons, List.flatten_cons, List.getElem?_append_right (by omega), hl, show (i + 1) * 3 + t - 3 = i * 3 + t by omega]
      exact ih i t j (by simpa using h) ht
/-- Parts in memory, cell by cell. -/
def PartsC (w : World) (sp : Option Addr) (js : List Nat) : Prop := ∀ r j, js[r]? = some j → ∃ g o, sp = some ⟨g, o, none⟩ ∧ w.cell? ⟨g, o + r * 3, none⟩ = some (.int .i64 (sizeP j : Nat)) ∧ w.cell? ⟨g, o + r * 3 + 1, none⟩ = some (.func (.func (wfn j)) #[] #[]) ∧ w.cell? ⟨g, o + r * 3 + 2, none⟩ = some (.func (.func (rfn j)) #[] #[])
theorem PartsAt.cells {w : World} {sp : Option Addr} {js : List Nat} (h : PartsAt w sp js) : PartsC w sp js := by
  intro r j hr
  rcases h with rfl | ⟨g, h1, h2⟩
  · simp at hr
  · refine ⟨g, 0, h1, ?_, ?_, ?_⟩
    · refine cell_of_heap h2 ?_
      rw [Nat.zero_add, List.getElem?_toArray]
      exact parts_cell js r 0 j hr (by omega)
    · refine cell_of_heap h2 ?_
      rw [Nat.zero_add, List.getElem?_toArray]
      exact parts_cell js r 1 j hr (by omega)
    · refine cell_of_heap h2 ?_
      rw [Nat.zero_add, List.getElem?_toArray]
      exact parts_cell js r 2 j hr (by omega)
theorem PartsC.fr {S : Nat → Prop} {w w' : World} {sp : Option Addr} {js : List Nat} (h : PartsC w sp js) (hf : Fr S w w') (hs : js ≠ [] → ∀ g o, sp = some ⟨g, o, none⟩ → ¬ S g) : PartsC w' sp js := by
  intro r j hr
  obtain ⟨g, o, h1, h2, h3, h4⟩ := h r j hr
  have hlt := World.block_lt_of_cell? _ _ h2
  have hc : ∀ k, w'.cell? ⟨g, k, none⟩ = w.cell? ⟨g, k, none⟩ := fun k => hf.cell (p := ⟨g, k, none⟩) hlt (hs (fun e => by subst e; simp at hr) g o h1)
  exact ⟨g, o, h1, (hc _).trans h2, (hc _).trans h3, (hc _).trans h4⟩
theorem partsOf_lt {f : Fra} : ∀ j ∈ partsOf f, j < 7 := by
  intro j hj
  unfold partsOf at hj
  repeat' split at hj
  all_goals simp at hj
  all_goals omega
theorem partsOf_few (f : Fra) : (partsOf f).length ≤ 3 := by
  unfold partsOf
  repeat' split
  all_goals simp

/-- Pieces, gathered in memory of one's own. -/
def Pcs (w0 w : World) (v : Value) (Xs : List (List UInt8)) : Prop := ∃ vs : List Value, OwnAt w 43 v vs ∧ (∀ k, v.ownBlock = some k → w0.heap.size ≤ k) ∧ Fr (fun _ => False) w0 w ∧ vs.length = Xs.length ∧ ∀ (r : Nat) (X : List UInt8), Xs[r]? = some X → ∃ (q : Option Addr) (c : Nat), vs[r]? = some (Value.slice q X.length c) ∧ SrcAt w q X ∧ (∀ ad, q = some ad → 0 < X.length → v.ownBlock ≠ some ad.block)
theorem Pcs.ofNil {w0 w : World} (hf : Fr (fun _ => False) w0 w) : Pcs w0 w (.slice none 0 0) [] := ⟨[], OwnAt.nil _ _, fun k hk => by simp [Value.ownBlock] at hk, hf, rfl, fun r X h => by simp at h⟩
theorem Pcs.later {w0 w w' : World} {v : Value} {Xs : List (List UInt8)} (h : Pcs w0 w v Xs) (hf : Fr (fun _ => False) w w') : Pcs w0 w' v Xs := by
  obtain ⟨vs, h1, h2, h3, h4, h5⟩ := h
  refine ⟨vs, h1.fr hf (fun _ _ => id), h2, h3.trans hf, h4, fun r X hr => ?_⟩
  obtain ⟨q, c, a1, a2, a3⟩ := h5 r X hr
  exact ⟨q, c, a1, a2.oldF hf, a3⟩
theorem Pcs.old {w w0 w' : World} {v : Value} {Xs : List (List UInt8)} (h : Pcs w0 w' v Xs) (hf : Fr (fun _ => False) w w0) : Pcs w w' v Xs := by
  obtain ⟨vs, h1, h2, h3, h4, h5⟩ := h
  exact ⟨vs, h1, fun k hk => Nat.le_trans hf.size (h2 k hk), hf.trans h3, h4, h5⟩
theorem Pcs.lt {w0 w : World} {v : Value} {Xs : List (List UInt8)} (h : Pcs w0 w v Xs) {k : Nat} (hk : v.ownBlock = some k) : k < w.heap.size := by
  obtain ⟨vs, h1, _⟩ := h
  exact h1.lt k hk

theorem parts_apart {w0 w : World} {v : Value} {Xs : List (List UInt8)} (hP : Pcs w0 w v Xs) {sp : Option Addr} {js : List Nat} (h : PartsAt w sp js) : js ≠ [] → ∀ g o, sp = some ⟨g, o, none⟩ → v.ownBlock ≠ some g := by
  intro hj g o e e2
  rcases h with h | ⟨g', h1, h2⟩
  · exact hj h
  · rw [e] at h1
    simp only [Option.some.injEq, Addr.mk.injEq, and_true] at h1
    obtain ⟨rfl, -⟩ := h1
    obtain ⟨vs, hO, _⟩ := hP
    rcases hO with ⟨rfl, _⟩ | ⟨k, off, cap, cur, rfl, hk, _⟩
    · simp [Value.ownBlock] at e2
    · simp [Value.ownBlock] at e2
      subst e2
      rw [h2] at hk
      simp at hk

theorem infoB : ∃ i, Tryz.prog.info? 43 = some i ∧ i.zero = some (.slice none 0 0) ∧ i.size = 1 ∧ i.bytes = 24 :=
  ⟨(Tryz.prog.info? 43).get (by kernel_rfl), by kernel_rfl, by kernel_rfl, by kernel_rfl, by kernel_rfl⟩

theorem wpList_piece {w0 w : World} {ops : Array Oper} {rest : List Oper} {o : Oper} {a : Act} {Q : Exit → Act → World → Prop} (hgd : o.guard = none) (s x : Operand)
    (ho : o.op = .call { callee := .builtin .append, args := #[s, x], argTypes := #[138, 138] })
    (v : Value) (Xs : List (List UInt8)) (hsv : a.eval s = v) (hP : Pcs w0 w v Xs) (q : Option Addr) (X : List UInt8) (l c : Nat) (hl : X.length = l) (hxv : a.eval x = .slice (some ⟨w.heap.size, 0, none⟩) 1 1) (hX : SrcAt w q X) (hap : ∀ ad, q = some ad → 0 < X.length → v.ownBlock ≠ some ad.block) (hfew : Xs.length ≤ 100)
    (h : ∀ a' n' c' w', Hid (n' = Xs.length + 1) → Hid (Pcs w0 w' (.slice a' n' c') (Xs ++ [X])) → Hid (Fr (fun k => v.ownBlock = some k) w w') → Hid ((Value.slice a' n' c').ownBlock = v.ownBlock ∨ ∃ k, (Value.slice a' n' c').ownBlock = some k ∧ w.heap.size < k) → wpList Tryz.prog ops Q rest (a.put o.dst (.slice a' n' c')) w') : wpList Tryz.prog ops Q (o :: rest) a (w.alloc (.cells #[.slice q l c] 43)) := by
  subst hl
  obtain ⟨vs, h1, h2, h3, h4, h5⟩ := hP
  obtain ⟨i, I1, I2, I3, I4⟩ := infoB
  have hal : Fr (fun _ => False) w (w.alloc (.cells #[.slice q X.length c] 43)) := (Fr.refl _ _).alloc _
  refine wpList_append_at hgd s x 138 138 ho 43 i (.slice none 0 0) Tryz.underlying138 I1 I2 I3 rfl v vs hsv (h1.fr hal (fun _ _ => id)) _ hxv 1 [.slice q X.length c] (Src.ofSlice _ Tryz.underlying138 _ 1 1 [.slice q X.length c] rfl (fun j u hj => ?_) (by simp [Value.oneCell'])) (by rw [I4, h4]; omega) (by rw [h4]; unfold maxLen; omega) ?_
  · cases j with
    | zero => simp at hj; subst hj; rw [add_none]; exact cell_of_heap (heap_alloc_new w _) rfl
    | succ j => simp at hj
  · intro a' c' w' hO hF hk
    rw [h4] at hO hk ⊢
    have hF' : Fr (fun k => v.ownBlock = some k) w w' := (hal.mono (fun _ _ e => e.elim)).trans hF.out
    have hk' : (Value.slice a' (Xs.length + 1) c').ownBlock = v.ownBlock ∨ ∃ k, (Value.slice a' (Xs.length + 1) c').ownBlock = some k ∧ w.heap.size < k := by
      rcases hk.out with e | ⟨k, e, hk2⟩
      · exact .inl e
      · exact .inr ⟨k, e, by simp at hk2; omega⟩
    have hsz := h3.size
    have hap2 : ∀ (q : Option Addr) (Y : List UInt8), SrcAt w q Y → (∀ ad, q = some ad → 0 < Y.length → v.ownBlock ≠ some ad.block) → (∀ ad, q = some ad → 0 < Y.length → (Value.slice a' (Xs.length + 1) c').ownBlock ≠ some ad.block) := fun q Y hY hn ad e hp => by
      rcases hk' with e2 | ⟨k, e2, hk2⟩
      · rw [e2]; exact hn ad e hp
      · rw [e2]
        intro e3
        cases e3
        obtain ⟨ad', e4, hc⟩ := hY 0 Y[0] (by simp)
        rw [e] at e4
        cases e4
        have := World.block_lt_of_cell? _ _ hc
        have hb : (ad.add 0).block = ad.block := by unfold Addr.add; split <;> rfl
        omega
    refine h a' (Xs.length + 1) c' w' rfl ⟨vs ++ [.slice q X.length c], hO, fun k hk2 => ?_, ?_, by simp [h4], fun r Y hr => ?_⟩ hF' hk'
    · rcases hk' with e | ⟨k', e, hk3⟩
      · exact h2 k (e ▸ hk2)
      · rw [e] at hk2; cases hk2; omega
    · exact ((h3.mono (T := fun k => v.ownBlock = some k) (fun _ _ e => e.elim)).trans hF').mono (fun k hk2 e => by have := h2 k e; omega)
    · by_cases hrl : r < Xs.length
      · rw [List.getElem?_append_left hrl] at hr
        obtain ⟨q2, c2, b1, b2, b3⟩ := h5 r Y hr
        exact ⟨q2, c2, by rw [List.getElem?_append_left (by omega)]; exact b1, b2.fr hF' (fun ad e hp => b3 ad e hp), hap2 q2 Y b2 b3⟩
      · rw [List.getElem?_append_right (by omega)] at hr
        have hr0 : r = Xs.length := by
          have := (List.getElem?_eq_some_iff.1 hr).1
          simp at this
          omega
        subst hr0
        simp at hr
        subst hr
        exact ⟨q, c, by rw [List.getElem?_append_right (by omega), h4]; simp, hX.fr hF' (fun ad e hp => hap ad e hp), hap2 q X hX hap⟩

theorem pieceO_err (j : Nat) (f : Fra) : (pieceO j f).1 = 0 ∨ pieceO j f = (1, []) := by
  unfold pieceO
  repeat' split
  all_goals simp
/-- What writes a part. -/
theorem writer_in (j : Nat) (hj : j < 7) (f : Fra) (p q : Option Addr) (cp cq g : Nat) (w : World) (h : FAt w g f p cp q cq) (hi : FrIn w f p q cq) (h0 : 0 ≤ f.fl) (h1 : f.fl ≤ 255) :
    Calls Tryz.prog (wfn j) #[.pointer (some ⟨g, 0, none⟩)] w fun e w' => PieceAs w p f.X (pieceO j f) e w' ∧ Fr (fun _ => False) w w' := by
  obtain rfl | rfl | rfl | rfl | rfl | rfl | rfl : j = 0 ∨ j = 1 ∨ j = 2 ∨ j = 3 ∨ j = 4 ∨ j = 5 ∨ j = 6 := by omega
  · exact writeLast_in f p q cp cq g w h hi.last
  · exact writeCode_in f p q cp cq g w h hi.code
  · exact writePriority_in f p q cp cq g w h hi.dep hi.wt
  · exact writeRest_in f p q cp cq g w h hi.src
  · exact writeSettings_in f p q cp cq g w h hi.sets h0 h1
  · exact writePing_in f p q cp cq g w h hi.src hi.few
  · exact writeInc_in f p q cp cq g w h hi.inc
theorem enters_w (j : Nat) (hj : j < 7) (args : Array Value) (w : World) : Sem.run Tryz.prog (callFunc (wfn j) args) w = .ok (.enter (wfn j) args) w := by
  obtain rfl | rfl | rfl | rfl | rfl | rfl | rfl : j = 0 ∨ j = 1 ∨ j = 2 ∨ j = 3 ∨ j = 4 ∨ j = 5 ∨ j = 6 := by omega
  · exact enters_of (f := 67) Tryz.func67 (by kernel_rfl) rfl args w
  · exact enters_of (f := 69) Tryz.func69 (by kernel_rfl) rfl args w
  · exact enters_of (f := 71) Tryz.func71 (by kernel_rfl) rfl args w
  · exact enters_of (f := 73) Tryz.func73 (by kernel_rfl) rfl args w
  · exact enters_of (f := 75) Tryz.func75 (by kernel_rfl) rfl args w
  · exact enters_of (f := 77) Tryz.func77 (by kernel_rfl) rfl args w
  · exact enters_of (f := 78) Tryz.func78 (by kernel_rfl) rfl args w
theorem enters_r (j : Nat) (hj : j < 7) (args : Array Value) (w : World) : Sem.run Tryz.prog (callFunc (rfn j) args) w = .ok (.enter (rfn j) args) w := by
  obtain rfl | rfl | rfl | rfl | rfl | rfl | rfl : j = 0 ∨ j = 1 ∨ j = 2 ∨ j = 3 ∨ j = 4 ∨ j = 5 ∨ j = 6 := by omega
  · exact enters_of (f := 68) Tryz.func68 (by kernel_rfl) rfl args w
  · exact enters_of (f := 70) Tryz.func70 (by kernel_rfl) rfl args w
  · exact enters_of (f := 72) Tryz.func72 (by kernel_rfl) rfl args w
  · exact enters_of (f := 74) Tryz.func74 (by kernel_rfl) rfl args w
  · exact enters_of (f := 76) Tryz.func76 (by kernel_rfl) rfl args w
  · exact enters_of (f := 74) Tryz.func74 (by kernel_rfl) rfl args w
  · exact enters_of (f := 79) Tryz.func79 (by kernel_rfl) rfl args w
def pieceL (f : Fra) (js : List Nat) : List (List UInt8) := js.map fun j => (pieceO j f).2
theorem pieces_ok {f : Fra} {js : List Nat} (h : ∀ j ∈ js, (pieceO j f).1 = 0) : piecesO f js = (0, pieceL f js) := by
  induction js with
  | nil => rfl
  | cons j js ih =>
    have h1 := h j (by simp)
    rw [piecesO, if_pos h1, ih (fun k hk => h k (by simp [hk]))]
    rfl
theorem pieces_bad {f : Fra} {js : List Nat} {j : Nat} (hj : j ∈ js) (h : (pieceO j f).1 ≠ 0) : (piecesO f js).1 ≠ 0 := by
  induction js with
  | nil => simp at hj
  | cons k js ih =>
    rw [piecesO]
    by_cases hk : (pieceO k f).1 = 0
    · rw [if_pos hk]
      rcases List.mem_cons.1 hj with rfl | hj
      · exact absurd hk h
      · exact ih hj
    · rw [if_neg hk]; simp
end Go.Proofs.YtpjbgjgaigkbcaaGreat
