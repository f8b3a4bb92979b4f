/- Plain facts for Queue.Take: lists of chunks cut, slices cut with three bounds, bytes gathered by append. -/
import Derived.Test.YtaflgioelblcgaaQ2
namespace Go.Proofs.Ytaflgioelblcgaa
open Go.RowKit
set_option linter.unusedVariables false

/-- What is left of the chunks behind the first n bytes. -/
def restL : List (List UInt8) → Nat → List (List UInt8)
  | [], _ => []
  | c :: r, n => if n < c.length then c.drop n :: r else restL r (n - c.length)

theorem total_cons (c : List UInt8) (L : List (List UInt8)) : total (c :: L) = c.length + total L := by simp [total]
theorem flatten_length (L : List (List UInt8)) : L.flatten.length = total L := by simp [total, List.length_flatten]

theorem restL_all (L : List (List UInt8)) : ∀ n, total L ≤ n → restL L n = [] := by
  induction L with
  | nil => intro n _; rfl
  | cons c r ih =>
    intro n h
    rw [total_cons] at h
    rw [restL, if_neg (by omega)]
    exact ih _ (by omega)

theorem restL_at (L : List (List UInt8)) : ∀ (i n : Nat) (c : List UInt8), L[i]? = some c → total (L.take i) ≤ n → n < total (L.take i) + c.length → restL L n = (L.set i (c.drop (n - total (L.take i)))).drop i := by
  induction L with
  | nil => intro i n c h; simp at h
  | cons x r ih =>
    intro i n c h h1 h2
    cases i with
    | zero =>
      simp at h
      subst h
      simp only [List.take_zero] at *
      rw [restL, if_pos (by simpa [total] using h2)]
      simp [total]
    | succ i =>
      simp only [List.getElem?_cons_succ] at h
      simp only [List.take_succ_cons, total_cons] at h1 h2 ⊢
      rw [restL, if_neg (by omega), ih i (n - x.length) c h (by omega) (by omega)]
      simp [Nat.sub_sub]

theorem total_restL (L : List (List UInt8)) : ∀ n, n ≤ total L → total (restL L n) = total L - n := by
  induction L with
  | nil => intro n h; simp [restL, total] 
  | cons c r ih =>
    intro n h
    rw [total_cons] at h ⊢
    rw [restL]
    split
    · rw [total_cons, List.length_drop]; omega
    · rw [ih _ (by omega)]; omega

theorem take_flat (L : List (List UInt8)) (i n : Nat) (c : List UInt8) (h : L[i]? = some c) (h1 : total (L.take i) ≤ n) (h2 : n ≤ total (L.take i) + c.length) : (L.take i).flatten ++ c.take (n - total (L.take i)) = L.flatten.take n := by
  have hi : i < L.length := (List.getElem?_eq_some_iff.1 h).1
  have hc : L[i] = c := (List.getElem?_eq_some_iff.1 h).2
  have e : L = L.take i ++ c :: L.drop (i + 1) := by rw [← hc, List.getElem_cons_drop hi, List.take_append_drop]
  have e2 : L.flatten = (L.take i).flatten ++ (c ++ (L.drop (i + 1)).flatten) := by
    conv => lhs; rw [e]
    rw [List.flatten_append, List.flatten_cons]
  have hl := flatten_length (L.take i)
  generalize (L.take i).flatten = P at *
  rw [e2, ← hl, List.take_append (l₁ := P), List.take_of_length_le (l := P) (i := n) (by omega), List.take_append_of_le_length (l₁ := c) (by omega)]

theorem flat_succ (L : List (List UInt8)) (i : Nat) (c : List UInt8) (h : L[i]? = some c) : (L.take (i + 1)).flatten = (L.take i).flatten ++ c ∧ total (L.take (i + 1)) = total (L.take i) + c.length := by
  have hc := (List.getElem?_eq_some_iff.1 h)
  obtain ⟨hi, hc⟩ := hc
  rw [List.take_succ_eq_append_getElem hi, hc]
  constructor
  · simp
  · rw [total_snoc]

theorem total_take_le (L : List (List UInt8)) : ∀ i, total (L.take i) ≤ total L := by
  induction L with
  | nil => intro i; simp
  | cons c r ih =>
    intro i
    cases i with
    | zero => simp [total]
    | succ i => rw [List.take_succ_cons, total_cons, total_cons]; have := ih i; omega

theorem ChunkAt.fr {w w' : World} {b : Nat} {own : Option Nat} {u : Value} {c : List UInt8} (h : ChunkAt w b own u c) (hf : Fr (fun k => k = b ∨ own = some k) w w') : ChunkAt w' b own u c := by
  obtain ⟨h0, g, o, cur, e1, e2, e3, e4, e5⟩ := h
  refine ⟨h0, g, o, cur, e1, ?_, e3, e4, e5⟩
  rw [hf.block g (lt_of_heap e2) (by rintro (e | e); exact e4 e; exact e5 e)]
  exact e2

theorem QueueIs.fr {w w' : World} {b : Nat} {v : Value} {L : List (List UInt8)} (h : QueueIs w b v L) (hf : Fr (fun _ => False) w w') : QueueIs w' b v L := by
  obtain ⟨xs, h1, h2, h3, h4, h5, h6⟩ := h
  refine ⟨xs, by rw [hf.block b (lt_of_heap h1) id]; exact h1, h2.fr hf (fun _ _ => id), h3, h4, h5, fun j c hj => ?_⟩
  obtain ⟨u, hu, hc⟩ := h6 j c hj
  exact ⟨u, hu, hc.fr (hf.mono (fun _ _ e => e.elim))⟩

/-- A queue whose first 'gone' chunks are dropped. -/
theorem queue_of {w : World} {b gone T : Nat} {v : Value} {ys : List Value} {L : List (List UInt8)} (h1 : w.heap[b]? = some (.cells #[.int .i64 (T : Nat), .bool true, v] 58 (0, 0))) (hT : T = total (L.drop gone)) (h2 : OwnAt w 31 v (ys.drop gone)) (h3 : v.ownBlock ≠ some b) (h4 : ys.length = L.length) (h5 : L.length ≤ 4096)
    (h6 : ∀ (j : Nat) c, L[j]? = some c → ∃ u, ys[j]? = some u ∧ ChunkAt w b v.ownBlock u c) : QueueIs w b v (L.drop gone) := by
  subst hT
  refine ⟨ys.drop gone, h1, h2, h3, by simp [h4], by simp; omega, fun j c hj => ?_⟩
  rw [List.getElem?_drop] at hj
  obtain ⟨u, hu, hc⟩ := h6 _ c hj
  exact ⟨u, by rw [List.getElem?_drop]; exact hu, hc⟩

/-- s[:k:k]. -/
theorem cut3_to (P : Program) (t e : TypeId) (ht : P.underlying t = some (.slice e)) (hsz : (P.info? e).map (·.size) = some 1) (a : Option Addr) (len cap n : Nat) (k k' : IntKind) (hn : n ≤ cap) :
    ∀ w, (Instr.slice t (.slice a len cap) none (some (.int k (n : Int))) (some (.int k' (n : Int)))).run P w = .ok (.slice a n n) w := by
  intro w
  have hb := run_sliceBound (P := P) (w := w) k' (n : Int) cap .slice3Acap (by omega) (by omega)
  have hb2 := run_sliceBound (P := P) (w := w) k (n : Int) n .slice3B (by omega) (by omega)
  cases hi : P.info? e with
  | none => simp [hi] at hsz
  | some i =>
  have hadd : ∀ x : Addr, x.add 0 = x := by intro x; cases x; simp [Addr.add]
  cases a <;> simp [Instr.slice, run_underlying ht, Instr.sliceBounds, hb, hb2, sizeOf, typeInfo, hi, hadd]

/-- s[k:n:n], where something is left. -/
theorem cut3_from (P : Program) (t e : TypeId) (ht : P.underlying t = some (.slice e)) (hsz : (P.info? e).map (·.size) = some 1) (g o len cap l n : Nat) (k k' k'' : IntKind) (hl : l < n) (hn : n ≤ cap) :
    ∀ w, (Instr.slice t (.slice (some ⟨g, o, none⟩) len cap) (some (.int k (l : Int))) (some (.int k' (n : Int))) (some (.int k'' (n : Int)))).run P w = .ok (.slice (some ⟨g, o + l, none⟩) (n - l) (n - l)) w := by
  intro w
  have hb := run_sliceBound (P := P) (w := w) k'' (n : Int) cap .slice3Acap (by omega) (by omega)
  have hb2 := run_sliceBound (P := P) (w := w) k' (n : Int) n .slice3B (by omega) (by omega)
  have hb3 := run_sliceBound (P := P) (w := w) k (l : Int) n .slice3C (by omega) (by omega)
  cases hi : P.info? e with
  | none => simp [hi] at hsz
  | some i =>
  have h1 : i.size = 1 := by simpa [hi] using hsz
  have h2 : ¬ n = l := by omega
  simp [Instr.slice, run_underlying ht, Instr.sliceBounds, hb, hb2, hb3, sizeOf, typeInfo, hi, h1, h2, add_none]

theorem make_room (n : Nat) (h : n ≤ 140737488351232) : ∀ w : World, (Instr.makeSlice 31 (.int .i64 0) (.int .i64 (n : Int))).run Try.prog w = .ok (.slice (some ⟨w.heap.size, 0, none⟩) 0 n) (w.alloc (.cells (bv (List.replicate n 0)).toArray 5)) := by
  intro w
  have hr := run_make (P := Try.prog) w 31 5 ((Try.prog.info? 5).get (by kernel_rfl)) (.int .u8 0) Try.underlying31 (by kernel_rfl) (by kernel_rfl) .i64 .i64 0 n (by omega) (by omega) (by rw [show (((Try.prog.info? 5).get (by kernel_rfl)).bytes) = 1 from by kernel_rfl]; omega) (by omega)
  rw [show (((Try.prog.info? 5).get (by kernel_rfl)).size) = 1 from by kernel_rfl] at hr
  simpa [Value.cells, made_bytes] using hr

/-- Since w0 nothing that was there has changed; v is a slice of one's own, made since, that holds xs. -/
def Gath (w0 w : World) (v : Value) (xs : List UInt8) : Prop := OwnAt w 5 v (bv xs) ∧ (∀ k, v.ownBlock = some k → w0.heap.size ≤ k) ∧ Fr (fun _ => False) w0 w

theorem Gath.start {w0 w : World} (hf : Fr (fun _ => False) w0 w) : Gath w0 (w.alloc (.cells #[] 5)) (.slice (some ⟨w.heap.size, 0, none⟩) 0 0) [] :=
  ⟨own_empty w 5, fun k hk => by simp [Value.ownBlock] at hk; have := hf.size; omega, hf.alloc _⟩
theorem Gath.ofNil {w0 w : World} (hf : Fr (fun _ => False) w0 w) : Gath w0 w (.slice none 0 0) [] := ⟨OwnAt.nil _ _, fun k hk => by simp [Value.ownBlock] at hk, hf⟩
theorem Gath.room {w0 w : World} (n : Nat) (hn : n ≤ 1073741824) (hf : Fr (fun _ => False) w0 w) : Gath w0 (w.alloc (.cells (bv (List.replicate n 0)).toArray 5)) (.slice (some ⟨w.heap.size, 0, none⟩) 0 n) [] :=
  ⟨.inr ⟨w.heap.size, 0, n, _, rfl, heap_alloc_new w _, by simp [bv_length], Nat.zero_le _, by unfold maxLen; omega, rfl⟩, fun k hk => by simp [Value.ownBlock] at hk; have := hf.size; omega, hf.alloc _⟩

theorem wpList_gather {P : Program} {w0 w : World} {ops : Array Oper} {rest : List Oper} {o : Oper} {a : Act} {Q : Exit → Act → World → Prop} (hgd : o.guard = none) (s x : Operand) (t tx : TypeId)
    (ho : o.op = .call { callee := .builtin .append, args := #[s, x], argTypes := #[t, tx] })
    (i : TypeInfo) (ht : P.underlying t = some (.slice 5)) (htx : P.underlying tx = some (.slice 5)) (hi : P.info? 5 = some i) (hz : i.zero = some (.int .u8 0)) (hsize : i.size = 1) (hby : i.bytes = 1)
    (v : Value) (xs : List UInt8) (hsv : a.eval s = v) (hown : Gath w0 w v xs) (sp : Option Addr) (m c : Nat) (hxv : a.eval x = .slice sp m c) (X : List UInt8) (hX : SrcAt w sp X) (hm : X.length = m) (hbytes : xs.length + m ≤ 140737488355328)
    (h : ∀ a' n' c' w', Hid (n' = xs.length + m) → Gath w0 w' (.slice a' n' c') (xs ++ X) → Hid (Fr (fun k => v.ownBlock = some k) w w') → wpList P ops Q rest (a.put o.dst (.slice a' n' c')) w') : wpList P ops Q (o :: rest) a w := by
  refine wpList_append_bytes hgd s x t tx ho 5 i ht htx hi hz hsize hby v xs hsv hown.1 sp m c hxv X hX hm hbytes ?_
  intro a' n' c' w' hn hO hf hk
  have h1 : Fr (fun k => w0.heap.size ≤ k) w0 w' := (hown.2.2.mono (fun _ _ e => e.elim)).trans (hf.out.mono (fun k _ e => hown.2.1 k e))
  refine h a' n' c' w' hn ⟨hO, fun k e => ?_, h1.mono (fun k hk e => by omega)⟩ hf
  rcases hk.out with h1 | ⟨k', h1, h2⟩
  · exact hown.2.1 k (h1 ▸ e)
  · rw [h1] at e
    cases e
    have := hown.2.2.size
    omega

end Go.Proofs.Ytaflgioelblcgaa
