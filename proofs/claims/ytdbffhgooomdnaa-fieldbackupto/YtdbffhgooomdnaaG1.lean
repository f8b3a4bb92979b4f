/- Plain facts: bytes that a call gathers in memory of its own, by append; and what is read between bytes. -/
import Derived.Test.YtdbffhgooomdnaaU5
namespace Go.Proofs.Ytdbffhgooomdnaa
open Go.RowKit
set_option linter.unusedVariables false

/-- Since w0 nothing that was there has changed; v is a slice of one's own, made since, that holds xs. -/
def Gath (w0 w : World) (v : Value) (xs : List UInt8) : Prop := OwnAt w 5 v (bv xs) ∧ (∀ k, v.ownBlock = some k → w0.heap.size ≤ k) ∧ Fr (fun k => w0.heap.size ≤ k) w0 w

theorem Gath.start {w0 w : World} (hf : Fr (fun k => w0.heap.size ≤ k) w0 w) : Gath w0 (w.alloc (.cells #[] 5)) (.slice (some ⟨w.heap.size, 0, none⟩) 0 0) [] :=
  ⟨own_empty w 5, fun k hk => by simp [Value.ownBlock] at hk; have := hf.size; omega, hf.alloc _⟩
theorem Gath.fr {w0 w w' : World} {v : Value} {xs : List UInt8} (h : Gath w0 w v xs) (hf : Fr (fun _ => False) w w') : Gath w0 w' v xs :=
  ⟨h.1.fr hf (fun _ _ => id), h.2.1, h.2.2.trans (hf.mono (fun _ _ e => e.elim))⟩
theorem SrcAt.since {w0 w : World} {sp : Option Addr} {X : List UInt8} (hs : SrcAt w0 sp X) (hf : Fr (fun k => w0.heap.size ≤ k) w0 w) : SrcAt w sp X := by
  refine hs.fr hf (fun a e h0 => ?_)
  obtain ⟨ad, e', hc⟩ := hs 0 X[0] (by simp)
  rw [e] at e'
  cases e'
  have := World.block_lt_of_cell? _ _ hc
  have hb : (a.add 0).block = a.block := by simp [Addr.add]
  omega
theorem Gath.src {w0 w : World} {v : Value} {xs : List UInt8} {sp : Option Addr} {X : List UInt8} (h : Gath w0 w v xs) (hs : SrcAt w0 sp X) : SrcAt w sp X := hs.since h.2.2

theorem wpList_gather {P : Program} {w0 w : World} {ops : Array Oper} {rest : List Oper} {o : Oper} {a : Act} {Q : Exit → Act → World → Prop} (hgd : o.guard = none) (s x : Operand) (t tx : TypeId)
    (ho : o.op = .call { callee := .builtin .append, args := #[s, x], argTypes := #[t, tx] })
    (i : TypeInfo) (ht : P.underlying t = some (.slice 5)) (htx : P.underlying tx = some (.slice 5)) (hi : P.info? 5 = some i) (hz : i.zero = some (.int .u8 0)) (hsize : i.size = 1) (hby : i.bytes = 1)
    (v : Value) (xs : List UInt8) (hsv : a.eval s = v) (hown : Gath w0 w v xs) (sp : Option Addr) (m c : Nat) (hxv : a.eval x = .slice sp m c) (X : List UInt8) (hX : SrcAt w sp X) (hm : X.length = m) (hbytes : xs.length + m ≤ 140737488355328)
    (h : ∀ a' n' c' w', Hid (n' = xs.length + m) → Gath w0 w' (.slice a' n' c') (xs ++ X) → wpList P ops Q rest (a.put o.dst (.slice a' n' c')) w') : wpList P ops Q (o :: rest) a w := by
  refine wpList_append_bytes hgd s x t tx ho 5 i ht htx hi hz hsize hby v xs hsv hown.1 sp m c hxv X hX hm hbytes ?_
  intro a' n' c' w' hn hO hf hk
  refine h a' n' c' w' hn ⟨hO, fun k e => ?_, hown.2.2.trans (hf.out.mono (fun k _ e => hown.2.1 k e))⟩
  rcases hk.out with h1 | ⟨k', h1, h2⟩
  · exact hown.2.1 k (h1 ▸ e)
  · rw [h1] at e
    cases e
    have := hown.2.2.size
    omega

theorem num_snoc (l : List UInt8) (x : UInt8) : num (l ++ [x]) = num l * 256 + x.toNat := by simp [num]

theorem num_be (n : Nat) : ∀ m, num (be n m) = m % 256 ^ n := by
  induction n with
  | zero => intro m; simp [be, num, Nat.mod_one]
  | succ n ih =>
    intro m
    rw [be, num_snoc, ih, Nat.pow_succ, Nat.mul_comm (256 ^ n) 256, Nat.mod_mul, show (UInt8.ofNat m).toNat = m % 256 by simp]
    omega

theorem readOut_mid (n : Nat) (X Y Z : List UInt8) (hY : Y.length = n) : readOut n (X ++ Y ++ Z) X.length = (num Y, (X.length : Int) + n, 0) := by
  rw [readOut, if_neg (by simp; omega), if_neg (by simp; omega)]
  have e1 : ((X ++ Y ++ Z).drop (X.length : Int).toNat).take n = Y := by
    rw [List.append_assoc, Int.toNat_natCast, List.drop_left, ← hY, List.take_left]
  rw [e1]

theorem info5 : ∃ i, Try.prog.info? 5 = some i ∧ i.zero = some (.int .u8 0) ∧ i.size = 1 ∧ i.bytes = 1 :=
  ⟨(Try.prog.info? 5).get (by kernel_rfl), by kernel_rfl, by kernel_rfl, by kernel_rfl, by kernel_rfl⟩

end Go.Proofs.Ytdbffhgooomdnaa
