/- The iterators: pseudo headers in the order of names; the others, as rules leave them. -/
import Derived.Test.YtplggcfoadjffaaGreatDoorXg
import Derived.Test.YtplggcfoadjffaaGreatDoorXc
import Derived.Test.YtplggcfoadjffaaGreatDoorOk
import Derived.Test.YtplggcfoadjffaaGreatDoorBr
namespace Go.Proofs.YtplggcfoadjffaaGreatDoor
open Go.RowKit
set_option linter.unusedVariables false
set_option maxRecDepth 100000
set_option maxHeartbeats 4000000

theorem at_append {α : Type} {a b : List α} {x : α} {c : List α} (h : b = a ++ [x] ++ c) : b[a.length]? = some x := by
  subst h
  simp
theorem pick_at {l : List Hd} {ns : List (List UInt8)} {i : Nat} {n : List UInt8} {h : Hd} (hi : ns[i]? = some n) (hf : fstH l n = some h) : (pickO l ns)[(pickO l (ns.take i)).length]? = some h := by
  have e : ns = ns.take i ++ [n] ++ ns.drop (i + 1) := by
    have h4 : ns.take (i + 1) = ns.take i ++ [n] := by rw [List.take_add_one, hi]; rfl
    rw [← h4, List.take_append_drop]
  refine at_append (c := pickO l (ns.drop (i + 1))) ?_
  conv => lhs; rw [e]
  unfold pickO
  rw [List.filterMap_append, List.filterMap_append]
  simp [hf]
theorem gath_at {f : List Hd → Hd → List Hd} {l : List Hd} {i : Nat} {h x : Hd} (hi : l[i]? = some h) (hf : f (l.take i) h = [x]) : (gathO f [] l)[(gathO f [] (l.take i)).length]? = some x := by
  have e : l = l.take (i + 1) ++ l.drop (i + 1) := (List.take_append_drop _ _).symm
  refine at_append (c := gathO f (l.take (i + 1)) (l.drop (i + 1))) ?_
  conv => lhs; rw [e]
  rw [gathO_append, gathO_step hi, hf]
  rfl
theorem fr_box {S : Nat → Prop} {w w' : World} {g : Nat} {v : Value} (h : ∃ t, w.heap[g]? = some (.cells #[v] t (0, 0))) (hf : Fr S w w') (hs : ¬ S g) : ∃ t, w'.heap[g]? = some (.cells #[v] t (0, 0)) := by
  obtain ⟨t, h⟩ := h
  exact ⟨t, (hf.block _ (lt_of_heap h) hs).trans h⟩

/-- What is told. -/
def tellE (L : List Hd) (k : Nat) (args : Array Value) (W : World) : Prop := ∃ h : Hd, L[k]? = some h ∧ args = #[.agg #[.string h.1, .string h.2.1, .bool h.2.2]]
/-- What the pseudo headers' iterator wants of the memory. -/
def pseuZ (nb hb : Nat) (nq : Option Addr) (nc : Nat) (ns : List ByteArray) (q : Option Addr) (c : Nat) (l : List Hd) (W : World) : Prop :=
  (∃ t, W.heap[nb]? = some (.cells #[.slice nq ns.length nc] t (0, 0))) ∧ (∃ t, W.heap[hb]? = some (.cells #[.slice q l.length c] t (0, 0))) ∧ TxAt W nq ns ∧ HL W q c l
theorem pseuZ.later {nb hb : Nat} {nq : Option Addr} {nc : Nat} {ns : List ByteArray} {q : Option Addr} {c : Nat} {l : List Hd} {W W' : World} (h : pseuZ nb hb nq nc ns q c l W) (hf : Fr (fun _ => False) W W') : pseuZ nb hb nq nc ns q c l W' :=
  ⟨fr_box h.1 hf id, fr_box h.2.1 hf id, h.2.2.1.fr hf (fun _ _ _ => id), h.2.2.2.fr hf⟩
theorem pseu_tells (nb hb : Nat) (nq : Option Addr) (nc : Nat) (ns : List ByteArray) (q : Option Addr) (c : Nat) (l : List Hd) (hn : ns.length ≤ 6) :
    Tells3 Tryz.prog 70 #[] #[.pointer (some ⟨nb, 0, none⟩), .pointer (some ⟨hb, 0, none⟩)] (pickO l (ns.map tx)).length (tellE (pickO l (ns.map tx))) (pseuZ nb hb nq nc ns q c l) := by
  intro ll J W hJ hZ hY h0
  show CallsIn Fence.wide 0 Tryz.prog 70 #[.func (.yield ll) #[] #[], .pointer (some ⟨nb, 0, none⟩), .pointer (some ⟨hb, 0, none⟩)] W _
  have HJ : Hid (∀ k W1 W2, J k W1 → Fr (fun _ => False) W1 W2 → J k W2) := fun k W1 W2 h f => OwnFrom.later3 (B := W.heap.size) (J := J) hJ h f
  have HZ : Hid (∀ k W1, J k W1 → pseuZ nb hb nq nc ns q c l W1) := hZ
  have HY : Hid (∀ k W1 (h : Hd), J k W1 → (pickO l (ns.map tx))[k]? = some h → YieldAt Fence.wide 0 Tryz.prog ll #[.agg #[.string h.1, .string h.2.1, .bool h.2.2]] W1 fun e W' => e = .returned (.bool true) ∧ J (k + 1) W') := fun k W1 h hj hh => hY k W1 _ hj (List.getElem?_eq_some_iff.1 hh).1 ⟨h, hh, rfl⟩
  obtain ⟨n, hlen⟩ : ∃ n, ns.length = n := ⟨_, rfl⟩
  have HN : Hid (ns.length = n) := hlen
  have Z0 := hZ 0 W h0
  obtain ⟨⟨t1, z1⟩, -, -, -⟩ := Z0
  rw [hlen] at z1 hn
  have q1 : W.cell? ⟨nb, 0, none⟩ = some (.slice nq n nc) := cell_of_heap z1 rfl
  clear hJ hZ hY hlen z1
  refine callsIn_of_wp Tryz.func70 rfl trivial ?_ rfl
  simp only [Tryz.ntmps70, List.size_toArray, List.length_cons, List.length_nil, Nat.reduceAdd, Nat.reduceSub, Array.replicate_succ, Array.replicate_zero, List.push_toArray, List.append_toArray, List.nil_append, List.cons_append]
  gi_wp2
  gi_loopw [9] (fun x9 wr => ∃ i : Nat, x9 = .int .i64 (i : Int) ∧ i ≤ n ∧ Hid (J (pickO l ((ns.map tx).take i)).length wr)) (fun x9 _ => n - (intOf x9).toNat)
  case atStart => exact ⟨0, rfl, by omega, h0⟩
  case round =>
    obtain ⟨i, rfl, hi, Hj⟩ := hrel
    clear q1
    by_cases hlt : i < n
    · have hlt2 : (i : Int) < (n : Int) := by omega
      obtain ⟨z, hz⟩ : ∃ z, ns[i]? = some z := ⟨_, List.getElem?_eq_getElem (by rw [HN.out]; exact hlt)⟩
      obtain ⟨-, -, zt, -⟩ := HZ.out _ wr Hj.out
      obtain ⟨b, o, rfl, hb', c0⟩ := zt i z hz
      have HX : Hid ((ns.map tx)[i]? = some (tx z)) := by show _ = _; rw [List.getElem?_map, hz]; rfl
      have HF1 : Hid (Fr (fun _ => False) wr (wr.alloc (.cells #[.string z] 9))) := (Fr.refl _ _).alloc _
      have Z1 := (HZ.out _ wr Hj.out).later HF1.out
      obtain ⟨-, ⟨t2, z2⟩, -, z4⟩ := Z1
      have q2 : (wr.alloc (.cells #[.string z] 9)).cell? ⟨hb, 0, none⟩ = some (.slice q l.length c) := cell_of_heap z2 rfl
      have KI := indexN_in q c l z wr.heap.size _ z4 (by exact cell_of_heap (heap_alloc_new wr _) rfl)
      clear hz zt z2 z4
      gi_wp2
      refine ⟨trivial, rfl, (callsIn_wide.2 KI).mono ?_⟩
      clear KI
      rintro e w2 ⟨(⟨rfl, hno⟩ | ⟨p, h, rfl, hp, he, hbf⟩), f2⟩
      · have HE : Hid (J (pickO l ((ns.map tx).take (i + 1))).length w2) := by
          show J _ _
          rw [pickO_step HX.out, fst_none hno]
          simp only [Option.toList_none, List.append_nil]
          exact HJ.out _ _ _ Hj.out (HF1.out.trans f2)
        clear hno f2
        gi_wp2
        refine ⟨(fun f h => nomatch h), ?_⟩
        gi_wp2
        go_roundw
        case rel => exact ⟨i + 1, by go_num, by omega, HE.out⟩
        case measure => simp [intOf]; omega
      · have hf := fst_hit hp hbf he
        have HJ2 : Hid (J (pickO l ((ns.map tx).take i)).length w2) := HJ.out _ _ _ Hj.out (HF1.out.trans f2)
        have HYK := HY.out _ w2 h HJ2.out (pick_at HX.out hf)
        have HEN : Hid (∀ W3, J ((pickO l ((ns.map tx).take i)).length + 1) W3 → J (pickO l ((ns.map tx).take (i + 1))).length W3) := fun W3 h3 => by
          rw [pickO_step HX.out, hf]
          simpa using h3
        have Z2 := HZ.out _ w2 HJ2.out
        obtain ⟨-, ⟨t3, z3⟩, -, z5⟩ := Z2
        have q3 : w2.cell? ⟨hb, 0, none⟩ = some (.slice q l.length c) := cell_of_heap z3 rfl
        obtain ⟨xb, xo, rfl, hxb, k0, k1, k2, -⟩ := z5.cells p h hp
        have hpl : (p : Int) < (l.length : Int) := by have := (List.getElem?_eq_some_iff.1 hp).1; omega
        have hpw : p < l.length := by omega
        have hpb : (p : Int) ≤ 9223372036854775807 := by have := z5.few; omega
        obtain ⟨xn, xv, xs⟩ := h
        dsimp only at k0 k1 k2 HYK
        obtain ⟨fn, tmps, assign, body, hy, hRd⟩ := HYK
        have HRD : Hid _ := hRd
        have h0p : (0 : Int) ≤ (p : Int) := by omega
        clear hRd f2 z3 z5 hf hp he hbf
        gi_wp2
        refine ⟨rfl, RoundIn.mono HRD.out ?_⟩
        rintro e3 W3 ⟨rfl, hJ3⟩
        have HJ3 := HEN.out W3 hJ3
        have HJ4 : Hid (J (pickO l ((ns.map tx).take (i + 1))).length W3) := HJ3
        clear hJ3 HJ3 hy HRD
        gi_wp2
        go_roundw
        case rel => exact ⟨i + 1, by go_num, by omega, HJ4.out⟩
        case measure => simp [intOf]; omega
    · have hlt2 : ¬ (i : Int) < (n : Int) := by omega
      gi_wp2
      refine bodyPost_end (results_none rfl _ _ _) rfl ?_
      have := Hj.out
      rw [List.take_of_length_le (by rw [List.length_map, HN.out]; omega)] at this
      exact ⟨⟨_, rfl⟩, this⟩
end Go.Proofs.YtplggcfoadjffaaGreatDoor
