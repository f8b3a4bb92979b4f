/- The static table's iterator tells its 61 entries. -/
import Derived.Test.YtkipeifkfgbkeaaT4a
import Derived.WalkSmall
namespace Go.Proofs.Ytkipeifkfgbkeaa
open Go.RowKit
set_option maxRecDepth 100000
set_option maxHeartbeats 4000000
set_option linter.unusedVariables false
attribute [local go_sem] Oper.semAt_some

theorem grown_iterAt (w : World) (k : Nat) (s : ByteArray) (p : Nat) : w.grownBy (w.iterAt k s p) (some k) :=
  ⟨rfl, rfl, rfl, by rw [Lib.iterAt_size]; exact Nat.le_refl _, fun j _ hj => Lib.iterAt_other w k j s p (fun e => hj (by rw [e]))⟩
theorem grown_drewN (w : World) (n : Nat) : w.grownBy (w.drewN n) none := ⟨rfl, rfl, rfl, Nat.le_refl _, fun _ _ _ => rfl⟩
theorem OwnFrom.drewN {β : Type} {B : Nat} {J : β → World → Prop} (h : OwnFrom B J) {s : β} {w : World} (hs : J s w) (n : Nat) : J s (w.drewN n) := h s w _ none hs (grown_drewN w n) (fun r e => by cases e)
theorem OwnFrom.iterAt {β : Type} {B : Nat} {J : β → World → Prop} (h : OwnFrom B J) {s : β} {w : World} (hs : J s w) {k : Nat} {t : ByteArray} {p : Nat} (hk : w.heap[k]? = some (.stringIter t p)) (hB : B ≤ k) (p' : Nat) : J s (w.iterAt k t p') :=
  h s w _ (some k) hs (grown_iterAt w k t p') (fun r e => by cases e; exact ⟨hB, _, hk, rfl⟩)

/-- The six rows, by number; and how many entries lie ahead of each. -/
def rowAt (r : Nat) : ByteArray := [rw0, rw1, rw2, rw3, rw4, rw5].getD r rw0
def rowBase (r : Nat) : Nat := [0, 7, 14, 24, 38, 52, 61].getD r 0
theorem rowAt_ok : ∀ r < 6, RowOK (rowAt r) (rowBase r) (rowBase (r + 1)) := by
  intro r hr
  match r, hr with
  | 0, _ => exact rw0_ok
  | 1, _ => exact rw1_ok
  | 2, _ => exact rw2_ok
  | 3, _ => exact rw3_ok
  | 4, _ => exact rw4_ok
  | 5, _ => exact rw5_ok
theorem index6 (A0 A1 A2 A3 A4 A5 : ByteArray) (r : Nat) (hr : r < 6) : ∀ w : World, (Instr.index 87 (.agg #[.string A0, .string A1, .string A2, .string A3, .string A4, .string A5]) (.int .i64 (r : Int))).run Try.prog w = .ok (.string ([A0, A1, A2, A3, A4, A5].getD r A0)) w := by
  intro w
  match r, hr with
  | 0, _ => rfl
  | 1, _ => rfl
  | 2, _ => rfl
  | 3, _ => rfl
  | 4, _ => rfl
  | 5, _ => rfl

theorem rel_hit {L : List UInt8} {p c k : Nat} (hsc : scan L (p + 1) = (p + 1, (scan L p).2 + 1)) (hk : c + (scan L p).2 = k) :
    Value.int .i64 ((k : Int) + 1) = .int .i64 ((c + (scan L (p + 1)).2 : Nat) : Int) ∧ Value.int .i64 ((p : Int) + 1) = .int .i64 (((scan L (p + 1)).1 : Nat) : Int) := by
  rw [hsc, ← hk]
  constructor
  · congr 1
  · congr 1
theorem rel_J {L : List UInt8} {p c k : Nat} {J : Nat → World → Prop} {w : World} (hsc : scan L (p + 1) = (p + 1, (scan L p).2 + 1)) (hk : c + (scan L p).2 = k) (h : J (k + 1) w) : J (c + (scan L (p + 1)).2) w := by
  rw [hsc]
  show J (c + ((scan L p).2 + 1)) w
  rw [show c + ((scan L p).2 + 1) = k + 1 by omega]
  exact h
/-- What the iterator tells. -/
def statEnc (k : Nat) : Array Value := #[.int .i64 ((k : Int) + 1), .agg #[.string (sName k), .string (sValue k), .bool false]]
theorem static_tells (n₀ : Nat) (w0 : World) : Tells Try.prog 47 #[] #[] 61 statEnc n₀ w0 := by
  intro l J Jx W hW hJ hJx hY h0
  show CallsIn Fence.wide 0 Try.prog 47 #[.func (.yield l) #[] #[]] W _
  refine callsIn_of_wp Try.func47 rfl trivial ?_ rfl
  simp only [Try.ntmps47, List.size_toArray, List.length_cons, List.length_nil, Nat.reduceAdd, Nat.reduceSub, Array.replicate_succ, Array.replicate_zero, List.push_toArray, List.append_toArray, List.nil_append, List.cons_append]
  gi_wp2
  generalize hR0 : (⟨#[58, 97, 117, 116, 104, 111, 114, 105, 116, 121, 59, 58, 109, 101, 116, 104, 111, 100, 61, 71, 69, 84, 59, 58, 109, 101, 116, 104, 111, 100, 61, 80, 79, 83, 84, 59, 58, 112, 97, 116, 104, 61, 47, 59, 58, 112, 97, 116, 104, 61, 47, 105, 110, 100, 101, 120, 46, 104, 116, 109, 108, 59, 58, 115, 99, 104, 101, 109, 101, 61, 104, 116, 116, 112, 59, 58, 115, 99, 104, 101, 109, 101, 61, 104, 116, 116, 112, 115, 59]⟩ : ByteArray) = R0
  generalize hR1 : (⟨#[58, 115, 116, 97, 116, 117, 115, 61, 50, 48, 48, 59, 58, 115, 116, 97, 116, 117, 115, 61, 50, 48, 52, 59, 58, 115, 116, 97, 116, 117, 115, 61, 50, 48, 54, 59, 58, 115, 116, 97, 116, 117, 115, 61, 51, 48, 52, 59, 58, 115, 116, 97, 116, 117, 115, 61, 52, 48, 48, 59, 58, 115, 116, 97, 116, 117, 115, 61, 52, 48, 52, 59, 58, 115, 116, 97, 116, 117, 115, 61, 53, 48, 48, 59]⟩ : ByteArray) = R1
  generalize hR2 : (⟨#[97, 99, 99, 101, 112, 116, 45, 99, 104, 97, 114, 115, 101, 116, 59, 97, 99, 99, 101, 112, 116, 45, 101, 110, 99, 111, 100, 105, 110, 103, 61, 103, 122, 105, 112, 44, 32, 100, 101, 102, 108, 97, 116, 101, 59, 97, 99, 99, 101, 112, 116, 45, 108, 97, 110, 103, 117, 97, 103, 101, 59, 97, 99, 99, 101, 112, 116, 45, 114, 97, 110, 103, 101, 115, 59, 97, 99, 99, 101, 112, 116, 59, 97, 99, 99, 101, 115, 115, 45, 99, 111, 110, 116, 114, 111, 108, 45, 97, 108, 108, 111, 119, 45, 111, 114, 105, 103, 105, 110, 59, 97, 103, 101, 59, 97, 108, 108, 111, 119, 59, 97, 117, 116, 104, 111, 114, 105, 122, 97, 116, 105, 111, 110, 59, 99, 97, 99, 104, 101, 45, 99, 111, 110, 116, 114, 111, 108, 59]⟩ : ByteArray) = R2
  generalize hR3 : (⟨#[99, 111, 110, 116, 101, 110, 116, 45, 100, 105, 115, 112, 111, 115, 105, 116, 105, 111, 110, 59, 99, 111, 110, 116, 101, 110, 116, 45, 101, 110, 99, 111, 100, 105, 110, 103, 59, 99, 111, 110, 116, 101, 110, 116, 45, 108, 97, 110, 103, 117, 97, 103, 101, 59, 99, 111, 110, 116, 101, 110, 116, 45, 108, 101, 110, 103, 116, 104, 59, 99, 111, 110, 116, 101, 110, 116, 45, 108, 111, 99, 97, 116, 105, 111, 110, 59, 99, 111, 110, 116, 101, 110, 116, 45, 114, 97, 110, 103, 101, 59, 99, 111, 110, 116, 101, 110, 116, 45, 116, 121, 112, 101, 59, 99, 111, 111, 107, 105, 101, 59, 100, 97, 116, 101, 59, 101, 116, 97, 103, 59, 101, 120, 112, 101, 99, 116, 59, 101, 120, 112, 105, 114, 101, 115, 59, 102, 114, 111, 109, 59, 104, 111, 115, 116, 59]⟩ : ByteArray) = R3
  generalize hR4 : (⟨#[105, 102, 45, 109, 97, 116, 99, 104, 59, 105, 102, 45, 109, 111, 100, 105, 102, 105, 101, 100, 45, 115, 105, 110, 99, 101, 59, 105, 102, 45, 110, 111, 110, 101, 45, 109, 97, 116, 99, 104, 59, 105, 102, 45, 114, 97, 110, 103, 101, 59, 105, 102, 45, 117, 110, 109, 111, 100, 105, 102, 105, 101, 100, 45, 115, 105, 110, 99, 101, 59, 108, 97, 115, 116, 45, 109, 111, 100, 105, 102, 105, 101, 100, 59, 108, 105, 110, 107, 59, 108, 111, 99, 97, 116, 105, 111, 110, 59, 109, 97, 120, 45, 102, 111, 114, 119, 97, 114, 100, 115, 59, 112, 114, 111, 120, 121, 45, 97, 117, 116, 104, 101, 110, 116, 105, 99, 97, 116, 101, 59, 112, 114, 111, 120, 121, 45, 97, 117, 116, 104, 111, 114, 105, 122, 97, 116, 105, 111, 110, 59, 114, 97, 110, 103, 101, 59, 114, 101, 102, 101, 114, 101, 114, 59, 114, 101, 102, 114, 101, 115, 104, 59]⟩ : ByteArray) = R4
  generalize hR5 : (⟨#[114, 101, 116, 114, 121, 45, 97, 102, 116, 101, 114, 59, 115, 101, 114, 118, 101, 114, 59, 115, 101, 116, 45, 99, 111, 111, 107, 105, 101, 59, 115, 116, 114, 105, 99, 116, 45, 116, 114, 97, 110, 115, 112, 111, 114, 116, 45, 115, 101, 99, 117, 114, 105, 116, 121, 59, 116, 114, 97, 110, 115, 102, 101, 114, 45, 101, 110, 99, 111, 100, 105, 110, 103, 59, 117, 115, 101, 114, 45, 97, 103, 101, 110, 116, 59, 118, 97, 114, 121, 59, 118, 105, 97, 59, 119, 119, 119, 45, 97, 117, 116, 104, 101, 110, 116, 105, 99, 97, 116, 101, 59]⟩ : ByteArray) = R5
  have hRow : ∀ r < 6, [R0, R1, R2, R3, R4, R5].getD r R0 = rowAt r := by
    subst hR0 hR1 hR2 hR3 hR4 hR5
    intro r hr
    rfl
  clear hR0 hR1 hR2 hR3 hR4 hR5
  have h0' : J 0 (W.alloc (.cells #[.string R0, .string R1, .string R2, .string R3, .string R4, .string R5] 87)) := hJ.alloc _ h0
  gi_loopw [3, 14] (fun x3 x14 wr => ∃ r c : Nat, x3 = .int .i64 (c : Int) ∧ x14 = .int .i64 (r : Int) ∧ r ≤ 6 ∧ c = rowBase r ∧ J c wr ∧ W.heap.size ≤ wr.heap.size)
    (fun x3 x14 wr => 6 - (intOf x14).toNat)
  case atStart => exact ⟨0, 0, rfl, rfl, by omega, rfl, h0', by simp⟩
  case round =>
    obtain ⟨r, c, rfl, rfl, hr, hc, hJr, hsz⟩ := hrel
    by_cases hr6 : r < 6
    · have hix := index6 R0 R1 R2 R3 R4 R5 r hr6
      rw [hRow r hr6] at hix
      obtain ⟨R, hR⟩ : ∃ R, rowAt r = R := ⟨_, rfl⟩
      have hok := rowAt_ok r hr6
      rw [hR] at hix hok
      have hlt : ((r : Int) < 6) := by omega
      gi_wp2
      rename World => wo
      obtain ⟨it, hit⟩ : ∃ it, it = wo.heap.size := ⟨_, rfl⟩
      have hJ0 : J c (wo.iter R 0) := hJ.alloc _ hJr
      have hi0 : (wo.iter R 0).heap[it]? = some (.stringIter R 0) := by rw [hit]; exact heap_alloc_new wo _
      have hs0 : W.heap.size ≤ (wo.iter R 0).heap.size := by show W.heap.size ≤ (wo.alloc (.stringIter R 0)).heap.size; simp; omega
      have hWi : W.heap.size ≤ it := by omega
      rw [← hit]
      generalize wo.iter R 0 = wi at hJ0 hi0 hs0 ⊢
      clear hit hJr
      gi_loopw [3, 6] (fun x3 x6 wr => ∃ p : Nat, x3 = .int .i64 ((c + (scan R.data.toList p).2 : Nat) : Int) ∧ x6 = .int .i64 (((scan R.data.toList p).1 : Nat) : Int) ∧ p ≤ R.size ∧ wr.heap[it]? = some (.stringIter R p) ∧ J (c + (scan R.data.toList p).2) wr ∧ W.heap.size ≤ wr.heap.size)
        (fun x3 x6 wr => R.size - wr.iterPos it)
      case atStart => exact ⟨0, by simp [scan], by simp [scan], by omega, hi0, by simpa [scan] using hJ0, hs0⟩
      case round =>
        obtain ⟨p, rfl, rfl, hp, hi, hJp, hsz2⟩ := hrel
        obtain ⟨k, hk⟩ : ∃ k, c + (scan R.data.toList p).2 = k := ⟨_, rfl⟩
        obtain ⟨st, hst⟩ : ∃ st, (scan R.data.toList p).1 = st := ⟨_, rfl⟩
        have hstp : st ≤ p := by rw [← hst]; exact scan_le _ _
        rw [hk] at hJp ⊢
        rw [hst]
        by_cases hlt2 : p < R.size
        · obtain ⟨b, hb⟩ : ∃ b : Nat, (R[p]'hlt2).toNat = b := ⟨_, rfl⟩
          have ha := hok.ascii p hlt2
          rw [hb] at ha
          have hnx : ∀ ty, (Instr.next (.pointer (some ⟨it, 0, none⟩)) true ty).run Try.prog wr = .ok (.tuple #[.bool true, .int .i64 (p : Int), .int .i32 (b : Int)]) (wr.iterAt it R (p + 1)) := fun ty => by
            rw [Lib.run_next_ascii_at wr it R p ty hi hlt2 (by rw [hb]; exact ha), hb]
          have hget : R.data.toList[p]? = some (R[p]'hlt2) := by
            rw [List.getElem?_eq_getElem (by rw [Array.length_toList]; exact hlt2)]; rfl
          have hi2 := Lib.iterAt_heap wr it R p (p + 1) hi
          have hJ2 : J k (wr.iterAt it R (p + 1)) := OwnFrom.iterAt hJ hJp hi hWi (p + 1)
          have hsz3 : W.heap.size ≤ (wr.iterAt it R (p + 1)).heap.size := by rw [Lib.iterAt_size]; exact hsz2
          generalize wr.iterAt it R (p + 1) = w2 at hnx hi2 hJ2 hsz3
          by_cases hb9 : b = 59
          · have hsc : scan R.data.toList (p + 1) = (p + 1, (scan R.data.toList p).2 + 1) := by
              simp only [scan, hget]
              rw [if_pos]
              have : R[p].toNat = 59 := by omega
              congr 1
              exact UInt8.toNat_inj.1 (by simpa using this)
            obtain ⟨hk61, hcut⟩ := hok.told p (by rw [hget]; congr 1; exact UInt8.toNat_inj.1 (by simpa using (show R[p].toNat = 59 by omega)))
            subst hb9
            have c1 : (st : Int) ≤ p := by omega
            have hsmall : (R.extract st p).size < 2 ^ 60 := by have := hok.size; rw [ByteArray.size_extract]; omega
            have c2 : (p : Int) ≤ R.size := by omega
            rw [hst, show rowBase r + (scan R.data.toList p).2 = k by omega] at hcut
            rw [show rowBase r + (scan R.data.toList p).2 = k by omega] at hk61
            have hC : Calls Try.prog 52 #[.string (R.extract st p), .string ⟨#[61]⟩] w2 fun e w' => (∃ b, e = .returned (.tuple #[.string (sName k), .string (sValue k), .bool b])) ∧ ∃ n, w' = w2.drewN n := by
              have := Cut_in (R.extract st p) w2 hsmall
              rwa [hcut] at this
            have hsz9 := hok.size
            gi_wp2_with (refine ⟨trivial, rfl, ?_⟩; refine (callsIn_wide.2 hC).mono ?_; clear hC; rintro e w' ⟨⟨b', rfl⟩, n, rfl⟩; obtain ⟨fn, tmps, assign, body, hy, hRd⟩ := hY k (w2.drewN n) (OwnFrom.drewN hJ hJ2 n) hk61; dsimp only [statEnc] at hy)
            refine ⟨rfl, hRd.mono ?_⟩
            rintro e W3 (⟨rfl, hJ3, hk3⟩ | ⟨rfl, hJx3⟩)
            · have hi3 : W3.heap[it]? = some (.stringIter R (p + 1)) := hk3.walks.same it _ hi2 rfl
              have hs3 : W.heap.size ≤ W3.heap.size := Nat.le_trans hsz3 hk3.walks.size
              gi_wp2
              go_roundw
              case rel => exact ⟨p + 1, (rel_hit hsc hk).1, (rel_hit hsc hk).2, hlt2, hi3, rel_J hsc hk hJ3, hs3⟩
              case measure => rw [iterPos_of hi3, iterPos_of hi]; exact Nat.sub_lt_sub_left hlt2 (Nat.lt_succ_self p)
            · gi_wp2
              refine bodyPost_ret (results_none rfl _ _ _) rfl ?_
              exact ⟨⟨_, rfl⟩, .inr ⟨k + 1, by omega, hJx3⟩⟩
          · have hne : ((b : Int) != 59) = true := by simp; omega
            have hsc : scan R.data.toList (p + 1) = scan R.data.toList p := by
              simp only [scan, hget]
              rw [if_neg]
              intro e
              have h5 : R[p] = 59 := by simpa using e
              rw [h5] at hb
              exact hb9 hb.symm
            gi_wp2
            go_roundw
            case rel => exact ⟨p + 1, by rw [hsc, hk], by rw [hsc, hst], by omega, hi2, by rw [hsc, hk]; exact hJ2, hsz3⟩
            case measure => rw [iterPos_of hi2, iterPos_of hi]; omega
        · obtain rfl : p = R.size := by omega
          have hnx : ∀ ty, (Instr.next (.pointer (some ⟨it, 0, none⟩)) true ty).run Try.prog wr = .ok (.tuple #[.bool false]) wr := fun ty => Lib.run_next_end_at wr it R R.size ty hi hlt2
          have hlast := hok.last
          gi_wp2
          go_roundw
          case rel => exact ⟨r + 1, k, rfl, rfl, by omega, by omega, hJp, hsz2⟩
          case measure => simp [intOf]; omega
    · obtain rfl : r = 6 := by omega
      gi_wp2
      go_end0
      exact ⟨⟨_, rfl⟩, .inl (by subst hc; exact hJr)⟩
end Go.Proofs.Ytkipeifkfgbkeaa
