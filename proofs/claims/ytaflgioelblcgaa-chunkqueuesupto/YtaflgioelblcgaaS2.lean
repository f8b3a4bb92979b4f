/- The walk of ChunkQueues. -/
import Derived.Test.YtaflgioelblcgaaS1
import Derived.Deep.RegionHeldLaw
import Derived.BigQuiet
namespace Go.Proofs.Ytaflgioelblcgaa.chunkQueues
open Go.RowKit
set_option linter.unusedVariables false

/-- The parts that came in. -/
def PartsAt (w : World) (pb po n : Nat) (A : Nat → Option Addr) (Ln Cp : Nat → Nat) (Bs : Nat → List UInt8) : Prop :=
  ∀ r, r < n → pb < w.heap.size ∧ w.cell? ⟨pb, po + r, none⟩ = some (.slice (A r) (Ln r) (Cp r)) ∧ SrcAt w (A r) (Bs r) ∧ (Bs r).length = Ln r
/-- The takes that came in. -/
def TakesAt (w : World) (tb to n : Nat) (Z : Nat → Int) : Prop := ∀ r, r < n → tb < w.heap.size ∧ w.cell? ⟨tb, to + r, none⟩ = some (.int .i64 (Z r)) ∧ Z r ≤ 9223372036854775807

/-- The lengths of the first k parts together. -/
def sumTo (Ln : Nat → Nat) (k : Nat) : Nat := ((List.range k).map Ln).sum
theorem sumTo_succ (Ln : Nat → Nat) (k : Nat) : sumTo Ln (k + 1) = sumTo Ln k + Ln k := by simp [sumTo, List.range_succ]

theorem string_is {P : Program} {w : World} {sp : Option Addr} {X : List UInt8} (src dst e : TypeId) (hs : P.underlying src = some (.slice e)) (hd : P.underlying dst = some .string) (he : P.underlying e = some (.int .u8)) (h : SrcAt w sp X) (m c : Nat) (hm : X.length = m) :
    (convert src dst (.slice sp m c)).run P w = .ok (.string ⟨X.toArray⟩) w := string_of src dst e hs hd he h m c hm

/-- Both queues add. -/
theorem add_q {w w4 : World} {b c : Nat} {v v' : Value} {L : List (List UInt8)} {sp : Option Addr} {n scap : Nat} {bs : List UInt8} (h : QSt w w4 b c v v' L L) (hs : SrcAt w4 sp bs) (hlen : bs.length = n) (hmax : n ≤ 1048576) (htot : total L ≤ 1073741824) :
    Calls Try.prog 19 #[.pointer (some ⟨b, 0, none⟩), .slice sp n scap] w4 fun e w5 => e = .returned (.int .i64 (addErr L)) ∧ ∃ v2, QSt w w5 b c v2 v' (addL L bs) L := by
  refine (qadd_any b v L sp n scap bs w4 h.q hs hlen hmax htot).mono ?_
  rintro e w5 ⟨rfl, v2, hq, hf, hk⟩
  exact ⟨rfl, v2, h.qstep hq hf hk⟩
theorem add_r {w w5 : World} {b c : Nat} {v v' : Value} {L L2 : List (List UInt8)} {sp : Option Addr} {n scap : Nat} {bs : List UInt8} (h : QSt w w5 b c v v' L2 L) (hs : SrcAt w5 sp bs) (hlen : bs.length = n) (hmax : n ≤ 1048576) :
    Calls Try.prog 20 #[.pointer (some ⟨c, 0, none⟩), .slice sp n scap] w5 fun e w6 => e = .returned (.int .i64 (addErr L)) ∧ ∃ v3, QSt w w6 b c v v3 L2 (addL L bs) := by
  refine (radd_any c v' L sp n scap bs w5 h.r hs hlen hmax).mono ?_
  rintro e w6 ⟨rfl, v3, hq, hf, hk⟩
  exact ⟨rfl, v3, h.rstep hq hf hk⟩

/-- Both queues take. -/
theorem take_q {w wr : World} {b c : Nat} {v v' : Value} {L : List (List UInt8)} {n : Int} {m : Nat} (h : QSt w wr b c v v' L L) (hm : (m : Int) = max 0 (min n (total L))) (htot : total L ≤ 1073741824) :
    Calls Try.prog 21 #[.pointer (some ⟨b, 0, none⟩), .int .i64 n] wr fun e w2 => ∃ a' c', e = .returned (.slice a' m c') ∧ (convert 31 9 (.slice a' m c')).run Try.prog w2 = .ok (.string ⟨(L.flatten.take m).toArray⟩) w2 ∧
      Hid (∀ w3, Fr (fun k => k = c ∨ v'.ownBlock = some k) w2 w3 → (convert 31 9 (.slice a' m c')).run Try.prog w3 = .ok (.string ⟨(L.flatten.take m).toArray⟩) w3) ∧ ∃ v2, Hid (QSt w w2 b c v2 v' (restL L m) L) := by
  refine (qtake_any b v L n m wr h.q hm htot).mono ?_
  rintro e w2 ⟨a', c', rfl, hs, hk, v2, hq, ho, hf⟩
  have hl : (L.flatten.take m).length = m := by rw [List.length_take, flatten_length]; omega
  refine ⟨a', c', rfl, string_is 31 9 5 Try.underlying31 Try.underlying9 Try.underlying5 hs m c' hl, ?_, v2, h.qstep hq hf (.inl ho)⟩
  intro w3 hf3
  refine string_is 31 9 5 Try.underlying31 Try.underlying9 Try.underlying5 (hs.fr hf3 (fun a e h0 => ?_)) m c' hl
  have h1 := hk a.block (by subst e; rfl)
  obtain ⟨xs, q1, q2, -⟩ := h.r
  rintro (e1 | e1)
  · have := lt_of_heap q1; omega
  · have := q2.lt _ e1; omega
theorem take_r {w w2 : World} {b c : Nat} {v v' : Value} {L L2 : List (List UInt8)} {n : Int} {m : Nat} (h : QSt w w2 b c v v' L2 L) (hm : (m : Int) = max 0 (min n (total L))) (hn : n ≤ 9223372036854775807) (htot : total L ≤ 1073741824) :
    Calls Try.prog 22 #[.pointer (some ⟨c, 0, none⟩), .int .i64 n] w2 fun e w3 => ∃ a' n' c', e = .returned (.slice a' n' c') ∧ (convert 31 9 (.slice a' n' c')).run Try.prog w3 = .ok (.string ⟨(L.flatten.take m).toArray⟩) w3 ∧
      Hid (Fr (fun k => k = c ∨ v'.ownBlock = some k) w2 w3) ∧ ∃ v3, Hid (QSt w w3 b c v v3 L2 (restL L m)) := by
  refine (rtake_any c v' L n m w2 h.r hm hn htot).mono ?_
  rintro e w3 ⟨a', n', c', rfl, ho, hk, v3, hq, hv, hf⟩
  exact ⟨a', n', c', rfl, string_is 31 9 5 Try.underlying31 Try.underlying9 Try.underlying5 (own_src ho) n' c' (own_len ho).1.symm, hf, v3, h.rstep hq hf (.inl hv)⟩

set_option maxRecDepth 100000 in
set_option maxHeartbeats 4000000 in
theorem walk (ap : Option Addr) (pb po np pcap : Nat) (A : Nat → Option Addr) (Ln Cp : Nat → Nat) (Bs : Nat → List UInt8) (at' : Option Addr) (tb to nt tcap : Nat) (Z : Nat → Int) (w : World)
    (hP : PartsAt w pb po np A Ln Cp Bs) (hap : 0 < np → ap = some ⟨pb, po, none⟩) (hT : TakesAt w tb to nt Z) (hat : 0 < nt → at' = some ⟨tb, to, none⟩) (hnp : np ≤ 1048576) (hnt : nt ≤ 1048576) (hsum : ∀ k, k ≤ np → sumTo Ln k ≤ 1048576) :
    Calls Try.prog 5 #[.slice ap np pcap, .slice at' nt tcap] w fun e w' => e = .returned (.bool true) ∧ Below w.heap.size w w' := by
  have HP : Hid (PartsAt w pb po np A Ln Cp Bs) := hP
  have HT : Hid (TakesAt w tb to nt Z) := hT
  have HAP : Hid (0 < np → ap = some ⟨pb, po, none⟩) := hap
  have HAT : Hid (0 < nt → at' = some ⟨tb, to, none⟩) := hat
  have HSUM : Hid (∀ k, k ≤ np → sumTo Ln k ≤ 1048576) := hsum
  have hnp1 : (np : Int) ≤ 1048576 := by omega
  have hnt1 : (nt : Int) ≤ 1048576 := by omega
  clear hP hT hap hat hsum
  go_enter Try.func5, Try.ntmps5
  go_wp2_with fail
  refine (newQueue_any w).mono ?_
  rintro e w1 ⟨rfl, hq1, hf1⟩
  have HST : Hid (QSt w (w1.alloc (.cells #[.slice none 0 0] 48)) w.heap.size w1.heap.size (.slice none 0 0) (.slice none 0 0) [] []) := by
    have hs := hf1.size
    refine ⟨hq1.fr ((Fr.refl _ _).alloc _), ⟨[], heap_alloc_new w1 _, OwnAt.nil _ _, by simp [Value.ownBlock], rfl, by simp, fun j c h => by simp at h⟩, hf1.alloc _, Nat.le_refl _, hs, by simp [Value.ownBlock], by simp [Value.ownBlock], by simp [Ap, Value.ownBlock]⟩
  obtain ⟨c, hc⟩ : ∃ c, c = w1.heap.size := ⟨_, rfl⟩
  clear hq1 hf1
  go_wp2_with fail
  rw [← hc] at HST ⊢
  clear hc
  go_loopw [7] (fun i wr => ∃ (k : Nat) (v v' : Value) (L : List (List UInt8)), k ≤ np ∧ i = .int .i64 k ∧ QSt w wr w.heap.size c v v' L L ∧ total L ≤ sumTo Ln k) (fun i _ => np - (intOf i).toNat)
  case atStart => exact ⟨0, _, _, [], Nat.zero_le _, rfl, HST.out, by simp [total]⟩
  case round =>
    obtain ⟨k, v, v', L, hk, rfl, hst, htot⟩ := hrel
    have HS : Hid (QSt w wr w.heap.size c v v' L L) := hst
    have HTOT : Hid (total L ≤ sumTo Ln k) := htot
    clear hst htot HST
    by_cases hlt : k < np
    · have hlti : (k : Int) < (np : Int) := by omega
      obtain rfl := HAP.out (by omega)
      obtain ⟨y0, y1, y2, y3⟩ := HP.out k hlt
      have hsm := HSUM.out (k + 1) (by omega)
      rw [sumTo_succ] at hsm
      have hTL : total L ≤ 1048576 := by have := HTOT.out; omega
      have hLk : Ln k ≤ 1048576 := by omega
      have keepP : ∀ w', Fr (fun _ => False) w w' → w'.cell? ⟨pb, po + k, none⟩ = some (.slice (A k) (Ln k) (Cp k)) := fun w' hf => by rw [hf.cell (p := ⟨pb, po + k, none⟩) y0 id]; exact y1
      have p1 := keepP wr HS.out.f
      have hE : OwnAt (wr.drew.alloc (.cells #[] 5)) 5 (.slice (some ⟨wr.heap.size, 0, none⟩) 0 0) (bv []) := own_empty wr.drew 5
      have hsrc : SrcAt (wr.drew.alloc (.cells #[] 5)) (A k) (Bs k) := (y2.fr HS.out.f (fun _ _ _ => id)).fr (S := fun _ => False) ((Fr.refl _ _).drew.alloc _) (fun _ _ _ => id)
      have HLEN : Hid ((Bs k).length = Ln k) := y3
      have HBY : Hid (([] : List UInt8).length + Ln k ≤ 140737488355328) := by show _ ≤ _; simp; omega
      have HA : Hid (∀ a4 n4 c4 w4, OwnAt w4 5 (.slice a4 n4 c4) (bv ([] ++ Bs k)) → Fr (fun k => (Value.slice (some ⟨wr.heap.size, 0, none⟩) 0 0).ownBlock = some k) (wr.drew.alloc (.cells #[] 5)) w4 →
          w4.cell? ⟨pb, po + k, none⟩ = some (.slice (A k) (Ln k) (Cp k)) ∧ Hid (Calls Try.prog 19 #[.pointer (some ⟨w.heap.size, 0, none⟩), .slice a4 n4 c4] w4 fun e w5 => e = .returned (.int .i64 (addErr L)) ∧ w5.cell? ⟨pb, po + k, none⟩ = some (.slice (A k) (Ln k) (Cp k)) ∧ ∃ v2, Hid (QSt w w5 w.heap.size c v2 v' (addL L (Bs k)) L))) := by
        intro a4 n4 c4 w4 O4 hf4
        have h1 : Fr (fun k => (Value.slice (some ⟨wr.heap.size, 0, none⟩) 0 0).ownBlock = some k) wr w4 := Fr.trans (b := wr.drew.alloc (.cells #[] 5)) ((Fr.refl _ _).drew.alloc _) hf4
        have h2 : Fr (fun _ => False) wr w4 := h1.mono (fun k hk e => by simp [Value.ownBlock] at e; omega)
        have hst4 := HS.out.fr h2
        refine ⟨keepP w4 hst4.f, ?_⟩
        have hl4 := (own_len O4).1
        refine (add_q hst4 (own_src O4) hl4.symm (by rw [hl4]; simp; omega) (by omega)).mono ?_
        rintro e w5 ⟨rfl, v2, h5⟩
        exact ⟨rfl, keepP w5 h5.f, v2, h5⟩
      have HB : Hid (∀ w5 v2, QSt w w5 w.heap.size c v2 v' (addL L (Bs k)) L → Calls Try.prog 20 #[.pointer (some ⟨c, 0, none⟩), .slice (A k) (Ln k) (Cp k)] w5 fun e w6 => e = .returned (.int .i64 (addErr L)) ∧ w6.cell? ⟨pb, po + k, none⟩ = some (.slice (A k) (Ln k) (Cp k)) ∧ ∃ v3, Hid (QSt w w6 w.heap.size c v2 v3 (addL L (Bs k)) (addL L (Bs k)))) := by
        intro w5 v2 h5
        refine (add_r h5 (y2.fr h5.f (fun _ _ _ => id)) y3 hLk).mono ?_
        rintro e w6 ⟨rfl, v3, h6⟩
        exact ⟨rfl, keepP w6 h6.f, v3, h6⟩
      obtain ⟨er, her⟩ : ∃ er, er = addErr L := ⟨_, rfl⟩
      rw [← her] at HA HB
      obtain ⟨L2, hL2⟩ : ∃ L2, L2 = addL L (Bs k) := ⟨_, rfl⟩
      rw [← hL2] at HA HB
      have hT2 : total L2 ≤ sumTo Ln (k + 1) := by rw [hL2, sumTo_succ]; have := total_addL L (Bs k); have := HTOT.out; rw [y3] at *; omega
      have hT2' : total L2 ≤ 1048576 := Nat.le_trans hT2 (by rw [sumTo_succ]; exact hsm)
      have HT2 : Hid (total L2 ≤ sumTo Ln (k + 1)) := hT2
      obtain ⟨i, hi1, hi2, hi3, hi4⟩ := info5
      have J1 : Hid (Try.prog.info? 5 = some i) := hi1
      have J2 : Hid (i.zero = some (.int .u8 0)) := hi2
      have J3 : Hid (i.size = 1) := hi3
      have J4 : Hid (i.bytes = 1) := hi4
      clear hi1 hi2 hi3 hi4 her hL2 y0 y1 y2 y3 hT2 HTOT HS keepP hsm
      go_wp2_with fail
      go_region_held_law (fun w' => w'.cell? ⟨pb, po + k, none⟩ = some (.slice (A k) (Ln k) (Cp k))) (first | assumption | go_keep) (first | (refine step_append_bytes rfl (.tmp 20) (.tmp 24) 31 31 rfl 5 i Try.underlying31 Try.underlying31 J1.out J2.out J3.out J4.out (.slice (some ⟨wr.heap.size, 0, none⟩) 0 0) [] (by go_simp) hE (A k) (Ln k) (Cp k) (by go_simp) (Bs k) hsrc HLEN.out HBY.out ?_; intro a4 n4 c4 w4 Hn4 O4 hf4 hk4; obtain ⟨s4, K19⟩ := HA.out a4 n4 c4 w4 O4 hf4.out) | (go_at_call 19; refine K19.out.mono ?_; rintro e w5 ⟨rfl, s5, v2, H5⟩) | (go_at_call 20; refine (HB.out w5 v2 H5.out).mono ?_; rintro e w6 ⟨rfl, s6, v3, H6⟩))
      clear HA HB s4 s5 s6 p1 hE hsrc H5 K19 hf4 hk4 O4 Hn4
      by_cases hkt : k < nt
      · have hkti : (k : Int) < (nt : Int) := by omega
        obtain rfl := HAT.out (by omega)
        obtain ⟨x0, x1, x2⟩ := HT.out k hkt
        have keepT : ∀ w', Fr (fun _ => False) w w' → w'.cell? ⟨tb, to + k, none⟩ = some (.int .i64 (Z k)) := fun w' hf => by rw [hf.cell (p := ⟨tb, to + k, none⟩) x0 id]; exact x1
        obtain ⟨m, hm⟩ : ∃ m : Nat, (m : Int) = max 0 (min (Z k) (total L2)) := ⟨(max 0 (min (Z k) (total L2 : Int))).toNat, by omega⟩
        obtain ⟨str, hstr⟩ : ∃ str : ByteArray, str = ⟨(L2.flatten.take m).toArray⟩ := ⟨_, rfl⟩
        obtain ⟨L3, hL3⟩ : ∃ L3, L3 = restL L2 m := ⟨_, rfl⟩
        have hT3 : total L3 ≤ total L2 := by rw [hL3]; exact total_restL_le L2 m
        have HT3 : Hid (total L3 ≤ sumTo Ln (k + 1)) := Nat.le_trans hT3 HT2.out
        have K21 : Hid (Calls Try.prog 21 #[.pointer (some ⟨w.heap.size, 0, none⟩), .int .i64 (Z k)] w6.drew fun e w7 => ∃ a' c', e = .returned (.slice a' m c') ∧ (convert 31 9 (.slice a' m c')).run Try.prog w7 = .ok (.string str) w7 ∧ w7.cell? ⟨tb, to + k, none⟩ = some (.int .i64 (Z k)) ∧
            Hid (∀ w8, Fr (fun k => k = c ∨ v3.ownBlock = some k) w7 w8 → (convert 31 9 (.slice a' m c')).run Try.prog w8 = .ok (.string str) w8) ∧ ∃ v4, Hid (QSt w w7 w.heap.size c v4 v3 L3 L2)) := by
          rw [hstr, hL3]
          refine (take_q (H6.out.fr (w2 := w6.drew) (Fr.refl _ _).drew) hm (by omega)).mono ?_
          rintro e w7 ⟨a', c', rfl, t1, U, v4, h7⟩
          exact ⟨a', c', rfl, t1, keepT w7 h7.out.f, U, v4, h7⟩
        have K22 : Hid (∀ w7 v4, QSt w w7 w.heap.size c v4 v3 L3 L2 → Calls Try.prog 22 #[.pointer (some ⟨c, 0, none⟩), .int .i64 (Z k)] w7 fun e w8 => ∃ a' n' c', e = .returned (.slice a' n' c') ∧ (convert 31 9 (.slice a' n' c')).run Try.prog w8 = .ok (.string str) w8 ∧ w8.cell? ⟨tb, to + k, none⟩ = some (.int .i64 (Z k)) ∧
            Hid (Fr (fun k => k = c ∨ v3.ownBlock = some k) w7 w8) ∧ ∃ v5, Hid (QSt w w8 w.heap.size c v4 v5 L3 L3)) := by
          intro w7 v4 h7
          rw [hstr]
          refine (take_r h7 hm x2 (by omega)).mono ?_
          rintro e w8 ⟨a', n', c', rfl, t1, F, v5, h8⟩
          rw [← hL3] at h8
          exact ⟨a', n', c', rfl, t1, keepT w8 h8.out.f, F, v5, h8⟩
        have p6 := keepT w6 H6.out.f
        clear hm hstr hL3 x0 x1 x2 keepT
        go_wp2_with fail
        go_region_held_law (fun w' => w'.cell? ⟨tb, to + k, none⟩ = some (.int .i64 (Z k))) (first | assumption | go_keep) (first | (go_at_call 21; refine K21.out.mono ?_; rintro e w7 ⟨a7, c7, rfl, t7, s7, U7, v4, H7⟩) | (go_at_call 22; refine (K22.out w7 v4 H7.out).mono ?_; rintro e w8 ⟨a8, n8, c8, rfl, t8, s8, F8, v5, H8⟩; have t7' := U7.out w8 F8.out))
        all_goals
          clear K21 K22 t7 s7 U7 H7 t8 s8 F8 t7' p6
          obtain ⟨⟨a3, cap3, -, q3⟩, -⟩ := (H8.out.fr (w2 := w8.drew) (Fr.refl _ _).drew).r.cells
          have K23 : Hid (Calls Try.prog 23 #[.pointer (some ⟨w.heap.size, 0, none⟩)] w8.drew fun e w' => e = .returned (.int .i64 (total L3 : Nat)) ∧ w' = w8.drew) := qlen_any _ _ _ (H8.out.fr (w2 := w8.drew) (Fr.refl _ _).drew).q.cells.1
          have K24 : Hid (Calls Try.prog 24 #[.pointer (some ⟨c, 0, none⟩)] w8.drew fun e w' => e = .returned (.int .i64 (total L3 : Nat)) ∧ w' = w8.drew) := rlen_any c _ L3 _ (H8.out.fr (w2 := w8.drew) (Fr.refl _ _).drew).r (by omega)
          have K25 : Hid (Calls Try.prog 25 #[.pointer (some ⟨w.heap.size, 0, none⟩)] w8.drew fun e w' => e = .returned (.int .i64 ((L3).length : Nat)) ∧ w' = w8.drew) := qchunks_any _ _ L3 _ (H8.out.fr (w2 := w8.drew) (Fr.refl _ _).drew).q
          have q3' : w8.cell? ⟨c, 0, none⟩ = some (.slice a3 (L3).length cap3) := q3
          clear q3
          obtain ⟨T3, hT3e⟩ : ∃ T3, T3 = total L3 := ⟨_, rfl⟩
          obtain ⟨n3, hn3⟩ : ∃ n3, n3 = (L3).length := ⟨_, rfl⟩
          rw [← hT3e] at K23 K24
          rw [← hn3] at K25 q3'
          clear hT3e hn3
          go_wp2_with fail
          go_region_held_law (fun w' => w'.cell? ⟨c, 0, none⟩ = some (.slice a3 n3 cap3)) (first | assumption | go_keep) (first | (go_at_call 23; refine K23.out.mono ?_; rintro e w9 ⟨rfl, rfl⟩) | (go_at_call 24; refine K24.out.mono ?_; rintro e w9 ⟨rfl, rfl⟩) | (go_at_call 25; refine K25.out.mono ?_; rintro e w9 ⟨rfl, rfl⟩))
          all_goals
            go_wp2
            go_roundw
            case rel => exact ⟨k + 1, v4, v5, L3, by omega, by go_num, H8.out.fr (Fr.refl _ _).drew, HT3.out⟩
            case measure => simp [intOf]; omega
      · have hkti : ¬ ((k : Int) < (nt : Int)) := by omega
        have hdec : decide ((k : Int) < (nt : Int)) = false := by simp; omega
        have hdec2 : decide (k < nt) = false := by simp; omega
        have HT3 : Hid (total L2 ≤ sumTo Ln (k + 1)) := HT2.out
        go_wp2_with fail
        go_quiet (fail)
        all_goals
          have H6d : Hid (QSt w (w6.drewN nq) w.heap.size c v2 v3 L2 L2) := H6.out.fr ((Fr.refl _ _).drewN _)
          obtain ⟨w8, hw8⟩ : ∃ w8, w8 = w6.drewN nq := ⟨_, rfl⟩
          rw [← hw8] at H6d ⊢
          clear hw8
          obtain ⟨⟨a3, cap3, -, q3⟩, -⟩ := (H6d.out.fr (w2 := w8.drew) (Fr.refl _ _).drew).r.cells
          have K23 : Hid (Calls Try.prog 23 #[.pointer (some ⟨w.heap.size, 0, none⟩)] w8.drew fun e w' => e = .returned (.int .i64 (total L2 : Nat)) ∧ w' = w8.drew) := qlen_any _ _ _ (H6d.out.fr (w2 := w8.drew) (Fr.refl _ _).drew).q.cells.1
          have K24 : Hid (Calls Try.prog 24 #[.pointer (some ⟨c, 0, none⟩)] w8.drew fun e w' => e = .returned (.int .i64 (total L2 : Nat)) ∧ w' = w8.drew) := rlen_any c _ L2 _ (H6d.out.fr (w2 := w8.drew) (Fr.refl _ _).drew).r (by omega)
          have K25 : Hid (Calls Try.prog 25 #[.pointer (some ⟨w.heap.size, 0, none⟩)] w8.drew fun e w' => e = .returned (.int .i64 ((L2).length : Nat)) ∧ w' = w8.drew) := qchunks_any _ _ L2 _ (H6d.out.fr (w2 := w8.drew) (Fr.refl _ _).drew).q
          have q3' : w8.cell? ⟨c, 0, none⟩ = some (.slice a3 (L2).length cap3) := q3
          clear q3
          obtain ⟨T3, hT3e⟩ : ∃ T3, T3 = total L2 := ⟨_, rfl⟩
          obtain ⟨n3, hn3⟩ : ∃ n3, n3 = (L2).length := ⟨_, rfl⟩
          rw [← hT3e] at K23 K24
          rw [← hn3] at K25 q3'
          clear hT3e hn3
          go_wp2_with fail
          go_region_held_law (fun w' => w'.cell? ⟨c, 0, none⟩ = some (.slice a3 n3 cap3)) (first | assumption | go_keep) (first | (go_at_call 23; refine K23.out.mono ?_; rintro e w9 ⟨rfl, rfl⟩) | (go_at_call 24; refine K24.out.mono ?_; rintro e w9 ⟨rfl, rfl⟩) | (go_at_call 25; refine K25.out.mono ?_; rintro e w9 ⟨rfl, rfl⟩))
          all_goals
            go_wp2
            go_roundw
            case rel => exact ⟨k + 1, v2, v3, L2, by omega, by go_num, H6d.out.fr (Fr.refl _ _).drew, HT3.out⟩
            case measure => simp [intOf]; omega
    · obtain rfl : k = np := by omega
      have hlti : ¬ ((k : Int) < (k : Int)) := by omega
      have hTL : total L ≤ 1048576 := Nat.le_trans HTOT.out (HSUM.out k (Nat.le_refl _))
      obtain ⟨T, hT⟩ : ∃ T, T = total L := ⟨_, rfl⟩
      have hm : (T : Int) = max 0 (min 1073741824 (total L : Int)) := by omega
      have hrest : restL L T = [] := restL_all L T (by omega)
      obtain ⟨str, hstr⟩ : ∃ str : ByteArray, str = ⟨(L.flatten.take T).toArray⟩ := ⟨_, rfl⟩
      have K21 : Hid (Calls Try.prog 21 #[.pointer (some ⟨w.heap.size, 0, none⟩), .int .i64 1073741824] wr.drew fun e w7 => ∃ a' c', e = .returned (.slice a' T c') ∧ (convert 31 9 (.slice a' T c')).run Try.prog w7 = .ok (.string str) w7 ∧
          Hid (∀ w8, Fr (fun k => k = c ∨ v'.ownBlock = some k) w7 w8 → (convert 31 9 (.slice a' T c')).run Try.prog w8 = .ok (.string str) w8) ∧ ∃ v4, Hid (QSt w w7 w.heap.size c v4 v' [] L)) := by
        rw [hstr]
        refine (take_q (HS.out.fr (w2 := wr.drew) (Fr.refl _ _).drew) hm (by omega)).mono ?_
        rintro e w7 ⟨a', c', rfl, t1, U, v4, h7⟩
        rw [hrest] at h7
        exact ⟨a', c', rfl, t1, U, v4, h7⟩
      have K22 : Hid (∀ w7 v4, QSt w w7 w.heap.size c v4 v' [] L → Calls Try.prog 22 #[.pointer (some ⟨c, 0, none⟩), .int .i64 1073741824] w7 fun e w8 => ∃ a' n' c', e = .returned (.slice a' n' c') ∧ (convert 31 9 (.slice a' n' c')).run Try.prog w8 = .ok (.string str) w8 ∧
          Hid (Fr (fun k => k = c ∨ v'.ownBlock = some k) w7 w8) ∧ Hid (Fr (fun _ => False) w w8) ∧ Hid (Calls Try.prog 23 #[.pointer (some ⟨w.heap.size, 0, none⟩)] w8 fun e w' => e = .returned (.int .i64 0) ∧ w' = w8) ∧ Hid (Calls Try.prog 25 #[.pointer (some ⟨w.heap.size, 0, none⟩)] w8 fun e w' => e = .returned (.int .i64 0) ∧ w' = w8) ∧ Hid (Calls Try.prog 15 #[] w8 fun e w' => e = .returned (.bool true) ∧ Fr (fun _ => False) w8 w')) := by
        intro w7 v4 h7
        rw [hstr]
        refine (take_r h7 hm (by omega) (by omega)).mono ?_
        rintro e w8 ⟨a', n', c', rfl, t1, F, v5, h8⟩
        exact ⟨a', n', c', rfl, t1, F, h8.out.f, qlen_any _ _ _ h8.out.q.cells.1, qchunks_any _ _ [] _ h8.out.q, awake_any _⟩
      clear hm hrest hstr HS HTOT hT
      go_wp2_with fail
      go_region_held_law (fun _ => True) (trivial) (first | (go_at_call 21; refine K21.out.mono ?_; rintro e w7 ⟨a7, c7, rfl, t7, U7, v4, H7⟩) | (go_at_call 22; refine (K22.out w7 v4 H7.out).mono ?_; rintro e w8 ⟨a8, n8, c8, rfl, t8, F8, FW, K23, K25, K15⟩; have t7' := U7.out w8 F8.out) | (go_at_call 23; refine K23.out.mono ?_; rintro e w9 ⟨rfl, rfl⟩) | (go_at_call 25; refine K25.out.mono ?_; rintro e w9 ⟨rfl, rfl⟩) | (go_at_call 15; refine K15.out.mono ?_; rintro e w10 ⟨rfl, hf10⟩))
      all_goals
        have HF10 : Hid (Fr (fun _ => False) w w10) := Fr.trans FW.out hf10
        clear hf10 K15
        go_wp2
        go_ret
        exact ⟨rfl, HF10.out.below (fun _ _ => id)⟩
end Go.Proofs.Ytaflgioelblcgaa.chunkQueues
