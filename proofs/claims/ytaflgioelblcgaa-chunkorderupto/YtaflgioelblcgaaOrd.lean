/- The walk of ChunkOrder. -/
import Derived.Test.YtaflgioelblcgaaQ1
import Derived.Test.YtaflgioelblcgaaA2
namespace Go.Proofs.Ytaflgioelblcgaa.chunkOrder
open Go.RowKit
set_option linter.unusedVariables false

/-- The parts that came in: n slices of bytes, from ⟨pb, po⟩ on. -/
def PartsAt (w : World) (pb po n : Nat) (A : Nat → Option Addr) (Ln Cp : Nat → Nat) (Bs : Nat → List UInt8) : Prop :=
  ∀ r, r < n → pb < w.heap.size ∧ w.cell? ⟨pb, po + r, none⟩ = some (.slice (A r) (Ln r) (Cp r)) ∧ Ln r ≤ Cp r ∧ SrcAt w (A r) (Bs r) ∧ (Bs r).length = Ln r ∧ ∀ a, A r = some a → 0 < Ln r → a.block < w.heap.size

/-- What holds after k rounds: in is vi, out is vo. -/
def St (w wr : World) (room k : Nat) (vi vo : Value) (n m : Nat) : Prop :=
  ∃ (sv : Value) (L inn out : List UInt8), RingIs wr w.heap.size sv L room ∧ OwnAt wr 5 vi (bv inn) ∧ OwnAt wr 5 vo (bv out) ∧ inn = out ++ L ∧ inn.length = n ∧ out.length = m ∧ n ≤ 255 * k ∧ Fr (fun _ => False) w wr ∧
    Dis w.heap.size sv.ownBlock ∧ Dis w.heap.size vi.ownBlock ∧ Dis w.heap.size vo.ownBlock ∧ Ap sv.ownBlock vi.ownBlock ∧ Ap sv.ownBlock vo.ownBlock ∧ Ap vi.ownBlock vo.ownBlock

/-- Behind Put. -/
theorem st_put {w wr w1 : World} {vi vo sv sv1 : Value} {inn out : List UInt8}
    (hI : OwnAt wr 5 vi (bv inn)) (hO : OwnAt wr 5 vo (bv out)) (hF : Fr (fun _ => False) w wr)
    (hF1 : Fr (fun k => k = w.heap.size ∨ sv.ownBlock = some k) wr w1) (hk1 : sv1.ownBlock = sv.ownBlock ∨ ∃ k, sv1.ownBlock = some k ∧ wr.heap.size ≤ k) (hbs : w.heap.size < wr.heap.size)
    (d1 : Dis w.heap.size sv.ownBlock) (d2 : Dis w.heap.size vi.ownBlock) (d3 : Dis w.heap.size vo.ownBlock) (a1 : Ap sv.ownBlock vi.ownBlock) (a2 : Ap sv.ownBlock vo.ownBlock) :
    OwnAt w1 5 vi (bv inn) ∧ OwnAt w1 5 vo (bv out) ∧ Fr (fun _ => False) w w1 ∧ Dis w.heap.size sv1.ownBlock ∧ Ap sv1.ownBlock vi.ownBlock ∧ Ap sv1.ownBlock vo.ownBlock := by
  refine ⟨hI.fr hF1 (fun g hg e => ?_), hO.fr hF1 (fun g hg e => ?_), ?_, d1.new hk1 hbs, a1.new hk1 (fun g hg => hI.lt g hg), a2.new hk1 (fun g hg => hO.lt g hg)⟩
  · rcases e with e | e
    · have := d2 g hg; omega
    · exact a1 g e hg
  · rcases e with e | e
    · have := d3 g hg; omega
    · exact a2 g e hg
  · have h1 : Fr (fun k => k = w.heap.size ∨ sv.ownBlock = some k) w w1 := Fr.trans (hF.mono (fun _ _ e => e.elim)) hF1
    refine h1.mono (fun g hg e => ?_)
    rcases e with e | e
    · omega
    · have := d1 g e; omega

/-- Behind in's append. -/
theorem st_in {w w2 w3 : World} {room n ci n' ci' : Nat} {ai ai' : Option Addr} {vo sv : Value} {L out : List UInt8} (hR : RingIs w2 w.heap.size sv L room) (hO : OwnAt w2 5 vo (bv out)) (hF : Fr (fun _ => False) w w2)
    (hf : Fr (fun x => (Value.slice ai n ci).ownBlock = some x) w2 w3) (hk : (Value.slice ai' n' ci').ownBlock = (Value.slice ai n ci).ownBlock ∨ ∃ k, (Value.slice ai' n' ci').ownBlock = some k ∧ w2.heap.size ≤ k)
    (d2 : Dis w.heap.size (Value.slice ai n ci).ownBlock) (d1 : Dis w.heap.size sv.ownBlock) (d3 : Dis w.heap.size vo.ownBlock) (x1 : Ap sv.ownBlock (Value.slice ai n ci).ownBlock) (x3 : Ap (Value.slice ai n ci).ownBlock vo.ownBlock) (x2 : Ap sv.ownBlock vo.ownBlock) :
    RingIs w3 w.heap.size sv L room ∧ OwnAt w3 5 vo (bv out) ∧ Fr (fun _ => False) w w3 ∧ Dis w.heap.size (Value.slice ai' n' ci').ownBlock ∧ Ap sv.ownBlock (Value.slice ai' n' ci').ownBlock ∧ Ap (Value.slice ai' n' ci').ownBlock vo.ownBlock := by
  refine ⟨hR.fr hf (fun e => by have := d2 _ e; omega) (fun g hg e => x1 g hg e), hO.fr hf (fun g hg e => x3 g e hg), ?_, d2.new hk hR.lt, (x1.symm.new hk (fun g hg => (hR.own_lt g hg).1)).symm, x3.new hk (fun g hg => hO.lt g hg)⟩
  have h1 : Fr (fun x => (Value.slice ai n ci).ownBlock = some x) w w3 := Fr.trans (hF.mono (fun _ _ e => e.elim)) hf
  exact h1.mono (fun g hg e => by have := d2 g e; omega)

theorem ring_len {w : World} {b : Nat} {sv : Value} {L : List UInt8} {lim : Nat} (hr : RingIs w b sv L lim) : Calls Try.prog 11 #[.pointer (some ⟨b, 0, none⟩)] w fun e w' => e = .returned (.int .i64 L.length) ∧ w' = w := by
  obtain ⟨-, cur, first, hbk, -⟩ := hr
  exact len_any b L.length w (cell4 hbk).1

/-- Behind Take. -/
theorem st_take {w w3 w4 : World} {vi vo : Value} {inn out : List UInt8} (hI : OwnAt w3 5 vi (bv inn)) (hO : OwnAt w3 5 vo (bv out)) (hF : Fr (fun _ => False) w w3) (hf : Fr (fun k => k = w.heap.size) w3 w4)
    (d2 : Dis w.heap.size vi.ownBlock) (d3 : Dis w.heap.size vo.ownBlock) : OwnAt w4 5 vi (bv inn) ∧ OwnAt w4 5 vo (bv out) ∧ Fr (fun _ => False) w w4 := by
  refine ⟨hI.fr hf (fun g hg e => by have := d2 g hg; omega), hO.fr hf (fun g hg e => by have := d3 g hg; omega), ?_⟩
  have h1 : Fr (fun k => k = w.heap.size) w w4 := Fr.trans (hF.mono (fun _ _ e => e.elim)) hf
  exact h1.mono (fun g hg e => by omega)

theorem own_src {w : World} {sp : Option Addr} {n c : Nat} {xs : List UInt8} (h : OwnAt w 5 (.slice sp n c) (bv xs)) : SrcAt w sp xs := by
  intro j x hj
  obtain ⟨g, off, cap, e, hc, -⟩ := h.cells j (.int .u8 x.toNat) ((bv_get _ _ _).2 ⟨x, hj, rfl⟩)
  cases e
  exact ⟨_, rfl, by rw [add_none]; exact hc⟩

/-- The takes that came in. -/
def TakesAt (w : World) (tb to n : Nat) (Z : Nat → Nat) : Prop := ∀ r, r < n → tb < w.heap.size ∧ w.cell? ⟨tb, to + r, none⟩ = some (.int .u8 (Z r : Nat)) ∧ Z r ≤ 255

set_option maxRecDepth 100000 in
set_option maxHeartbeats 4000000 in
theorem walk (room : Nat) (hroom : room ≤ 255) (ap : Option Addr) (pb po np pcap : Nat) (A : Nat → Option Addr) (Ln Cp : Nat → Nat) (Bs : Nat → List UInt8) (at' : Option Addr) (tb to nt tcap : Nat) (Z : Nat → Nat) (w : World)
    (hP : PartsAt w pb po np A Ln Cp Bs) (hap : 0 < np → ap = some ⟨pb, po, none⟩) (hT : TakesAt w tb to nt Z) (hat : 0 < nt → at' = some ⟨tb, to, none⟩) (hnp : np ≤ 1048576) (hnt : nt ≤ 1048576) :
    Calls Try.prog 4 #[.int .u8 room, .slice ap np pcap, .slice at' nt tcap] w fun e w' => e = .returned (.bool true) ∧ Below w.heap.size w w' := by
  have HNEW : Hid (Calls Try.prog 8 #[.int .i64 room] w fun e w' => e = .returned (.tuple #[.pointer (some ⟨w.heap.size, 0, none⟩), .int .i64 0]) ∧ RingIs w' w.heap.size (.slice none 0 0) [] room ∧ Fr (fun _ => False) w w') := new_ok room w (by omega)
  have HP : Hid (PartsAt w pb po np A Ln Cp Bs) := hP
  have HT : Hid (TakesAt w tb to nt Z) := hT
  have HAP : Hid (0 < np → ap = some ⟨pb, po, none⟩) := hap
  have HAT : Hid (0 < nt → at' = some ⟨tb, to, none⟩) := hat
  have hr1 : (room : Int) ≤ 255 := by omega
  have hnp1 : (np : Int) ≤ 1048576 := by omega
  have hnt1 : (nt : Int) ≤ 1048576 := by omega
  clear hP hT hap hat
  go_enter Try.func4, Try.ntmps4
  go_wp2_with fail
  refine HNEW.out.mono ?_
  rintro e w1 ⟨rfl, hR1, hF1⟩
  have HST : Hid (St w w1 room 0 (.slice none 0 0) (.slice none 0 0) 0 0) := ⟨_, [], [], [], hR1, OwnAt.nil _ _, OwnAt.nil _ _, rfl, rfl, rfl, by omega, hF1, by simp [Dis, Value.ownBlock], by simp [Dis, Value.ownBlock], by simp [Dis, Value.ownBlock], by simp [Ap, Value.ownBlock], by simp [Ap, Value.ownBlock], by simp [Ap, Value.ownBlock]⟩
  clear hR1 hF1 HNEW
  go_wp2_with fail
  go_loopw [9, 10, 11] (fun vi vo i wr => ∃ (k n m : Nat) (ai ao : Option Addr) (ci co : Nat), k ≤ np ∧ i = .int .i64 k ∧ vi = .slice ai n ci ∧ vo = .slice ao m co ∧ St w wr room k (.slice ai n ci) (.slice ao m co) n m) (fun _ _ i _ => np - (intOf i).toNat)
  case atStart => exact ⟨0, 0, 0, none, none, 0, 0, Nat.zero_le _, rfl, rfl, rfl, HST.out⟩
  case round =>
    obtain ⟨k, n, m, ai, ao, ci, co, hk, rfl, rfl, rfl, hst⟩ := hrel
    have HS : Hid (St w wr room k (.slice ai n ci) (.slice ao m co) n m) := hst
    clear hst HST
    by_cases hlt : k < np
    · have hlt' : (k : Int) < (np : Int) := by omega
      obtain rfl := HAP.out (by omega)
      obtain ⟨sv, L, inn, out, hR, hI, hO, hE, hn, hm, hnk, hF, d1, d2, d3, x1, x2, x3⟩ := HS.out
      obtain ⟨y0, y1, y2, y3, y4, y5⟩ := HP.out k hlt
      have hle := hR.le
      have hbs := hR.lt
      have p0 : wr.cell? ⟨pb, po + k, none⟩ = some (.slice (A k) (Ln k) (Cp k)) := by rw [hF.cell (p := ⟨pb, po + k, none⟩) y0 id]; exact y1
      have hsB : SrcAt wr (A k) (Bs k) := y3.fr hF (fun _ _ _ => id)
      obtain ⟨n1, hn1⟩ : ∃ n1, n1 = min (Ln k) (room - L.length) := ⟨_, rfl⟩
      have hput := put_any w.heap.size sv L room (A k) (Ln k) (Cp k) (Bs k) wr hR hsB y4 y2 (fun a e h0 => ⟨by have := y5 a e h0; have := hF.size; omega, by have := y5 a e h0; omega, fun e' => by have := d1 _ e'; have := y5 a e h0; omega⟩) n1 hn1
      have HPUT : Hid (Calls Try.prog 16 #[.pointer (some ⟨w.heap.size, 0, none⟩), .slice (A k) (Ln k) (Cp k)] wr fun e w' => e = .returned (.int .i64 n1) ∧ ∃ sv', RingIs w' w.heap.size sv' (L ++ (Bs k).take n1) room ∧ Fr (fun k => k = w.heap.size ∨ sv.ownBlock = some k) wr w' ∧ (sv'.ownBlock = sv.ownBlock ∨ ∃ k, sv'.ownBlock = some k ∧ wr.heap.size ≤ k)) := hput
      have HN : Hid (n1 = min (Ln k) (room - L.length)) := hn1
      have HE : Hid (inn = out ++ L) := hE
      have Hn : Hid (inn.length = n) := hn
      have Hm : Hid (out.length = m) := hm
      have HY4 : Hid ((Bs k).length = Ln k) := y4
      have HD1 : Hid (Dis w.heap.size sv.ownBlock) := d1
      have HF : Hid (Fr (fun _ => False) w wr) := hF
      clear hput hn1 hE hn hm y4 y5 y1 d1 hF
      go_wp2_with fail
      refine HPUT.out.mono ?_
      rintro e w1 ⟨rfl, sv1, hR1, hF1, hk1⟩
      obtain ⟨I1, O1, F1, d1', x1', x2'⟩ := st_put hI hO HF.out hF1 hk1 hbs HD1.out d2 d3 x1 x2
      have p1 : w1.cell? ⟨pb, po + k, none⟩ = some (.slice (A k) (Ln k) (Cp k)) := by
        rw [F1.cell (p := ⟨pb, po + k, none⟩) y0 id]; rw [HF.out.cell (p := ⟨pb, po + k, none⟩) y0 id] at p0; exact p0
      have s1 : SrcAt w1 (A k) (Bs k) := y3.fr F1 (fun _ _ _ => id)
      have hcut := cut_to Try.prog 31 5 Try.underlying31 (by kernel_rfl) (A k) (Ln k) (Cp k) n1 .i64 (by have := HN.out; omega)
      have hi1 : (n1 : Int) ≤ (Ln k : Int) := by have := HN.out; omega
      have hi0 : ¬ ((n1 : Int) < 0) := by omega
      have hi2 : ¬ ((Ln k : Int) < (n1 : Int)) := by omega
      have HR1 : Hid (RingIs w1 w.heap.size sv1 (L ++ (Bs k).take n1) room) := hR1
      have HF1 : Hid (Fr (fun _ => False) w w1) := F1
      clear hR1 hF1 hk1 F1 HPUT hsB p0 hI hO x1 x2 hR HF HD1
      have HROOM : Hid (n1 < Ln k → ∀ w2, w2 = w1 → Calls Try.prog 12 #[.pointer (some ⟨w.heap.size, 0, none⟩)] w2 fun e w' => e = .returned (.int .i64 0) ∧ ∃ n, w' = w2.drewN n) := by
        intro hf w2 e
        subst e
        refine room_ring w.heap.size sv1 _ room 0 w2 HR1.out ?_
        rw [List.length_append, List.length_take]
        have := HN.out; have := HY4.out; omega
      by_cases hfull : n1 < Ln k
      case' pos =>
        have hfull' : (n1 : Int) < (Ln k : Int) := by omega
        have HRM := HROOM.out hfull w1 rfl
        have HRM' : Hid (Calls Try.prog 12 #[.pointer (some ⟨w.heap.size, 0, none⟩)] w1 fun e w' => e = .returned (.int .i64 0) ∧ ∃ n, w' = w1.drewN n) := HRM
        clear HRM HROOM
        go_wp2_with fail
        refine HRM'.out.mono ?_
        rintro e w2 ⟨rfl, nq, hw2⟩
        have I2 : OwnAt w2 5 (.slice ai n ci) (bv inn) := by rw [hw2]; exact I1
        have O2 : OwnAt w2 5 (.slice ao m co) (bv out) := by rw [hw2]; exact O1
        have p2 : w2.cell? ⟨pb, po + k, none⟩ = some (.slice (A k) (Ln k) (Cp k)) := by rw [hw2]; exact p1
        have s2 : SrcAt w2 (A k) (Bs k) := by rw [hw2]; exact s1
        have HF2 : Hid (Fr (fun _ => False) w w2) := by rw [hw2]; exact HF1.out.drewN nq
        have HR2 : Hid (RingIs w2 w.heap.size sv1 (L ++ (Bs k).take n1) room) := by rw [hw2]; exact HR1.out.fr (S := fun _ => False) ((Fr.refl _ _).drewN nq) id (fun _ _ => id)
        clear hw2 I1 O1 p1 s1 HF1 HR1 HRM'
      case' neg =>
        have hfull' : ¬ ((n1 : Int) < (Ln k : Int)) := by omega
        obtain ⟨w2, hw2⟩ : ∃ w2, w2 = w1 := ⟨_, rfl⟩
        rw [← hw2] at I1 O1 p1 s1 HF1 HR1 ⊢
        have I2 := I1
        have O2 := O1
        have p2 := p1
        have s2 := s1
        have HF2 := HF1
        have HR2 := HR1
        clear hw2 I1 O1 p1 s1 HF1 HR1 HROOM
      all_goals
        obtain ⟨X, hX⟩ : ∃ X, X = (Bs k).take n1 := ⟨_, rfl⟩
        have hXs : SrcAt w2 (A k) X := by rw [hX]; exact s2.take n1
        have HXl : Hid (X.length = n1) := by show _ = _; rw [hX, List.length_take]; have := HN.out; have := HY4.out; omega
        rw [← hX] at HR2
        obtain ⟨i, hi1, hi2', hi3, hi4⟩ := info5
        have J1 : Hid (Try.prog.info? 5 = some i) := hi1
        have J2 : Hid (i.zero = some (.int .u8 0)) := hi2'
        have J3 : Hid (i.size = 1) := hi3
        have J4 : Hid (i.bytes = 1) := hi4
        have HBY : Hid (inn.length + n1 ≤ 140737488355328) := by show _ ≤ _; have := HN.out; have := Hn.out; omega
        clear hX hi1 hi2' hi3 hi4 s2
        by_cases htk : k < nt
        case pos =>
          have htk' : (k : Int) < (nt : Int) := by omega
          obtain rfl := HAT.out (by omega)
          obtain ⟨t0, t1, t2⟩ := HT.out k htk
          have ht2 : (Z k : Int) ≤ 255 := by omega
          have HTC : Hid (∀ w3, Fr (fun x => (Value.slice ai n ci).ownBlock = some x) w2 w3 → w3.cell? ⟨tb, to + k, none⟩ = some (.int .u8 (Z k : Nat))) := by
            intro w3 hf
            rw [hf.cell (p := ⟨tb, to + k, none⟩) (by have := HF2.out.size; show tb < _; omega) (fun e => by have := d2 _ e; show False; simp at this; omega), HF2.out.cell (p := ⟨tb, to + k, none⟩) t0 id]
            exact t1
          go_wp2_with (at_builtin; refine wpList_append_bytes rfl (.tmp 58) (.tmp 64) 31 31 rfl 5 i Try.underlying31 Try.underlying31 J1.out J2.out J3.out J4.out (.slice ai n ci) inn (by go_simp) I2 (A k) n1 (Cp k) (by go_simp) X hXs HXl.out HBY.out ?_; intro ai3 n3 ci3 w3 Hn3 I3 hf3 hk3; have tc := HTC.out w3 hf3.out)
          obtain ⟨R3, O3, F3, e1, e2, e3⟩ := st_in HR2.out O2 HF2.out hf3.out hk3.out d2 d1' d3 x1' x3 x2'
          obtain ⟨m1, hm1⟩ : ∃ m1 : Nat, (m1 : Int) = max 0 (min (Z k : Int) (L ++ X).length) := ⟨min (Z k) (L ++ X).length, by omega⟩
          have HM1 : Hid ((m1 : Int) = max 0 (min (Z k : Int) (L ++ X).length)) := hm1
          have HF3 : Hid (Fr (fun _ => False) w w3) := F3
          have Hk3 := hk3
          clear hf3 hk3 O2 I2 p2 HF2 HR2 hXs hm1 F3 HTC t1
          refine (take_any w.heap.size sv1 (L ++ X) room (Z k) m1 w3 R3 HM1.out).mono ?_
          rintro e w4 ⟨d, rfl, hd, hd4, R4, F4⟩
          obtain ⟨I4, O4, F4'⟩ := st_take I3 O3 HF3.out F4 e1 d3
          have HF4 : Hid (Fr (fun _ => False) w w4) := F4'
          obtain ⟨T, hTd⟩ : ∃ T, T = (L ++ X).take m1 := ⟨_, rfl⟩
          obtain ⟨L5, hL5⟩ : ∃ L5, L5 = (L ++ X).drop m1 := ⟨_, rfl⟩
          rw [← hL5] at R4
          rw [← hTd] at hd4
          have hTs : SrcAt w4 (some ⟨d, 0, none⟩) T := SrcAt.row hd4 0
          have HTl : Hid (T.length = m1) := by show _ = _; rw [hTd, List.length_take]; have := HM1.out; omega
          have HTL : Hid (T ++ L5 = L ++ X) := by show _ = _; rw [hTd, hL5, List.take_append_drop]
          have HBY5 : Hid (out.length + m1 ≤ 140737488355328) := by
            have h9 : inn.length = out.length + L.length := by rw [HE.out, List.length_append]
            have h8 := HM1.out
            have h7 := Hn.out
            show _ ≤ _
            omega
          clear F4 F4' hd4 O3 R3 I3 HF3 hTd hL5 hd
          go_wp2_with (at_builtin; refine wpList_append_bytes rfl (.tmp 70) (.tmp 77) 31 31 rfl 5 i Try.underlying31 Try.underlying31 J1.out J2.out J3.out J4.out (.slice ao m co) out (by go_simp) O4 (some ⟨d, 0, none⟩) m1 m1 (by go_simp) T hTs HTl.out HBY5.out ?_; intro ao5 m5 co5 w5 Hm5 O5 hf5 hk5)
          obtain ⟨R5, I5, F5, f1, f2, f3⟩ := st_in (vo := .slice ai3 n3 ci3) R4 I4 HF4.out hf5.out hk5.out d3 d1' e1 x2' e3.symm e2
          have HST : Hid (St w w5 room (k + 1) (.slice ai3 n3 ci3) (.slice ao5 m5 co5) n3 m5) := by
            refine ⟨sv1, L5, inn ++ X, out ++ T, R5, I5, O5, ?_, ?_, ?_, ?_, F5, d1', e1, f1, e2, f2, f3.symm⟩
            · rw [List.append_assoc, HTL.out, HE.out, List.append_assoc]
            · rw [List.length_append, HXl.out, Hn3.out]
            · rw [List.length_append, HTl.out, Hm5.out]
            · have h1 := Hn3.out; have h2 := Hn.out; have h3 := HN.out; omega
          have hsum : n3 = m5 + L5.length := by
            have h1 := Hn3.out; have h2 := Hm5.out; have h3 := HTl.out; have h4 := HXl.out
            have h5 : (T ++ L5).length = (L ++ X).length := by rw [HTL.out]
            have h6 : inn.length = out.length + L.length := by rw [HE.out, List.length_append]
            rw [List.length_append, List.length_append] at h5
            omega
          have HSUM : Hid (n3 = m5 + L5.length) := hsum
          clear hf5 hk5 I5 O5 R4 I4 O4 HF4 hTs hsum f1 f2 f3 F5
          obtain ⟨l, hl⟩ : ∃ l : Nat, l = L5.length := ⟨_, rfl⟩
          have RL : Hid (Calls Try.prog 11 #[.pointer (some ⟨w.heap.size, 0, none⟩)] w5 fun e w' => e = .returned (.int .i64 l) ∧ w' = w5) := by rw [hl]; exact ring_len R5
          have hlr : (l : Int) ≤ (room : Int) := by have := R5.le; omega
          have hln : Hid (n3 = m5 + l) := by show _ = _; rw [hl]; exact HSUM.out
          have b1 : (n3 : Int) ≤ 1073741824 := by have h1 := Hn3.out; have h2 := Hn.out; have h3 := HN.out; omega
          have b2 : ((m5 : Nat) : Int) ≤ (n3 : Int) := by have := hln.out; omega
          have hlr' : (n3 : Int) - ((m5 : Nat) : Int) ≤ (room : Int) := by have := hln.out; omega
          have HL : Hid (l = L5.length) := hl
          clear hl
          go_wp2_with fail
          refine RL.out.mono ?_
          rintro e w6 ⟨rfl, rfl⟩
          go_wp2_with fail
          · rename_i hq0 K0 a0
            have hbne : ((l : Int) != ((n3 : Int) - ((m5 : Nat) : Int))) = false := by rw [bne_eq_false_iff_eq]; exact hq0
            clear hq0
            clear hbne hlr' b2 b1
            refine RL.out.mono ?_
            rintro e w7 ⟨rfl, rfl⟩
            go_wp2
            go_roundw
            case rel => exact ⟨k + 1, n3, m5, ai3, ao5, ci3, co5, by omega, by go_num, rfl, rfl, HST.out⟩
            case measure => simp [intOf]; omega
          · exfalso
            have := hln.out
            omega
        case neg =>
          have htk' : ¬ ((k : Int) < (nt : Int)) := by omega
          go_wp2_with (at_builtin; refine wpList_append_bytes rfl (.tmp 58) (.tmp 64) 31 31 rfl 5 i Try.underlying31 Try.underlying31 J1.out J2.out J3.out J4.out (.slice ai n ci) inn (by go_simp) I2 (A k) n1 (Cp k) (by go_simp) X hXs HXl.out HBY.out ?_; intro ai3 n3 ci3 w3 Hn3 I3 hf3 hk3)
          obtain ⟨R3, O3, F3, e1, e2, e3⟩ := st_in HR2.out O2 HF2.out hf3.out hk3.out d2 d1' d3 x1' x3 x2'
          have HST : Hid (St w w3 room (k + 1) (.slice ai3 n3 ci3) (.slice ao m co) n3 m) := by
            refine ⟨sv1, L ++ X, inn ++ X, out, R3, I3, O3, ?_, ?_, Hm.out, ?_, F3, d1', e1, d3, e2, x2', e3⟩
            · rw [HE.out, List.append_assoc]
            · rw [List.length_append, HXl.out, Hn3.out]
            · have h1 := Hn3.out; have h2 := Hn.out; have h3 := HN.out; omega
          have hsum : n3 = m + (L ++ X).length := by
            have h1 := Hn3.out; have h2 := Hm.out; have h4 := HXl.out
            have h6 : inn.length = out.length + L.length := by rw [HE.out, List.length_append]
            rw [List.length_append]
            omega
          have HSUM : Hid (n3 = m + (L ++ X).length) := hsum
          clear hf3 hk3 O2 I2 p2 HF2 HR2 hXs I3 O3 F3 hsum
          obtain ⟨l, hl⟩ : ∃ l : Nat, l = (L ++ X).length := ⟨_, rfl⟩
          have RL : Hid (Calls Try.prog 11 #[.pointer (some ⟨w.heap.size, 0, none⟩)] w3 fun e w' => e = .returned (.int .i64 l) ∧ w' = w3) := by rw [hl]; exact ring_len R3
          have hlr : (l : Int) ≤ (room : Int) := by have := R3.le; omega
          have hln : Hid (n3 = m + l) := by show _ = _; rw [hl]; exact HSUM.out
          have b1 : (n3 : Int) ≤ 1073741824 := by have h1 := Hn3.out; have h2 := Hn.out; have h3 := HN.out; omega
          have b2 : ((m : Nat) : Int) ≤ (n3 : Int) := by have := hln.out; omega
          have hlr' : (n3 : Int) - ((m : Nat) : Int) ≤ (room : Int) := by have := hln.out; omega
          have HL : Hid (l = (L ++ X).length) := hl
          clear hl
          go_wp2_with fail
          refine RL.out.mono ?_
          rintro e w6 ⟨rfl, rfl⟩
          go_wp2_with fail
          · rename_i hq0 K0 a0
            have hbne : ((l : Int) != ((n3 : Int) - ((m : Nat) : Int))) = false := by rw [bne_eq_false_iff_eq]; exact hq0
            clear hq0
            clear hbne hlr' b2 b1
            refine RL.out.mono ?_
            rintro e w7 ⟨rfl, rfl⟩
            go_wp2
            go_roundw
            case rel => exact ⟨k + 1, n3, m, ai3, ao, ci3, co, by omega, by go_num, rfl, rfl, HST.out⟩
            case measure => simp [intOf]; omega
          · exfalso
            have := hln.out
            omega
    · obtain rfl : k = np := by omega
      have hlt' : ¬ ((k : Int) < (k : Int)) := by omega
      obtain ⟨sv, L, inn, out, hR, hI, hO, hE, hn, hm, hnk, hF, d1, d2, d3, x1, x2, x3⟩ := HS.out
      have hle := hR.le
      have HTK : Hid (Calls Try.prog 17 #[.pointer (some ⟨w.heap.size, 0, none⟩), .int .i64 1000] wr fun e w' => ∃ d, e = .returned (.slice (some ⟨d, 0, none⟩) L.length L.length) ∧ wr.heap.size ≤ d ∧ w'.heap[d]? = some (.cells (bv (L.take L.length)).toArray 5 (0, 0)) ∧ RingIs w' w.heap.size sv (L.drop L.length) room ∧ Fr (fun k => k = w.heap.size) wr w') := take_any w.heap.size sv L room 1000 L.length wr hR (by omega)
      have HE : Hid (inn = out ++ L) := hE
      have Hn : Hid (inn.length = n) := hn
      have Hm : Hid (out.length = m) := hm
      have HF : Hid (Fr (fun _ => False) w wr) := hF
      have HBY : Hid (out.length + L.length ≤ 140737488355328) := by
        have h9 : inn.length = out.length + L.length := by rw [hE, List.length_append]
        show _ ≤ _
        omega
      obtain ⟨i, hi1, hi2', hi3, hi4⟩ := info5
      have J1 : Hid (Try.prog.info? 5 = some i) := hi1
      have J2 : Hid (i.zero = some (.int .u8 0)) := hi2'
      have J3 : Hid (i.size = 1) := hi3
      have J4 : Hid (i.bytes = 1) := hi4
      clear hE hn hm hF HS hi1 hi2' hi3 hi4 hR
      go_wp2_with fail
      refine HTK.out.mono ?_
      rintro e w4 ⟨d, rfl, hd, hd4, R4, F4⟩
      obtain ⟨I4, O4, F4'⟩ := st_take hI hO HF.out F4 d2 d3
      have HF4 : Hid (Fr (fun _ => False) w w4) := F4'
      rw [List.take_length] at hd4
      have hTs : SrcAt w4 (some ⟨d, 0, none⟩) L := SrcAt.row hd4 0
      clear F4 F4' hd4 R4 hI hO HF hd HTK
      obtain ⟨str, hstr⟩ : ∃ str : ByteArray, str = ⟨inn.toArray⟩ := ⟨_, rfl⟩
      have HC : Hid (∀ (w5 : World) (ao5 : Option Addr) (m5 co5 : Nat), m5 = out.length + L.length → OwnAt w5 5 (.slice ao5 m5 co5) (bv (out ++ L)) → Fr (fun k => (Value.slice ao m co).ownBlock = some k) w4 w5 → (convert 31 9 (.slice ai n ci)).run Try.prog w5 = .ok (.string str) w5 ∧ (convert 31 9 (.slice ao5 m5 co5)).run Try.prog w5 = .ok (.string str) w5) := by
        intro w5 ao5 m5 co5 em O5 hf5
        have I5 : OwnAt w5 5 (.slice ai n ci) (bv inn) := I4.fr hf5 (fun g hg e => x3 g hg e)
        refine ⟨?_, ?_⟩
        · rw [string_of 31 9 5 Try.underlying31 Try.underlying9 Try.underlying5 (own_src I5) n ci Hn.out, sv8, hstr]
        · rw [string_of 31 9 5 Try.underlying31 Try.underlying9 Try.underlying5 (own_src O5) m5 co5 (by rw [List.length_append]; omega), sv8, hstr, HE.out]
      clear hstr
      go_wp2_with (at_builtin; refine wpList_append_bytes rfl (.tmp 94) (.tmp 96) 31 31 rfl 5 i Try.underlying31 Try.underlying31 J1.out J2.out J3.out J4.out (.slice ao m co) out (by go_simp) O4 (some ⟨d, 0, none⟩) L.length L.length (by go_simp) L hTs rfl HBY.out ?_; intro ao5 m5 co5 w5 Hm5 O5 hf5 hk5; obtain ⟨v1, v2⟩ := HC.out w5 ao5 m5 co5 Hm5.out O5 hf5.out)
      refine (awake_any _).mono ?_
      rintro e w6 ⟨rfl, hf6⟩
      have HF6 : Hid (Fr (fun _ => False) w5 w6) := hf6
      clear hf6
      go_wp2
      go_ret
      refine ⟨rfl, ?_⟩
      have h1 : Fr (fun k => (Value.slice ao m co).ownBlock = some k) w w6 := Fr.trans (Fr.trans (HF4.out.mono (fun _ _ e => e.elim)) hf5.out) (HF6.out.mono (fun _ _ e => e.elim))
      exact h1.below (fun g hg e => by have := d3 g e; omega)

end Go.Proofs.Ytaflgioelblcgaa.chunkOrder
