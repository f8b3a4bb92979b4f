/- The walk of StreamNumbers. -/
import Derived.Test.YtahlhkpabkplfaaYk
import Derived.Test.YtahlhkpabkplfaaYb
import Derived.Test.YtahlhkpabkplfaaLt
import Derived.Deep.Cut
namespace Go.Proofs.Ytahlhkpabkplfaa
open Go.RowKit Go.Maps
set_option linter.unusedVariables false
set_option maxRecDepth 100000
set_option maxHeartbeats 4000000

/-- Behind i streams of this end's own. -/
structure Num1 (sv : Bool) (fi : Int) (i : Nat) (S : Stm) : Prop where
  sv : S.server = sv
  mine : S.mine = 1024
  most : S.most = 1024
  own : openS S true = i
  peer : openS S false = 0
  th : S.theirs = 0
  next : nextS S = fi + 2 * (i : Int)
theorem Num1.step {sv : Bool} {fi : Int} {i : Nat} {S : Stm} (h : Num1 sv fi i S) (hi : InvS S) (h1 : i < 50) (h2 : 1 ≤ fi ∧ fi ≤ 2) : (ownO S).1 = fi + 2 * (i : Int) ∧ (ownO S).2.1 = 0 ∧ Num1 sv fi (i + 1) (ownO S).2.2 := by
  obtain ⟨a1, a2, a3, a4, a5, a6, a7, a8, a9⟩ := own_step hi (by rw [h.own, h.mine]; omega) (by rw [h.next]; omega)
  refine ⟨by rw [a1, h.next], a2, ⟨by rw [a6, h.sv], by rw [a7, h.mine], by rw [a8, h.most], by rw [a4, h.own], by rw [a5, h.peer], by rw [a9, h.th], ?_⟩⟩
  unfold nextS
  rw [a3, h.next, if_neg (by omega)]
  omega
/-- Behind some streams of the peer's. -/
structure Num2 (sv : Bool) (m : Nat) (last : Int) (op : Nat) (S : Stm) : Prop where
  sv : S.server = sv
  most : S.most = 1024
  own : openS S true = m
  peer : openS S false = op
  th : S.theirs = last
theorem Num1.two {sv : Bool} {fi : Int} {i : Nat} {S : Stm} (h : Num1 sv fi i S) : Num2 sv i 0 0 S := ⟨h.sv, h.most, h.own, h.peer, h.th⟩
theorem Num2.yes {sv : Bool} {m : Nat} {last : Int} {op : Nat} {S : Stm} (h : Num2 sv m last op S) (d : Int) (h1 : 1 ≤ d) (h2 : d ≤ 2147483647) (h3 : ownS sv d = false) (h4 : last < d) (ho : op < 1000) : peerV S d = .tuple #[.bool true, .agg #[.bool false, .int .i64 0, .int .i64 0]] ∧ Num2 sv m d (op + 1) (peerS S d).2.2 := by
  obtain ⟨a1, a2, a3, a4, a5, a6, a7⟩ := peer_yes (S := S) d ⟨h1, h2, by rw [h.sv]; exact h3, by rw [h.th]; exact h4⟩ (by rw [h.peer, h.most]; omega)
  refine ⟨?_, ⟨by rw [a6, h.sv], by rw [a7, h.most], by rw [a5, h.own], by rw [a4, h.peer], a3⟩⟩
  unfold peerV
  rw [a1, a2]
  rfl
theorem Num2.no {sv : Bool} {m : Nat} {last : Int} {op : Nat} {S : Stm} (h : Num2 sv m last op S) (d : Int) (hn : d < 1 ∨ 2147483647 < d ∨ ownS sv d = true ∨ d ≤ last) : peerV S d = .tuple #[.bool false, .agg #[.bool true, .int .i64 0, .int .i64 1]] ∧ (peerS S d).2.2 = S := by
  have e := peerS_bad (S := S) (d := d) (by rw [h.sv, h.th]; exact hn)
  unfold peerV
  rw [e]
  exact ⟨rfl, rfl⟩
theorem own_odd {d : Int} (h : d % 2 = 1) (sv : Bool) : ownS sv d = (false == sv) := by simp [ownS, h]
theorem own_even {d : Int} (h : d % 2 = 0) (sv : Bool) : ownS sv d = (true == sv) := by simp [ownS, h]
theorem numbers_true (a : Nat) (q : Option Addr) (c n : Nat) (L : List Int) (w : World) (ha : a ≤ 255) (hI : Ints10 w q c L) (hl : L.length = n) : Calls Try.prog 8 #[.bool true, .int .u8 (a : Int), .slice q n c] w fun e w' => e = .returned (.bool true) ∧ Below w.heap.size w w' := by
  have KN := yNew_in true 1024 w (by omega) (by omega)
  obtain ⟨g, hg⟩ : ∃ g, g = w.heap.size + 1 := ⟨_, rfl⟩
  obtain ⟨mb, hmb⟩ : ∃ mb, mb = w.heap.size := ⟨_, rfl⟩
  rw [← hg, ← hmb] at KN
  obtain ⟨m, hm⟩ : ∃ m, m = a % 50 := ⟨_, rfl⟩
  have hm5 : m < 50 := by omega
  have hma : (a : Int) % 50 = (m : Int) := by omega
  have HI : Hid (Ints10 w q c L) := hI
  have HL : Hid (L.length = n) := hl
  have HC : Hid (n ≤ c) := by have := hI.cap; rw [hl] at this; exact this
  have hnb : (n : Int) ≤ 9000000000000000000 := by have := hI.few; rw [hl] at this; have h2 : reachBytes < 2 ^ 47 := reach_lt; omega
  have HG : Hid (g = w.heap.size + 1 ∧ mb = w.heap.size) := ⟨hg, hmb⟩
  clear hg hmb hm hI hl
  go_enter Try.func8, Try.ntmps8
  go_wp2_with (go_at_call 12; refine KN.mono ?_; clear KN; rintro e w1 ⟨rfl, y1, f1, s1⟩)
  have HS1 : Hid (YAt w1 g mb (newS true 1024) ∧ Fr (fun k => w.heap.size ≤ k) w w1 ∧ Num1 true 2 0 (newS true 1024)) := ⟨y1, f1.mono (fun _ _ e => e.elim), rfl, rfl, rfl, rfl, rfl, rfl, rfl⟩
  clear y1 f1 s1
  go_loopw [10] (fun x10 wr => ∃ (i : Nat) (S : Stm), x10 = .int .i64 (i : Int) ∧ i ≤ m ∧ Hid (YAt wr g mb S ∧ Fr (fun k => w.heap.size ≤ k) w wr ∧ Num1 true 2 i S)) (fun x10 _ => m - (intOf x10).toNat)
  case atStart => exact ⟨0, _, rfl, by omega, HS1.out⟩
  case round =>
    clear HS1
    obtain ⟨i, S, rfl, him, HS⟩ := hrel
    by_cases hlt : i < m
    · have hlt2 : (i : Int) < (m : Int) := by omega
      have KO := yOwn_in g mb S wr HS.out.1
      obtain ⟨e1, e2, e3⟩ := HS.out.2.2.step HS.out.1.inv (by omega) (by omega)
      rw [e1, e2] at KO
      have H3 : Hid (Num1 true 2 (i + 1) (ownO S).2.2) := e3
      clear e1 e2 e3
      go_wp2_with (go_at_call 16; refine KO.mono ?_; clear KO; rintro e w2 ⟨rfl, y2, f2⟩)
      have HS2 : Hid (YAt w2 g mb (ownO S).2.2 ∧ Fr (fun k => w.heap.size ≤ k) w w2 ∧ Num1 true 2 (i + 1) (ownO S).2.2) := ⟨y2, HS.out.2.1.trans (f2.mono (fun k _ e => by have := HG.out; show _ ≤ k; omega)), H3.out⟩
      clear y2 f2
      go_roundw
      case rel => exact ⟨i + 1, _, by go_num, by omega, HS2.out⟩
      case measure => simp [intOf]; omega
    · obtain rfl : m = i := by omega
      clear hlt
      go_wp2_with (fail)
      rw [hma]
      have HMA : Hid ((a : Int) % 50 = (m : Int)) := hma
      clear hma
      have HS0 : Hid (YAt wr g mb S ∧ Fr (fun k => w.heap.size ≤ k) w wr ∧ Num2 true m 0 0 S) := ⟨HS.out.1, HS.out.2.1, HS.out.2.2.two⟩
      clear HS
      go_loopw [13, 14, 15] (fun x13 x14 x15 wr => ∃ (i op : Nat) (last : Int) (T : Stm), x13 = .int .i64 last ∧ x14 = .int .i64 (op : Int) ∧ x15 = .int .i64 (i : Int) ∧ i ≤ n ∧ op ≤ 1000 ∧ Hid (YAt wr g mb T ∧ Fr (fun k => w.heap.size ≤ k) w wr ∧ Num2 true m last op T)) (fun _ _ x15 _ => n - (intOf x15).toNat)
      case atStart => exact ⟨0, 0, 0, S, rfl, rfl, rfl, by omega, by omega, HS0.out⟩
      case round =>
        clear HS0
        obtain ⟨i, op, last, T, rfl, rfl, rfl, hin, hop, HS⟩ := hrel
        by_cases hlt : i < n
        · have hlt2 : (i : Int) < (n : Int) := by omega
          by_cases hop2 : op < 1000
          · have hop3 : (op : Int) < 1000 := by omega
            obtain ⟨d, hd⟩ : ∃ d, L[i]? = some d := ⟨L[i]'(by rw [HL.out]; exact hlt), List.getElem?_eq_getElem _⟩
            obtain ⟨gq, oq, rfl, hgq, d0, hdI⟩ := HI.out.cells i d hd
            have c0 : wr.cell? ⟨gq, oq + i, none⟩ = some (.int .i64 d) := (HS.out.2.1.cell (p := ⟨gq, oq + i, none⟩) hgq (by show ¬ _ ≤ gq; omega)).trans d0
            have KP := yPeer_in g mb T d wr HS.out.1
            have HGQ : Hid (gq < w.heap.size ∧ w.cell? ⟨gq, oq + i, none⟩ = some (.int .i64 d)) := ⟨hgq, d0⟩
            clear hd hgq d0 hdI
            by_cases hw : d < 1
            · obtain ⟨e1, e2⟩ := HS.out.2.2.no d (.inl hw)
              rw [e1, e2] at KP
              clear e1 e2
              go_upto_region 19 with (go_at_call 20; refine KP.mono ?_; clear KP; rintro e w2 ⟨rfl, y2, f2⟩)
              obtain ⟨w3, hw3⟩ : ∃ w3, w3 = w2.alloc (Obj.cells #[.bool true, .int .i64 0, .int .i64 1] 48) := ⟨_, rfl⟩
              have F3 : Fr (fun _ => False) w2 w3 := by rw [hw3]; exact (Fr.refl _ _).alloc _
              have x0 : w3.cell? ⟨w2.heap.size, 0, none⟩ = some (.bool true) := by rw [hw3]; exact cell_of_heap (heap_alloc_new _ _) rfl
              have x1 : w3.cell? ⟨w2.heap.size, 1, none⟩ = some (.int .i64 0) := by rw [hw3]; exact cell_of_heap (heap_alloc_new _ _) rfl
              have x2 : w3.cell? ⟨w2.heap.size, 2, none⟩ = some (.int .i64 1) := by rw [hw3]; exact cell_of_heap (heap_alloc_new _ _) rfl
              rw [← hw3]
              clear hw3 c0
              have HS3 : Hid (YAt w3 g mb T ∧ Fr (fun k => w.heap.size ≤ k) w w3 ∧ Num2 true m last op T) := ⟨y2.fr F3 id id, (HS.out.2.1.trans (f2.mono (fun k _ e => by have := HG.out; show _ ≤ k; omega))).trans (F3.mono (fun _ _ e => e.elim)), HS.out.2.2⟩
              have c0 : w3.cell? ⟨gq, oq + i, none⟩ = some (.int .i64 d) := (HS3.out.2.1.cell (p := ⟨gq, oq + i, none⟩) HGQ.out.1 (by have := HGQ.out.1; show ¬ _ ≤ gq; omega)).trans HGQ.out.2
              clear y2 f2 F3
              go_wp2_with (fail)
              go_roundw
              case rel => exact ⟨i + 1, op, last, _, rfl, rfl, by go_num, by omega, by omega, HS3.out⟩
              case measure => simp [intOf]; omega
            have hw1 : 1 ≤ d := by omega
            clear hw
            by_cases hw : 2147483647 < d
            · obtain ⟨e1, e2⟩ := HS.out.2.2.no d (.inr (.inl hw))
              rw [e1, e2] at KP
              clear e1 e2
              go_upto_region 19 with (go_at_call 20; refine KP.mono ?_; clear KP; rintro e w2 ⟨rfl, y2, f2⟩)
              obtain ⟨w3, hw3⟩ : ∃ w3, w3 = w2.alloc (Obj.cells #[.bool true, .int .i64 0, .int .i64 1] 48) := ⟨_, rfl⟩
              have F3 : Fr (fun _ => False) w2 w3 := by rw [hw3]; exact (Fr.refl _ _).alloc _
              have x0 : w3.cell? ⟨w2.heap.size, 0, none⟩ = some (.bool true) := by rw [hw3]; exact cell_of_heap (heap_alloc_new _ _) rfl
              have x1 : w3.cell? ⟨w2.heap.size, 1, none⟩ = some (.int .i64 0) := by rw [hw3]; exact cell_of_heap (heap_alloc_new _ _) rfl
              have x2 : w3.cell? ⟨w2.heap.size, 2, none⟩ = some (.int .i64 1) := by rw [hw3]; exact cell_of_heap (heap_alloc_new _ _) rfl
              rw [← hw3]
              clear hw3 c0
              have HS3 : Hid (YAt w3 g mb T ∧ Fr (fun k => w.heap.size ≤ k) w w3 ∧ Num2 true m last op T) := ⟨y2.fr F3 id id, (HS.out.2.1.trans (f2.mono (fun k _ e => by have := HG.out; show _ ≤ k; omega))).trans (F3.mono (fun _ _ e => e.elim)), HS.out.2.2⟩
              have c0 : w3.cell? ⟨gq, oq + i, none⟩ = some (.int .i64 d) := (HS3.out.2.1.cell (p := ⟨gq, oq + i, none⟩) HGQ.out.1 (by have := HGQ.out.1; show ¬ _ ≤ gq; omega)).trans HGQ.out.2
              clear y2 f2 F3
              go_wp2_with (fail)
              go_roundw
              case rel => exact ⟨i + 1, op, last, _, rfl, rfl, by go_num, by omega, by omega, HS3.out⟩
              case measure => simp [intOf]; omega
            have hw2 : d ≤ 2147483647 := by omega
            clear hw
            by_cases hw : d % 2 = 0
            · obtain ⟨e1, e2⟩ := HS.out.2.2.no d (.inr (.inr (.inl (by rw [own_even hw]; rfl))))
              rw [e1, e2] at KP
              clear e1 e2
              go_upto_region 19 with (go_at_call 20; refine KP.mono ?_; clear KP; rintro e w2 ⟨rfl, y2, f2⟩)
              obtain ⟨w3, hw3⟩ : ∃ w3, w3 = w2.alloc (Obj.cells #[.bool true, .int .i64 0, .int .i64 1] 48) := ⟨_, rfl⟩
              have F3 : Fr (fun _ => False) w2 w3 := by rw [hw3]; exact (Fr.refl _ _).alloc _
              have x0 : w3.cell? ⟨w2.heap.size, 0, none⟩ = some (.bool true) := by rw [hw3]; exact cell_of_heap (heap_alloc_new _ _) rfl
              have x1 : w3.cell? ⟨w2.heap.size, 1, none⟩ = some (.int .i64 0) := by rw [hw3]; exact cell_of_heap (heap_alloc_new _ _) rfl
              have x2 : w3.cell? ⟨w2.heap.size, 2, none⟩ = some (.int .i64 1) := by rw [hw3]; exact cell_of_heap (heap_alloc_new _ _) rfl
              rw [← hw3]
              clear hw3 c0
              have HS3 : Hid (YAt w3 g mb T ∧ Fr (fun k => w.heap.size ≤ k) w w3 ∧ Num2 true m last op T) := ⟨y2.fr F3 id id, (HS.out.2.1.trans (f2.mono (fun k _ e => by have := HG.out; show _ ≤ k; omega))).trans (F3.mono (fun _ _ e => e.elim)), HS.out.2.2⟩
              have c0 : w3.cell? ⟨gq, oq + i, none⟩ = some (.int .i64 d) := (HS3.out.2.1.cell (p := ⟨gq, oq + i, none⟩) HGQ.out.1 (by have := HGQ.out.1; show ¬ _ ≤ gq; omega)).trans HGQ.out.2
              clear y2 f2 F3
              go_wp2_with (fail)
              go_roundw
              case rel => exact ⟨i + 1, op, last, _, rfl, rfl, by go_num, by omega, by omega, HS3.out⟩
              case measure => simp [intOf]; omega
            have hw3 : d % 2 = 1 := by omega
            clear hw
            by_cases hw : d ≤ last
            · obtain ⟨e1, e2⟩ := HS.out.2.2.no d (.inr (.inr (.inr hw)))
              rw [e1, e2] at KP
              clear e1 e2
              go_upto_region 19 with (go_at_call 20; refine KP.mono ?_; clear KP; rintro e w2 ⟨rfl, y2, f2⟩)
              obtain ⟨w3, hw3⟩ : ∃ w3, w3 = w2.alloc (Obj.cells #[.bool true, .int .i64 0, .int .i64 1] 48) := ⟨_, rfl⟩
              have F3 : Fr (fun _ => False) w2 w3 := by rw [hw3]; exact (Fr.refl _ _).alloc _
              have x0 : w3.cell? ⟨w2.heap.size, 0, none⟩ = some (.bool true) := by rw [hw3]; exact cell_of_heap (heap_alloc_new _ _) rfl
              have x1 : w3.cell? ⟨w2.heap.size, 1, none⟩ = some (.int .i64 0) := by rw [hw3]; exact cell_of_heap (heap_alloc_new _ _) rfl
              have x2 : w3.cell? ⟨w2.heap.size, 2, none⟩ = some (.int .i64 1) := by rw [hw3]; exact cell_of_heap (heap_alloc_new _ _) rfl
              rw [← hw3]
              clear hw3 c0
              have HS3 : Hid (YAt w3 g mb T ∧ Fr (fun k => w.heap.size ≤ k) w w3 ∧ Num2 true m last op T) := ⟨y2.fr F3 id id, (HS.out.2.1.trans (f2.mono (fun k _ e => by have := HG.out; show _ ≤ k; omega))).trans (F3.mono (fun _ _ e => e.elim)), HS.out.2.2⟩
              have c0 : w3.cell? ⟨gq, oq + i, none⟩ = some (.int .i64 d) := (HS3.out.2.1.cell (p := ⟨gq, oq + i, none⟩) HGQ.out.1 (by have := HGQ.out.1; show ¬ _ ≤ gq; omega)).trans HGQ.out.2
              clear y2 f2 F3
              go_wp2_with (fail)
              go_roundw
              case rel => exact ⟨i + 1, op, last, _, rfl, rfl, by go_num, by omega, by omega, HS3.out⟩
              case measure => simp [intOf]; omega
            have hw4 : last < d := by omega
            clear hw
            obtain ⟨e1, e2⟩ := HS.out.2.2.yes d hw1 hw2 (by rw [own_odd hw3]; rfl) hw4 hop2
            rw [e1] at KP
            have H3 : Hid (Num2 true m d (op + 1) (peerS T d).2.2) := e2
            clear e1 e2
            go_upto_region 19 with (go_at_call 20; refine KP.mono ?_; clear KP; rintro e w2 ⟨rfl, y2, f2⟩)
            obtain ⟨w3, hw3⟩ : ∃ w3, w3 = w2.alloc (Obj.cells #[.bool false, .int .i64 0, .int .i64 0] 48) := ⟨_, rfl⟩
            have F3 : Fr (fun _ => False) w2 w3 := by rw [hw3]; exact (Fr.refl _ _).alloc _
            have x0 : w3.cell? ⟨w2.heap.size, 0, none⟩ = some (.bool false) := by rw [hw3]; exact cell_of_heap (heap_alloc_new _ _) rfl
            have x1 : w3.cell? ⟨w2.heap.size, 1, none⟩ = some (.int .i64 0) := by rw [hw3]; exact cell_of_heap (heap_alloc_new _ _) rfl
            have x2 : w3.cell? ⟨w2.heap.size, 2, none⟩ = some (.int .i64 0) := by rw [hw3]; exact cell_of_heap (heap_alloc_new _ _) rfl
            rw [← hw3]
            clear hw3 c0
            have HS3 : Hid (YAt w3 g mb (peerS T d).2.2 ∧ Fr (fun k => w.heap.size ≤ k) w w3 ∧ Num2 true m d (op + 1) (peerS T d).2.2) := ⟨y2.fr F3 id id, (HS.out.2.1.trans (f2.mono (fun k _ e => by have := HG.out; show _ ≤ k; omega))).trans (F3.mono (fun _ _ e => e.elim)), H3.out⟩
            have c0 : w3.cell? ⟨gq, oq + i, none⟩ = some (.int .i64 d) := (HS3.out.2.1.cell (p := ⟨gq, oq + i, none⟩) HGQ.out.1 (by have := HGQ.out.1; show ¬ _ ≤ gq; omega)).trans HGQ.out.2
            clear y2 f2 F3
            go_wp2_with (fail)
            go_roundw
            case rel => exact ⟨i + 1, op + 1, d, _, rfl, by go_num, by go_num, by omega, by omega, HS3.out⟩
            case measure => simp [intOf]; omega
          · have hop3 : ¬ (op : Int) < 1000 := by omega
            have hma := HMA.out
            have K1 := yLast_in g mb T wr HS.out.1
            rw [HS.out.2.2.th] at K1
            have K2 : ∀ own, Calls Try.prog 18 #[.pointer (some ⟨g, 0, none⟩), .bool own] wr fun e w' => e = .returned (.int .i64 (if own then (m : Int) else (op : Int))) ∧ wr = w' := fun own => by
              refine (yOpen_in g mb T own wr HS.out.1).mono ?_
              rintro e w' ⟨rfl, rfl⟩
              cases own
              · rw [HS.out.2.2.peer]; exact ⟨rfl, rfl⟩
              · rw [HS.out.2.2.own]; exact ⟨rfl, rfl⟩
            go_wp2_with (first | (go_at_call 19; refine K1.mono ?_; clear K1; rintro e w' ⟨rfl, rfl⟩) | (go_at_call 18; refine (K2 _).mono ?_; rintro e w' ⟨rfl, rfl⟩) | (go_at_call 11; refine (yawake_in _).mono ?_; rintro e w6 ⟨rfl, hf6⟩))
            go_ret
            exact ⟨rfl, (HS.out.2.1.trans (hf6.mono (fun _ _ e => e.elim))).below (fun k hk e => by omega)⟩
        · have hlt2 : ¬ (i : Int) < (n : Int) := by omega
          have hma := HMA.out
          have K1 := yLast_in g mb T wr HS.out.1
          rw [HS.out.2.2.th] at K1
          have K2 : ∀ own, Calls Try.prog 18 #[.pointer (some ⟨g, 0, none⟩), .bool own] wr fun e w' => e = .returned (.int .i64 (if own then (m : Int) else (op : Int))) ∧ wr = w' := fun own => by
            refine (yOpen_in g mb T own wr HS.out.1).mono ?_
            rintro e w' ⟨rfl, rfl⟩
            cases own
            · rw [HS.out.2.2.peer]; exact ⟨rfl, rfl⟩
            · rw [HS.out.2.2.own]; exact ⟨rfl, rfl⟩
          go_wp2_with (first | (go_at_call 19; refine K1.mono ?_; clear K1; rintro e w' ⟨rfl, rfl⟩) | (go_at_call 18; refine (K2 _).mono ?_; rintro e w' ⟨rfl, rfl⟩) | (go_at_call 11; refine (yawake_in _).mono ?_; rintro e w6 ⟨rfl, hf6⟩))
          go_ret
          exact ⟨rfl, (HS.out.2.1.trans (hf6.mono (fun _ _ e => e.elim))).below (fun k hk e => by omega)⟩
theorem numbers_false (a : Nat) (q : Option Addr) (c n : Nat) (L : List Int) (w : World) (ha : a ≤ 255) (hI : Ints10 w q c L) (hl : L.length = n) : Calls Try.prog 8 #[.bool false, .int .u8 (a : Int), .slice q n c] w fun e w' => e = .returned (.bool true) ∧ Below w.heap.size w w' := by
  have KN := yNew_in false 1024 w (by omega) (by omega)
  obtain ⟨g, hg⟩ : ∃ g, g = w.heap.size + 1 := ⟨_, rfl⟩
  obtain ⟨mb, hmb⟩ : ∃ mb, mb = w.heap.size := ⟨_, rfl⟩
  rw [← hg, ← hmb] at KN
  obtain ⟨m, hm⟩ : ∃ m, m = a % 50 := ⟨_, rfl⟩
  have hm5 : m < 50 := by omega
  have hma : (a : Int) % 50 = (m : Int) := by omega
  have HI : Hid (Ints10 w q c L) := hI
  have HL : Hid (L.length = n) := hl
  have HC : Hid (n ≤ c) := by have := hI.cap; rw [hl] at this; exact this
  have hnb : (n : Int) ≤ 9000000000000000000 := by have := hI.few; rw [hl] at this; have h2 : reachBytes < 2 ^ 47 := reach_lt; omega
  have HG : Hid (g = w.heap.size + 1 ∧ mb = w.heap.size) := ⟨hg, hmb⟩
  clear hg hmb hm hI hl
  go_enter Try.func8, Try.ntmps8
  go_wp2_with (go_at_call 12; refine KN.mono ?_; clear KN; rintro e w1 ⟨rfl, y1, f1, s1⟩)
  have HS1 : Hid (YAt w1 g mb (newS false 1024) ∧ Fr (fun k => w.heap.size ≤ k) w w1 ∧ Num1 false 1 0 (newS false 1024)) := ⟨y1, f1.mono (fun _ _ e => e.elim), rfl, rfl, rfl, rfl, rfl, rfl, rfl⟩
  clear y1 f1 s1
  go_loopw [10] (fun x10 wr => ∃ (i : Nat) (S : Stm), x10 = .int .i64 (i : Int) ∧ i ≤ m ∧ Hid (YAt wr g mb S ∧ Fr (fun k => w.heap.size ≤ k) w wr ∧ Num1 false 1 i S)) (fun x10 _ => m - (intOf x10).toNat)
  case atStart => exact ⟨0, _, rfl, by omega, HS1.out⟩
  case round =>
    clear HS1
    obtain ⟨i, S, rfl, him, HS⟩ := hrel
    by_cases hlt : i < m
    · have hlt2 : (i : Int) < (m : Int) := by omega
      have KO := yOwn_in g mb S wr HS.out.1
      obtain ⟨e1, e2, e3⟩ := HS.out.2.2.step HS.out.1.inv (by omega) (by omega)
      rw [e1, e2] at KO
      have H3 : Hid (Num1 false 1 (i + 1) (ownO S).2.2) := e3
      clear e1 e2 e3
      go_wp2_with (go_at_call 16; refine KO.mono ?_; clear KO; rintro e w2 ⟨rfl, y2, f2⟩)
      have HS2 : Hid (YAt w2 g mb (ownO S).2.2 ∧ Fr (fun k => w.heap.size ≤ k) w w2 ∧ Num1 false 1 (i + 1) (ownO S).2.2) := ⟨y2, HS.out.2.1.trans (f2.mono (fun k _ e => by have := HG.out; show _ ≤ k; omega)), H3.out⟩
      clear y2 f2
      go_roundw
      case rel => exact ⟨i + 1, _, by go_num, by omega, HS2.out⟩
      case measure => simp [intOf]; omega
    · obtain rfl : m = i := by omega
      clear hlt
      go_wp2_with (fail)
      rw [hma]
      have HMA : Hid ((a : Int) % 50 = (m : Int)) := hma
      clear hma
      have HS0 : Hid (YAt wr g mb S ∧ Fr (fun k => w.heap.size ≤ k) w wr ∧ Num2 false m 0 0 S) := ⟨HS.out.1, HS.out.2.1, HS.out.2.2.two⟩
      clear HS
      go_loopw [13, 14, 15] (fun x13 x14 x15 wr => ∃ (i op : Nat) (last : Int) (T : Stm), x13 = .int .i64 last ∧ x14 = .int .i64 (op : Int) ∧ x15 = .int .i64 (i : Int) ∧ i ≤ n ∧ op ≤ 1000 ∧ Hid (YAt wr g mb T ∧ Fr (fun k => w.heap.size ≤ k) w wr ∧ Num2 false m last op T)) (fun _ _ x15 _ => n - (intOf x15).toNat)
      case atStart => exact ⟨0, 0, 0, S, rfl, rfl, rfl, by omega, by omega, HS0.out⟩
      case round =>
        clear HS0
        obtain ⟨i, op, last, T, rfl, rfl, rfl, hin, hop, HS⟩ := hrel
        by_cases hlt : i < n
        · have hlt2 : (i : Int) < (n : Int) := by omega
          by_cases hop2 : op < 1000
          · have hop3 : (op : Int) < 1000 := by omega
            obtain ⟨d, hd⟩ : ∃ d, L[i]? = some d := ⟨L[i]'(by rw [HL.out]; exact hlt), List.getElem?_eq_getElem _⟩
            obtain ⟨gq, oq, rfl, hgq, d0, hdI⟩ := HI.out.cells i d hd
            have c0 : wr.cell? ⟨gq, oq + i, none⟩ = some (.int .i64 d) := (HS.out.2.1.cell (p := ⟨gq, oq + i, none⟩) hgq (by show ¬ _ ≤ gq; omega)).trans d0
            have KP := yPeer_in g mb T d wr HS.out.1
            have HGQ : Hid (gq < w.heap.size ∧ w.cell? ⟨gq, oq + i, none⟩ = some (.int .i64 d)) := ⟨hgq, d0⟩
            clear hd hgq d0 hdI
            by_cases hw : d < 1
            · obtain ⟨e1, e2⟩ := HS.out.2.2.no d (.inl hw)
              rw [e1, e2] at KP
              clear e1 e2
              go_upto_region 19 with (go_at_call 20; refine KP.mono ?_; clear KP; rintro e w2 ⟨rfl, y2, f2⟩)
              obtain ⟨w3, hw3⟩ : ∃ w3, w3 = w2.alloc (Obj.cells #[.bool true, .int .i64 0, .int .i64 1] 48) := ⟨_, rfl⟩
              have F3 : Fr (fun _ => False) w2 w3 := by rw [hw3]; exact (Fr.refl _ _).alloc _
              have x0 : w3.cell? ⟨w2.heap.size, 0, none⟩ = some (.bool true) := by rw [hw3]; exact cell_of_heap (heap_alloc_new _ _) rfl
              have x1 : w3.cell? ⟨w2.heap.size, 1, none⟩ = some (.int .i64 0) := by rw [hw3]; exact cell_of_heap (heap_alloc_new _ _) rfl
              have x2 : w3.cell? ⟨w2.heap.size, 2, none⟩ = some (.int .i64 1) := by rw [hw3]; exact cell_of_heap (heap_alloc_new _ _) rfl
              rw [← hw3]
              clear hw3 c0
              have HS3 : Hid (YAt w3 g mb T ∧ Fr (fun k => w.heap.size ≤ k) w w3 ∧ Num2 false m last op T) := ⟨y2.fr F3 id id, (HS.out.2.1.trans (f2.mono (fun k _ e => by have := HG.out; show _ ≤ k; omega))).trans (F3.mono (fun _ _ e => e.elim)), HS.out.2.2⟩
              have c0 : w3.cell? ⟨gq, oq + i, none⟩ = some (.int .i64 d) := (HS3.out.2.1.cell (p := ⟨gq, oq + i, none⟩) HGQ.out.1 (by have := HGQ.out.1; show ¬ _ ≤ gq; omega)).trans HGQ.out.2
              clear y2 f2 F3
              go_wp2_with (fail)
              go_roundw
              case rel => exact ⟨i + 1, op, last, _, rfl, rfl, by go_num, by omega, by omega, HS3.out⟩
              case measure => simp [intOf]; omega
            have hw1 : 1 ≤ d := by omega
            clear hw
            by_cases hw : 2147483647 < d
            · obtain ⟨e1, e2⟩ := HS.out.2.2.no d (.inr (.inl hw))
              rw [e1, e2] at KP
              clear e1 e2
              go_upto_region 19 with (go_at_call 20; refine KP.mono ?_; clear KP; rintro e w2 ⟨rfl, y2, f2⟩)
              obtain ⟨w3, hw3⟩ : ∃ w3, w3 = w2.alloc (Obj.cells #[.bool true, .int .i64 0, .int .i64 1] 48) := ⟨_, rfl⟩
              have F3 : Fr (fun _ => False) w2 w3 := by rw [hw3]; exact (Fr.refl _ _).alloc _
              have x0 : w3.cell? ⟨w2.heap.size, 0, none⟩ = some (.bool true) := by rw [hw3]; exact cell_of_heap (heap_alloc_new _ _) rfl
              have x1 : w3.cell? ⟨w2.heap.size, 1, none⟩ = some (.int .i64 0) := by rw [hw3]; exact cell_of_heap (heap_alloc_new _ _) rfl
              have x2 : w3.cell? ⟨w2.heap.size, 2, none⟩ = some (.int .i64 1) := by rw [hw3]; exact cell_of_heap (heap_alloc_new _ _) rfl
              rw [← hw3]
              clear hw3 c0
              have HS3 : Hid (YAt w3 g mb T ∧ Fr (fun k => w.heap.size ≤ k) w w3 ∧ Num2 false m last op T) := ⟨y2.fr F3 id id, (HS.out.2.1.trans (f2.mono (fun k _ e => by have := HG.out; show _ ≤ k; omega))).trans (F3.mono (fun _ _ e => e.elim)), HS.out.2.2⟩
              have c0 : w3.cell? ⟨gq, oq + i, none⟩ = some (.int .i64 d) := (HS3.out.2.1.cell (p := ⟨gq, oq + i, none⟩) HGQ.out.1 (by have := HGQ.out.1; show ¬ _ ≤ gq; omega)).trans HGQ.out.2
              clear y2 f2 F3
              go_wp2_with (fail)
              go_roundw
              case rel => exact ⟨i + 1, op, last, _, rfl, rfl, by go_num, by omega, by omega, HS3.out⟩
              case measure => simp [intOf]; omega
            have hw2 : d ≤ 2147483647 := by omega
            clear hw
            by_cases hw : d % 2 = 1
            · obtain ⟨e1, e2⟩ := HS.out.2.2.no d (.inr (.inr (.inl (by rw [own_odd hw]; rfl))))
              rw [e1, e2] at KP
              clear e1 e2
              go_upto_region 19 with (go_at_call 20; refine KP.mono ?_; clear KP; rintro e w2 ⟨rfl, y2, f2⟩)
              obtain ⟨w3, hw3⟩ : ∃ w3, w3 = w2.alloc (Obj.cells #[.bool true, .int .i64 0, .int .i64 1] 48) := ⟨_, rfl⟩
              have F3 : Fr (fun _ => False) w2 w3 := by rw [hw3]; exact (Fr.refl _ _).alloc _
              have x0 : w3.cell? ⟨w2.heap.size, 0, none⟩ = some (.bool true) := by rw [hw3]; exact cell_of_heap (heap_alloc_new _ _) rfl
              have x1 : w3.cell? ⟨w2.heap.size, 1, none⟩ = some (.int .i64 0) := by rw [hw3]; exact cell_of_heap (heap_alloc_new _ _) rfl
              have x2 : w3.cell? ⟨w2.heap.size, 2, none⟩ = some (.int .i64 1) := by rw [hw3]; exact cell_of_heap (heap_alloc_new _ _) rfl
              rw [← hw3]
              clear hw3 c0
              have HS3 : Hid (YAt w3 g mb T ∧ Fr (fun k => w.heap.size ≤ k) w w3 ∧ Num2 false m last op T) := ⟨y2.fr F3 id id, (HS.out.2.1.trans (f2.mono (fun k _ e => by have := HG.out; show _ ≤ k; omega))).trans (F3.mono (fun _ _ e => e.elim)), HS.out.2.2⟩
              have c0 : w3.cell? ⟨gq, oq + i, none⟩ = some (.int .i64 d) := (HS3.out.2.1.cell (p := ⟨gq, oq + i, none⟩) HGQ.out.1 (by have := HGQ.out.1; show ¬ _ ≤ gq; omega)).trans HGQ.out.2
              clear y2 f2 F3
              go_wp2_with (fail)
              go_roundw
              case rel => exact ⟨i + 1, op, last, _, rfl, rfl, by go_num, by omega, by omega, HS3.out⟩
              case measure => simp [intOf]; omega
            have hw3 : d % 2 = 0 := by omega
            clear hw
            by_cases hw : d ≤ last
            · obtain ⟨e1, e2⟩ := HS.out.2.2.no d (.inr (.inr (.inr hw)))
              rw [e1, e2] at KP
              clear e1 e2
              go_upto_region 19 with (go_at_call 20; refine KP.mono ?_; clear KP; rintro e w2 ⟨rfl, y2, f2⟩)
              obtain ⟨w3, hw3⟩ : ∃ w3, w3 = w2.alloc (Obj.cells #[.bool true, .int .i64 0, .int .i64 1] 48) := ⟨_, rfl⟩
              have F3 : Fr (fun _ => False) w2 w3 := by rw [hw3]; exact (Fr.refl _ _).alloc _
              have x0 : w3.cell? ⟨w2.heap.size, 0, none⟩ = some (.bool true) := by rw [hw3]; exact cell_of_heap (heap_alloc_new _ _) rfl
              have x1 : w3.cell? ⟨w2.heap.size, 1, none⟩ = some (.int .i64 0) := by rw [hw3]; exact cell_of_heap (heap_alloc_new _ _) rfl
              have x2 : w3.cell? ⟨w2.heap.size, 2, none⟩ = some (.int .i64 1) := by rw [hw3]; exact cell_of_heap (heap_alloc_new _ _) rfl
              rw [← hw3]
              clear hw3 c0
              have HS3 : Hid (YAt w3 g mb T ∧ Fr (fun k => w.heap.size ≤ k) w w3 ∧ Num2 false m last op T) := ⟨y2.fr F3 id id, (HS.out.2.1.trans (f2.mono (fun k _ e => by have := HG.out; show _ ≤ k; omega))).trans (F3.mono (fun _ _ e => e.elim)), HS.out.2.2⟩
              have c0 : w3.cell? ⟨gq, oq + i, none⟩ = some (.int .i64 d) := (HS3.out.2.1.cell (p := ⟨gq, oq + i, none⟩) HGQ.out.1 (by have := HGQ.out.1; show ¬ _ ≤ gq; omega)).trans HGQ.out.2
              clear y2 f2 F3
              go_wp2_with (fail)
              go_roundw
              case rel => exact ⟨i + 1, op, last, _, rfl, rfl, by go_num, by omega, by omega, HS3.out⟩
              case measure => simp [intOf]; omega
            have hw4 : last < d := by omega
            clear hw
            obtain ⟨e1, e2⟩ := HS.out.2.2.yes d hw1 hw2 (by rw [own_even hw3]; rfl) hw4 hop2
            rw [e1] at KP
            have H3 : Hid (Num2 false m d (op + 1) (peerS T d).2.2) := e2
            clear e1 e2
            go_upto_region 19 with (go_at_call 20; refine KP.mono ?_; clear KP; rintro e w2 ⟨rfl, y2, f2⟩)
            obtain ⟨w3, hw3⟩ : ∃ w3, w3 = w2.alloc (Obj.cells #[.bool false, .int .i64 0, .int .i64 0] 48) := ⟨_, rfl⟩
            have F3 : Fr (fun _ => False) w2 w3 := by rw [hw3]; exact (Fr.refl _ _).alloc _
            have x0 : w3.cell? ⟨w2.heap.size, 0, none⟩ = some (.bool false) := by rw [hw3]; exact cell_of_heap (heap_alloc_new _ _) rfl
            have x1 : w3.cell? ⟨w2.heap.size, 1, none⟩ = some (.int .i64 0) := by rw [hw3]; exact cell_of_heap (heap_alloc_new _ _) rfl
            have x2 : w3.cell? ⟨w2.heap.size, 2, none⟩ = some (.int .i64 0) := by rw [hw3]; exact cell_of_heap (heap_alloc_new _ _) rfl
            rw [← hw3]
            clear hw3 c0
            have HS3 : Hid (YAt w3 g mb (peerS T d).2.2 ∧ Fr (fun k => w.heap.size ≤ k) w w3 ∧ Num2 false m d (op + 1) (peerS T d).2.2) := ⟨y2.fr F3 id id, (HS.out.2.1.trans (f2.mono (fun k _ e => by have := HG.out; show _ ≤ k; omega))).trans (F3.mono (fun _ _ e => e.elim)), H3.out⟩
            have c0 : w3.cell? ⟨gq, oq + i, none⟩ = some (.int .i64 d) := (HS3.out.2.1.cell (p := ⟨gq, oq + i, none⟩) HGQ.out.1 (by have := HGQ.out.1; show ¬ _ ≤ gq; omega)).trans HGQ.out.2
            clear y2 f2 F3
            go_wp2_with (fail)
            go_roundw
            case rel => exact ⟨i + 1, op + 1, d, _, rfl, by go_num, by go_num, by omega, by omega, HS3.out⟩
            case measure => simp [intOf]; omega
          · have hop3 : ¬ (op : Int) < 1000 := by omega
            have hma := HMA.out
            have K1 := yLast_in g mb T wr HS.out.1
            rw [HS.out.2.2.th] at K1
            have K2 : ∀ own, Calls Try.prog 18 #[.pointer (some ⟨g, 0, none⟩), .bool own] wr fun e w' => e = .returned (.int .i64 (if own then (m : Int) else (op : Int))) ∧ wr = w' := fun own => by
              refine (yOpen_in g mb T own wr HS.out.1).mono ?_
              rintro e w' ⟨rfl, rfl⟩
              cases own
              · rw [HS.out.2.2.peer]; exact ⟨rfl, rfl⟩
              · rw [HS.out.2.2.own]; exact ⟨rfl, rfl⟩
            go_wp2_with (first | (go_at_call 19; refine K1.mono ?_; clear K1; rintro e w' ⟨rfl, rfl⟩) | (go_at_call 18; refine (K2 _).mono ?_; rintro e w' ⟨rfl, rfl⟩) | (go_at_call 11; refine (yawake_in _).mono ?_; rintro e w6 ⟨rfl, hf6⟩))
            go_ret
            exact ⟨rfl, (HS.out.2.1.trans (hf6.mono (fun _ _ e => e.elim))).below (fun k hk e => by omega)⟩
        · have hlt2 : ¬ (i : Int) < (n : Int) := by omega
          have hma := HMA.out
          have K1 := yLast_in g mb T wr HS.out.1
          rw [HS.out.2.2.th] at K1
          have K2 : ∀ own, Calls Try.prog 18 #[.pointer (some ⟨g, 0, none⟩), .bool own] wr fun e w' => e = .returned (.int .i64 (if own then (m : Int) else (op : Int))) ∧ wr = w' := fun own => by
            refine (yOpen_in g mb T own wr HS.out.1).mono ?_
            rintro e w' ⟨rfl, rfl⟩
            cases own
            · rw [HS.out.2.2.peer]; exact ⟨rfl, rfl⟩
            · rw [HS.out.2.2.own]; exact ⟨rfl, rfl⟩
          go_wp2_with (first | (go_at_call 19; refine K1.mono ?_; clear K1; rintro e w' ⟨rfl, rfl⟩) | (go_at_call 18; refine (K2 _).mono ?_; rintro e w' ⟨rfl, rfl⟩) | (go_at_call 11; refine (yawake_in _).mono ?_; rintro e w6 ⟨rfl, hf6⟩))
          go_ret
          exact ⟨rfl, (HS.out.2.1.trans (hf6.mono (fun _ _ e => e.elim))).below (fun k hk e => by omega)⟩
theorem numbers_walk (sv : Bool) (a : Nat) (q : Option Addr) (c n : Nat) (L : List Int) (w : World) (ha : a ≤ 255) (hI : Ints10 w q c L) (hl : L.length = n) : Calls Try.prog 8 #[.bool sv, .int .u8 (a : Int), .slice q n c] w fun e w' => e = .returned (.bool true) ∧ Below w.heap.size w w' := by
  cases sv
  · exact numbers_false a q c n L w ha hI hl
  · exact numbers_true a q c n L w ha hI hl
end Go.Proofs.Ytahlhkpabkplfaa
