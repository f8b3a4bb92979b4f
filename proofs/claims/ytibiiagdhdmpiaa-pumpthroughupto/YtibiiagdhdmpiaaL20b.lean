/- How arguments read, where they are not many: bytes, lists of bytes, headers. -/
import Derived.Test.YtibiiagdhdmpiaaL20
namespace Go.Proofs.Ytibiiagdhdmpiaa
open Go.ChangeShapes Go.WideShapes Go.ChangeAt Go.RowKit Go.Deep Go.Joins
set_option linter.unusedVariables false
set_option maxRecDepth 100000
set_option maxHeartbeats 4000000

theorem bulk_pos {H : Type} (d : DataW H) : 1 ≤ Rows.uptoBulk d := by
  cases d with
  | lit l => cases l <;> simp [Rows.uptoBulk]
  | _ => simp [Rows.uptoBulk]
theorem many_le {H : Type} : ∀ l : List (DataW H), l.length ≤ Rows.uptoBulkAll l
  | [] => by simp [Rows.uptoBulkAll]
  | d :: r => by
    have h1 := bulk_pos d
    have h2 := many_le r
    simp only [List.length_cons, Rows.uptoBulkAll]
    omega
theorem bulk_in {H : Type} {d : DataW H} : ∀ {l : List (DataW H)}, d ∈ l → Rows.uptoBulk d ≤ Rows.uptoBulkAll l
  | [], h => by simp at h
  | a :: r, h => by
    simp only [Rows.uptoBulkAll]
    rcases List.mem_cons.1 h with rfl | h
    · omega
    · have := bulk_in h
      omega
/-- Bytes that came in. -/
theorem bytes_bulk {H : Type} {enc : TypeId × Value → H} {W : World} {sp : Nat → Bool} {hd : Bool} {fuel : Nat} {cs : List Value} {x : DataW H × List MemPlace}
    (hf : DataW.trod enc Try.prog W 0 sp hd fuel 31 cs = some x) (hw : Rows.uptoBulk x.1 ≤ 1048576) :
    ∃ (q : Option Addr) (c : Nat) (X : List UInt8), cs = [.slice q X.length c] ∧ SrcAt W q X ∧ X.length ≤ 1048576 ∧ X.length ≤ c := by
  rcases open_slice Try.underlying31 hf with ⟨hcs, _⟩ | ⟨a, n, cap, m, k, D, Pl, hcs, _, hl, hm, hmm, hx, hcell⟩
  · exact ⟨none, 0, [], hcs, SrcAt.nil _ _, by simp, by simp⟩
  · subst hcs
    have hlm : n ≤ m := by rw [hmm]; split <;> omega
    have hC : Try.prog.cellsOf 5 = 1 := by kernel_rfl
    rw [hC] at hcell
    rw [hx] at hw
    dsimp only at hw
    have hfew : n ≤ 1048576 := by
      simp only [Rows.uptoBulk] at hw
      have := many_le ((List.range n).map D)
      simp at this
      omega
    obtain ⟨O, hO⟩ := choose_lt (α := UInt8) (n := n) (p := fun r x => W.cell? (a.add (r * 1)) = some (.int .u8 x.toNat)) (fun r hr' => by
      obtain ⟨cs', h1, h2⟩ := hcell r (by omega)
      obtain ⟨k2, e2, hy2, wf2⟩ := DataW.trod_int Try.underlying5 h2
      subst e2
      obtain ⟨k3, rfl, hk3⟩ := u8_nat wf2
      refine ⟨UInt8.ofNat k3, ?_⟩
      have := cells_at h1 (j := 0) (v := .int .u8 (k3 : Int)) rfl
      rw [show (a.add (r * 1)).add 0 = a.add (r * 1) from by unfold Addr.add; simp] at this
      rw [this]
      simp
      omega)
    have hlen : ((List.range n).map O).length = n := by simp
    refine ⟨_, cap, (List.range n).map O, by rw [hlen], ?_, by rw [hlen]; exact hfew, by rw [hlen]; exact hl⟩
    intro r c hr'
    simp only [List.getElem?_map, Option.map_eq_some_iff] at hr'
    obtain ⟨r', hr1, rfl⟩ := hr'
    obtain ⟨hrn, rfl⟩ : r < n ∧ r = r' := by
      obtain ⟨h1, h2⟩ := List.getElem?_eq_some_iff.1 hr1
      simp at h1 h2
      exact ⟨h1, h2⟩
    have := hO r hrn
    rw [Nat.mul_one] at this
    exact ⟨a, rfl, this⟩
theorem chunks_bulk {H : Type} {enc : TypeId × Value → H} {W : World} {sp : Nat → Bool} {hd : Bool} {fuel : Nat} {cs : List Value} {x : DataW H × List MemPlace}
    (hf : DataW.trod enc Try.prog W 0 sp hd fuel 43 cs = some x) (hw : Rows.uptoBulk x.1 ≤ 1048576) :
    ∃ (q : Option Addr) (c : Nat) (L : List (List UInt8)), cs = [.slice q L.length c] ∧ ChunksAt W q c L ∧ L.length ≤ 1048576 := by
  rcases open_slice Try.underlying43 hf with ⟨hcs, _⟩ | ⟨a, n, cap, m, k, D, Pl, hcs, _, hl, hm, hmm, hx, hcell⟩
  · exact ⟨none, 0, [], hcs, ⟨by simp, by simp, fun r b hr => by simp at hr⟩, by simp⟩
  · subst hcs
    have hr := reach_lt
    have hlm : n ≤ m := by rw [hmm]; split <;> omega
    have hC : Try.prog.cellsOf 31 = 1 := by kernel_rfl
    have hBy : Try.prog.bytesOf 31 = 24 := by kernel_rfl
    rw [hC] at hcell
    rw [hx] at hw
    dsimp only at hw
    have hfew1 : n ≤ 1048576 := by
      simp only [Rows.uptoBulk] at hw
      have := many_le ((List.range n).map D)
      simp at this
      omega
    have hfew : n * 24 < 2 ^ 47 := by omega
    obtain ⟨O, hO⟩ := choose_lt (α := Option Addr × Nat × List UInt8) (n := n) (p := fun r x => W.cell? (a.add (r * 1)) = some (.slice x.1 x.2.2.length x.2.1) ∧ SrcAt W x.1 x.2.2 ∧ x.2.2.length < 2 ^ 47 ∧ x.2.2.length ≤ x.2.1) (fun r hr' => by
      obtain ⟨cs', h1, h2⟩ := hcell r (by omega)
      have hin : D r ∈ (List.range n).map D := List.mem_map.2 ⟨r, List.mem_range.2 hr', rfl⟩
      obtain ⟨q2, c2, X2, e2, hX2, hn2, hc2⟩ := bytes_bulk h2 (by
        show Rows.uptoBulk (D r) ≤ 1048576
        have h8 := bulk_in hin
        simp only [Rows.uptoBulk] at hw
        omega)
      subst e2
      refine ⟨(q2, c2, X2), ?_, hX2, by show X2.length < 2 ^ 47; omega, hc2⟩
      have := cells_at h1 (j := 0) (v := .slice q2 X2.length c2) rfl
      rw [show (a.add (r * 1)).add 0 = a.add (r * 1) from by unfold Addr.add; simp] at this
      exact this)
    obtain ⟨b, o, spot⟩ := a
    have hlen : ((List.range n).map fun r => (O r).2.2).length = n := by simp
    refine ⟨_, cap, (List.range n).map fun r => (O r).2.2, by rw [hlen], ⟨by rw [hlen]; exact hl, by rw [hlen]; exact hfew, fun r z hr' => ?_⟩, by rw [hlen]; exact hfew1⟩
    simp only [List.getElem?_map, Option.map_eq_some_iff] at hr'
    obtain ⟨r', hr1, rfl⟩ := hr'
    obtain ⟨hrn, rfl⟩ : r < n ∧ r = r' := by
      obtain ⟨h1, h2⟩ := List.getElem?_eq_some_iff.1 hr1
      simp at h1 h2
      exact ⟨h1, h2⟩
    obtain ⟨h0, h1⟩ := hO r hrn
    have hspot : spot = none := spot_none1 (hO 0 (by omega)).1
    subst hspot
    rw [add_none, Nat.mul_one] at h0
    exact ⟨b, o, (O r).1, (O r).2.1, rfl, World.block_lt_of_cell? _ _ h0, h0, h1⟩
theorem hl_bulk {H : Type} {enc : TypeId × Value → H} {W : World} {sp : Nat → Bool} {hd : Bool} {fuel : Nat} {cs : List Value} {x : DataW H × List MemPlace}
    (hf : DataW.trod enc Try.prog W 0 sp hd fuel 32 cs = some x) (hw : Rows.uptoBulk x.1 ≤ 1048576) :
    ∃ (q : Option Addr) (c : Nat) (l : List (ByteArray × ByteArray × Bool)), cs = [.slice q l.length c] ∧ HL W q c l := by
  rcases open_slice Try.underlying32 hf with ⟨hcs, _⟩ | ⟨a, n, cap, m, k, D, Pl, hcs, _, hl, hm, hmm, hx, hcell⟩
  · exact ⟨none, 0, [], hcs, HL.nil W⟩
  · subst hcs
    have hr := reach_lt
    have hlm : n ≤ m := by rw [hmm]; split <;> omega
    have hC : Try.prog.cellsOf 71 = 3 := by kernel_rfl
    have hBy : Try.prog.bytesOf 71 = 40 := by kernel_rfl
    rw [hC] at hcell
    rw [hx] at hw
    dsimp only at hw
    have hfew1 : n ≤ 1048576 := by
      simp only [Rows.uptoBulk] at hw
      have := many_le ((List.range n).map D)
      simp at this
      omega
    have hfew : n * 40 < 2 ^ 47 := by omega
    obtain ⟨O, hO⟩ := choose_lt (α := ByteArray × ByteArray × Bool) (n := n) (p := fun r x => W.cell? (a.add (r * 3)) = some (.string x.1) ∧ W.cell? (a.add (r * 3 + 1)) = some (.string x.2.1) ∧ W.cell? (a.add (r * 3 + 2)) = some (.bool x.2.2) ∧ x.1.size < 2 ^ 47 ∧ x.2.1.size < 2 ^ 47) (fun r hr' => by
      obtain ⟨cs', h1, h2⟩ := hcell r (by omega)
      obtain ⟨y0, y1, y2, k2, hy, hcl, t0, t1, t2⟩ := trod_struct3 Try.underlying71 h2
      obtain ⟨x2, e2, hy2, _⟩ := DataW.trod_string Try.underlying9 t0
      obtain ⟨x3, e3, hy3, _⟩ := DataW.trod_string Try.underlying9 t1
      obtain ⟨x4, e4, hy4⟩ := DataW.trod_bool Try.underlying4 t2
      have c9 : Try.prog.cellsOf 9 = 1 := by kernel_rfl
      have c4 : Try.prog.cellsOf 4 = 1 := by kernel_rfl
      rw [hC] at hcl
      obtain ⟨a0, a1, a2, rfl⟩ : ∃ a0 a1 a2, cs' = [a0, a1, a2] := by
        match cs', hcl with
        | [a0, a1, a2], _ => exact ⟨a0, a1, a2, rfl⟩
      simp [c9, c4] at e2 e3 e4
      subst e2; subst e3; subst e4
      have hin : D r ∈ (List.range n).map D := List.mem_map.2 ⟨r, List.mem_range.2 hr', rfl⟩
      simp only [Prod.mk.injEq] at hy
      have hD : D r = .agg [.lit (.string x2.data.toList), .lit (.string x3.data.toList), .lit (.bool x4)] := by
        rw [hy.1, hy2, hy3, hy4]
      have h8 := bulk_in hin
      rw [hD] at h8
      simp only [Rows.uptoBulk, Rows.uptoBulkAll] at hw h8
      have q2 : x2.data.toList.length ≤ 1048576 := by omega
      have q3 : x3.data.toList.length ≤ 1048576 := by omega
      have w2 : x2.data.toList.length = x2.size := by rw [Array.length_toList]; rfl
      have w3 : x3.data.toList.length = x3.size := by rw [Array.length_toList]; rfl
      refine ⟨(x2, x3, x4), ?_, ?_, ?_, by show x2.size < _; omega, by show x3.size < _; omega⟩
      · have := cells_at h1 (j := 0) (v := .string x2) rfl; rwa [add_add] at this
      · have := cells_at h1 (j := 1) (v := .string x3) rfl; rwa [add_add] at this
      · have := cells_at h1 (j := 2) (v := .bool x4) rfl; rwa [add_add] at this)
    obtain ⟨b, o, spot⟩ := a
    have hlen : ((List.range n).map O).length = n := by simp
    refine ⟨_, cap, (List.range n).map O, by rw [hlen], ⟨by rw [hlen]; exact hl, hm, by rw [hlen]; exact hfew, fun r h hr' => ?_⟩⟩
    simp only [List.getElem?_map, Option.map_eq_some_iff] at hr'
    obtain ⟨r', hr1, rfl⟩ := hr'
    obtain ⟨hrn, rfl⟩ : r < n ∧ r = r' := by
      obtain ⟨h1, h2⟩ := List.getElem?_eq_some_iff.1 hr1
      simp at h1 h2
      exact ⟨h1, h2⟩
    obtain ⟨h0, h1, h2, h5⟩ := hO r hrn
    have hspot : spot = none := spot_none (hO 0 (by omega)).1
    subst hspot
    have hadd : ∀ j, (⟨b, o, none⟩ : Addr).add j = ⟨b, o + j, none⟩ := fun j => by unfold Addr.add; split <;> simp_all
    rw [hadd] at h0 h1 h2
    exact ⟨b, o, rfl, World.block_lt_of_cell? _ _ h0, h0, h1, h2, h5⟩
theorem bytesB_open {H : Type} {enc : TypeId × Value → H} {W : World} {sp : Nat → Bool} {hd : Bool} {r : Reach} {b0 : Nat} {u : Value} {d : DataW H} {p : List MemPlace}
    (hv : Value.okWide Try.prog W r b0 31 u) (h : DataW.Trod enc Try.prog W 0 sp hd 31 u d p) (hw : Rows.uptoBulk d ≤ 1048576) :
    ∃ (q : Option Addr) (c : Nat) (X : List UInt8), u = .slice q X.length c ∧ SrcAt W q X ∧ X.length ≤ 1048576 ∧ X.length ≤ c := by
  obtain ⟨q, n, c, rfl⟩ := okWide_slice Try.underlying31 hv
  obtain ⟨fuel, hf⟩ := h
  obtain ⟨q', c', L, hcs, hl⟩ := bytes_bulk hf hw
  simp [Value.cells] at hcs
  obtain ⟨rfl, rfl, rfl⟩ := hcs
  exact ⟨_, _, L, rfl, hl⟩
theorem chunksB_open {H : Type} {enc : TypeId × Value → H} {W : World} {sp : Nat → Bool} {hd : Bool} {r : Reach} {b0 : Nat} {u : Value} {d : DataW H} {p : List MemPlace}
    (hv : Value.okWide Try.prog W r b0 43 u) (h : DataW.Trod enc Try.prog W 0 sp hd 43 u d p) (hw : Rows.uptoBulk d ≤ 1048576) :
    ∃ (q : Option Addr) (c : Nat) (L : List (List UInt8)), u = .slice q L.length c ∧ ChunksAt W q c L ∧ L.length ≤ 1048576 := by
  obtain ⟨q, n, c, rfl⟩ := okWide_slice Try.underlying43 hv
  obtain ⟨fuel, hf⟩ := h
  obtain ⟨q', c', L, hcs, hl⟩ := chunks_bulk hf hw
  simp [Value.cells] at hcs
  obtain ⟨rfl, rfl, rfl⟩ := hcs
  exact ⟨_, _, L, rfl, hl⟩
theorem hlS_open {H : Type} {enc : TypeId × Value → H} {W : World} {sp : Nat → Bool} {hd : Bool} {r : Reach} {b0 : Nat} {u : Value} {d : DataW H} {p : List MemPlace}
    (hv : Value.okWide Try.prog W r b0 32 u) (h : DataW.Trod enc Try.prog W 0 sp hd 32 u d p) (hw : Rows.uptoBulk d ≤ 1048576) :
    ∃ (q : Option Addr) (c : Nat) (l : List (ByteArray × ByteArray × Bool)), u = .slice q l.length c ∧ HL W q c l := by
  obtain ⟨q, n, c, rfl⟩ := okWide_slice Try.underlying32 hv
  obtain ⟨fuel, hf⟩ := h
  obtain ⟨q', c', L, hcs, hl⟩ := hl_bulk hf hw
  simp [Value.cells] at hcs
  obtain ⟨rfl, rfl, rfl⟩ := hcs
  exact ⟨_, _, L, rfl, hl⟩
end Go.Proofs.Ytibiiagdhdmpiaa
