/- The library's error, out of what a row lays. -/
import Derived.Test.YtplggcfoadjffaaGreatDoorOg
import Derived.Stop.LaidErr
import Derived.MakeChecks
import Derived.Test.YtplggcfoadjffaaGreatDoorL13
import Derived.Test.YtplggcfoadjffaaGreatDoorMXt
import Derived.Test.YtplggcfoadjffaaGreatDoorWd
namespace Go.Proofs.YtplggcfoadjffaaGreatDoor
open Go.RowKit
set_option maxRecDepth 100000
set_option linter.unusedVariables false

theorem gES : Tryz.prog.globalNamed "strconv.ErrSyntax" = some (oAtoiC_ren.g 15) := by kernel_rfl
theorem gESType : (Tryz.prog.globals[oAtoiC_ren.g 15]?).map (·.type) = some 73 := by kernel_rfl
theorem cellsES : Tryz.prog.cellsOf 151 = 1 := by kernel_rfl
theorem cells9 : Tryz.prog.cellsOf 9 = 1 := by kernel_rfl
/-- The type's name, out of what is laid. -/
def nameES : String := match (Rows.laid_strconv_ErrSyntax : DataW Unit) with | .iface n _ => n | _ => default
theorem rowES (u : TypeId) (h : Tryz.prog.typeName? 3 u = some nameES) : u = 149 :=
  typeName_ptr_named (nm := "errors.errorString") (by kernel_rfl) (by kernel_rfl) (by decide) u (h.trans (congrArg some (by kernel_rfl)))
theorem err_laid {r : List (String × DataW Unit)} {W : World} (h : laidMet Tryz.prog (("strconv.ErrSyntax", Rows.laid_strconv_ErrSyntax) :: r) W) : ErrAt W := by
  obtain ⟨a0, s0, hv0, -, -, -⟩ := laid_sentinel h gES gESType Tryz.underlying73 rowES Tryz.underlying149 Tryz.underlying151 rfl rfl Tryz.underlying9 cellsES cells9
  exact ⟨_, _, by have h0 := World.var?_cell gES hv0 0; simpa using h0⟩
end Go.Proofs.YtplggcfoadjffaaGreatDoor
/- How long a list of headers that came in is at most; how bytes that came in read; the table of tens, out of what a row lays. -/
namespace Go.Proofs.YtplggcfoadjffaaGreatDoor
open Go.ChangeShapes Go.WideShapes Go.ChangeAt Go.RowKit Go.Deep Go.Joins
set_option linter.unusedVariables false
set_option maxRecDepth 100000
set_option maxHeartbeats 4000000

theorem hl_bound {H : Type} {enc : TypeId × Value → H} {W : World} {sp : Nat → Bool} {hd : Bool} {fuel : Nat} {cs : List Value} {x : DataW H × List MemPlace} {q : Option Addr} {len c : Nat}
    (hf : DataW.trod enc Tryz.prog W 0 sp hd fuel 22 cs = some x) (hw : ∀ y ∈ x.1.weights Tryz.prog 22, y ≤ reachBytes) (e : cs = [.slice q len c]) : len * 40 + 4096 ≤ 2 ^ 47 := by
  rcases open_slice Tryz.underlying22 hf with ⟨hcs, _⟩ | ⟨a, n, cap, m, k, D, Pl, hcs, _, hl, hm, hmm, hx, hcell⟩
  · rw [hcs] at e
    cases e
    simp
  · rw [hcs] at e
    cases e
    have hBy : Tryz.prog.bytesOf 35 = 40 := by kernel_rfl
    rw [hx] at hw
    dsimp only at hw
    have := hw (((List.range len).map D).length * 40 + ((List.range (m - len)).map fun j => D (len + j)).length * 40) (by simp only [DataW.weights, Tryz.underlying22, hBy, List.mem_cons]; left; rw [Nat.add_mul])
    simp at this
    have hr : reachBytes = 140737488351232 := rfl
    omega
theorem hl_tight {H : Type} {enc : TypeId × Value → H} {W : World} {sp : Nat → Bool} {hd : Bool} {u : Value} {d : DataW H} {p : List MemPlace} {ts : List TypeId} {ds : List (DataW H)} {q : Option Addr} {len c : Nat}
    (h : DataW.Trod enc Tryz.prog W 0 sp hd 22 u d p) (hsz : (DataW.weightsEach Tryz.prog ts ds).all (· ≤ reachBytes) = true) {j : Nat} (ht : ts[j]? = some 22) (hds : ds[j]? = some d) (e : u = .slice q len c) : len * 40 + 4096 ≤ 2 ^ 47 := by
  obtain ⟨fuel, hf⟩ := h
  have hw : ∀ x ∈ d.weights Tryz.prog 22, x ≤ reachBytes := fun x hx => of_decide_eq_true (List.all_eq_true.1 hsz x (DataW.weights_mem_each ht hds x hx))
  subst e
  exact hl_bound hf hw rfl
theorem tabD : (Rows.laid_internal_strconv_uint64pow10 : DataW Unit) = Lib.tabData .u64 Lib.pow10Tab := by kernel_rfl
theorem pow_laid {r : List (String × DataW Unit)} {W : World} (h : laidMet Tryz.prog ((nmP, Rows.laid_internal_strconv_uint64pow10) :: r) W) : PowAt W := by
  rw [tabD] at h
  obtain ⟨g, hg⟩ := gP
  have hg2 : Tryz.prog.globalNamed nmP = some (oItoa_ren.g 17) := by kernel_rfl
  exact Lib.tabIs_of_head (g := oItoa_ren.g 17) (n := 20) (t := 132) (e := 114) hg2 (by kernel_rfl) Tryz.underlying132 Tryz.underlying114 (by kernel_rfl) (by kernel_rfl) h
theorem u8_nat {a : Int} (h : (Lit.int .u8 a).wf = true) : ∃ k : Nat, a = (k : Int) ∧ k ≤ 255 := by
  have h2 : IntKind.u8.min ≤ a ∧ a ≤ IntKind.u8.max := by simpa [Lit.wf] using h
  have h3 : (0 : Int) ≤ a ∧ a ≤ 255 := h2
  exact ⟨a.toNat, by omega, by omega⟩
theorem bytes_core {H : Type} {enc : TypeId × Value → H} {W : World} {sp : Nat → Bool} {hd : Bool} {fuel : Nat} {cs : List Value} {x : DataW H × List MemPlace}
    (hf : DataW.trod enc Tryz.prog W 0 sp hd fuel 31 cs = some x) (hw : ∀ y ∈ x.1.weights Tryz.prog 31, y ≤ reachBytes) :
    ∃ (q : Option Addr) (c : Nat) (X : List UInt8), cs = [.slice q X.length c] ∧ SrcAt W q X ∧ X.length < 2 ^ 47 ∧ X.length ≤ c := by
  rcases open_slice Tryz.underlying31 hf with ⟨hcs, _⟩ | ⟨a, n, cap, m, k, D, Pl, hcs, _, hl, hm, hmm, hx, hcell⟩
  · exact ⟨none, 0, [], hcs, SrcAt.nil _ _, by simp, by simp⟩
  · subst hcs
    have hr := reach_lt
    have hlm : n ≤ m := by rw [hmm]; split <;> omega
    have hC : Tryz.prog.cellsOf 5 = 1 := by kernel_rfl
    have hBy : Tryz.prog.bytesOf 5 = 1 := by kernel_rfl
    rw [hC] at hcell
    rw [hx] at hw
    dsimp only at hw
    have hfew : n < 2 ^ 47 := by
      have := hw (((List.range n).map D).length * 1 + ((List.range (m - n)).map fun j => D (n + j)).length * 1) (by simp only [DataW.weights, Tryz.underlying31, hBy, List.mem_cons]; left; rw [Nat.add_mul])
      simp at this
      omega
    obtain ⟨O, hO⟩ := choose_lt (α := UInt8) (n := n) (p := fun r x => W.cell? (a.add (r * 1)) = some (.int .u8 x.toNat)) (fun r hr' => by
      obtain ⟨cs', h1, h2⟩ := hcell r (by omega)
      obtain ⟨k2, e2, hy2, wf2⟩ := DataW.trod_int Tryz.underlying5 h2
      subst e2
      obtain ⟨k3, rfl, hk3⟩ := u8_nat wf2
      refine ⟨UInt8.ofNat k3, ?_⟩
      have := cells_at h1 (j := 0) (v := .int .u8 (k3 : Int)) rfl
      rw [show (a.add (r * 1)).add 0 = a.add (r * 1) from by unfold Addr.add; simp] at this
      rw [this]
      simp
      omega)
    have hlen : ((List.range n).map O).length = n := by simp
    refine ⟨_, cap, (List.range n).map O, by rw [hlen], ?_, by rw [hlen]; exact hfew, by rw [hlen]; exact hl⟩
    intro r c hr'
    simp only [List.getElem?_map, Option.map_eq_some_iff] at hr'
    obtain ⟨r', hr1, rfl⟩ := hr'
    obtain ⟨hrn, rfl⟩ : r < n ∧ r = r' := by
      obtain ⟨h1, h2⟩ := List.getElem?_eq_some_iff.1 hr1
      simp at h1 h2
      exact ⟨h1, h2⟩
    have := hO r hrn
    rw [Nat.mul_one] at this
    exact ⟨a, rfl, this⟩
theorem bytes_open {H : Type} {enc : TypeId × Value → H} {W : World} {sp : Nat → Bool} {hd : Bool} {r : Reach} {b0 : Nat} {u : Value} {d : DataW H} {p : List MemPlace} {ts : List TypeId} {ds : List (DataW H)}
    (hv : Value.okWide Tryz.prog W r b0 31 u) (h : DataW.Trod enc Tryz.prog W 0 sp hd 31 u d p) (hsz : (DataW.weightsEach Tryz.prog ts ds).all (· ≤ reachBytes) = true) {j : Nat} (ht : ts[j]? = some 31) (hds : ds[j]? = some d) :
    ∃ (q : Option Addr) (c : Nat) (X : List UInt8), u = .slice q X.length c ∧ SrcAt W q X ∧ X.length < 2 ^ 47 ∧ X.length ≤ c := by
  obtain ⟨q, n, c, rfl⟩ := okWide_slice Tryz.underlying31 hv
  obtain ⟨fuel, hf⟩ := h
  have hw : ∀ x ∈ d.weights Tryz.prog 31, x ≤ reachBytes := fun x hx => of_decide_eq_true (List.all_eq_true.1 hsz x (DataW.weights_mem_each ht hds x hx))
  obtain ⟨q', c', X, hcs, hl⟩ := bytes_core hf hw
  simp [Value.cells] at hcs
  obtain ⟨rfl, rfl, rfl⟩ := hcs
  exact ⟨_, _, X, rfl, hl⟩
end Go.Proofs.YtplggcfoadjffaaGreatDoor
/- How slices of headers read, and of what bulk they are. -/
namespace Go.Proofs.YtplggcfoadjffaaGreatDoor
open Go.ChangeShapes Go.WideShapes Go.ChangeAt Go.RowKit Go.Deep Go.Joins
set_option linter.unusedVariables false
set_option maxRecDepth 100000
set_option maxHeartbeats 4000000

theorem bulk_map {H : Type} {O : Nat → Hd} {D : Nat → DataW H} : ∀ {rs : List Nat}, (∀ r ∈ rs, (O r).2.1.size + 2 ≤ Rows.uptoBulk (D r)) → bulkV (rs.map O) ≤ Rows.uptoBulkAll (rs.map D)
  | [], _ => by simp [bulkV]
  | r :: rs, h => by
    have h1 := h r (by simp)
    have h2 := bulk_map (rs := rs) (fun x hx => h x (by simp [hx]))
    simp only [List.map_cons, bulkV, Rows.uptoBulkAll]
    omega
theorem hlB_core {H : Type} {enc : TypeId × Value → H} {W : World} {sp : Nat → Bool} {hd : Bool} {fuel : Nat} {cs : List Value} {x : DataW H × List MemPlace}
    (hf : DataW.trod enc Tryz.prog W 0 sp hd fuel 22 cs = some x) (hw : ∀ y ∈ x.1.weights Tryz.prog 22, y ≤ reachBytes) :
    ∃ (q : Option Addr) (c : Nat) (l : List (ByteArray × ByteArray × Bool)), cs = [.slice q l.length c] ∧ HL W q c l ∧ bulkV l ≤ Rows.uptoBulk x.1 := by
  rcases open_slice Tryz.underlying22 hf with ⟨hcs, _⟩ | ⟨a, n, cap, m, k, D, Pl, hcs, _, hl, hm, hmm, hx, hcell⟩
  · exact ⟨none, 0, [], hcs, HL.nil W, by simp [bulkV]⟩
  · subst hcs
    have hr := reach_lt
    have hlm : n ≤ m := by rw [hmm]; split <;> omega
    have hC : Tryz.prog.cellsOf 35 = 3 := by kernel_rfl
    have hBy : Tryz.prog.bytesOf 35 = 40 := by kernel_rfl
    rw [hC] at hcell
    rw [hx] at hw
    dsimp only at hw
    have hfew : n * 40 < 2 ^ 47 := by
      have := hw (((List.range n).map D).length * 40 + ((List.range (m - n)).map fun j => D (n + j)).length * 40) (by simp only [DataW.weights, Tryz.underlying22, hBy, List.mem_cons]; left; rw [Nat.add_mul])
      simp at this
      omega
    obtain ⟨O, hO⟩ := choose_lt (α := ByteArray × ByteArray × Bool) (n := n) (p := fun r x => W.cell? (a.add (r * 3)) = some (.string x.1) ∧ W.cell? (a.add (r * 3 + 1)) = some (.string x.2.1) ∧ W.cell? (a.add (r * 3 + 2)) = some (.bool x.2.2) ∧ x.1.size < 2 ^ 47 ∧ x.2.1.size < 2 ^ 47 ∧ D r = .agg [.lit (.string x.1.data.toList), .lit (.string x.2.1.data.toList), .lit (.bool x.2.2)]) (fun r hr' => by
      obtain ⟨cs', h1, h2⟩ := hcell r (by omega)
      obtain ⟨y0, y1, y2, k2, hy, hcl, t0, t1, t2⟩ := trod_struct3 Tryz.underlying35 h2
      obtain ⟨x2, e2, hy2, _⟩ := DataW.trod_string Tryz.underlying9 t0
      obtain ⟨x3, e3, hy3, _⟩ := DataW.trod_string Tryz.underlying9 t1
      obtain ⟨x4, e4, hy4⟩ := DataW.trod_bool Tryz.underlying4 t2
      have c9 : Tryz.prog.cellsOf 9 = 1 := by kernel_rfl
      have c4 : Tryz.prog.cellsOf 4 = 1 := by kernel_rfl
      rw [hC] at hcl
      obtain ⟨a0, a1, a2, rfl⟩ : ∃ a0 a1 a2, cs' = [a0, a1, a2] := by
        match cs', hcl with
        | [a0, a1, a2], _ => exact ⟨a0, a1, a2, rfl⟩
      simp [c9, c4] at e2 e3 e4
      subst e2; subst e3; subst e4
      have hin : D r ∈ (List.range n).map D := List.mem_map.2 ⟨r, List.mem_range.2 hr', rfl⟩
      simp only [Prod.mk.injEq] at hy
      have hD : D r = .agg [.lit (.string x2.data.toList), .lit (.string x3.data.toList), .lit (.bool x4)] := by
        rw [hy.1, hy2, hy3, hy4]
      have hall : ∀ k ∈ [x2.data.toList.length, x3.data.toList.length], k ≤ reachBytes := fun k hk => hw k (by
        simp only [DataW.weights, Tryz.underlying22, List.mem_cons, List.mem_append]
        exact .inr (.inl (weightsAll_in hin (by rw [hD]; exact hdr_sized k hk))))
      have q2 := hall _ (List.mem_cons_self ..)
      have q3 := hall x3.data.toList.length (by simp)
      have w2 : x2.data.toList.length = x2.size := by rw [Array.length_toList]; rfl
      have w3 : x3.data.toList.length = x3.size := by rw [Array.length_toList]; rfl
      refine ⟨(x2, x3, x4), ?_, ?_, ?_, by show x2.size < _; omega, by show x3.size < _; omega, hD⟩
      · have := cells_at h1 (j := 0) (v := .string x2) rfl; rwa [add_add] at this
      · have := cells_at h1 (j := 1) (v := .string x3) rfl; rwa [add_add] at this
      · have := cells_at h1 (j := 2) (v := .bool x4) rfl; rwa [add_add] at this)
    obtain ⟨b, o, spot⟩ := a
    have hlen : ((List.range n).map O).length = n := by simp
    refine ⟨_, cap, (List.range n).map O, by rw [hlen], ⟨by rw [hlen]; exact hl, hm, by rw [hlen]; exact hfew, fun r h hr' => ?_⟩, ?_⟩
    rotate_left
    · rw [hx]
      show _ ≤ Rows.uptoBulk (DataW.slice ((List.range n).map D) ((List.range (m - n)).map fun j => D (n + j)))
      rw [Rows.uptoBulk]
      have h9 := bulk_map (rs := List.range n) (O := O) (D := D) (fun r hr9 => by
        have h8 := (hO r (List.mem_range.1 hr9)).2.2.2.2.2
        rw [h8]
        simp only [Rows.uptoBulk, Rows.uptoBulkAll]
        have : (O r).2.1.data.toList.length = (O r).2.1.size := by rw [Array.length_toList]; rfl
        omega)
      omega
    simp only [List.getElem?_map, Option.map_eq_some_iff] at hr'
    obtain ⟨r', hr1, rfl⟩ := hr'
    obtain ⟨hrn, rfl⟩ : r < n ∧ r = r' := by
      obtain ⟨h1, h2⟩ := List.getElem?_eq_some_iff.1 hr1
      simp at h1 h2
      exact ⟨h1, h2⟩
    obtain ⟨h0, h1, h2, h5, h6, -⟩ := hO r hrn
    have hspot : spot = none := spot_none (hO 0 (by omega)).1
    subst hspot
    have hadd : ∀ j, (⟨b, o, none⟩ : Addr).add j = ⟨b, o + j, none⟩ := fun j => by unfold Addr.add; split <;> simp_all
    rw [hadd] at h0 h1 h2
    exact ⟨b, o, rfl, World.block_lt_of_cell? _ _ h0, h0, h1, h2, h5, h6⟩
theorem hlB_open {H : Type} {enc : TypeId × Value → H} {W : World} {sp : Nat → Bool} {hd : Bool} {r : Reach} {b0 : Nat} {u : Value} {d : DataW H} {p : List MemPlace} {ts : List TypeId} {ds : List (DataW H)}
    (hv : Value.okWide Tryz.prog W r b0 22 u) (h : DataW.Trod enc Tryz.prog W 0 sp hd 22 u d p) (hsz : (DataW.weightsEach Tryz.prog ts ds).all (· ≤ reachBytes) = true) {j : Nat} (ht : ts[j]? = some 22) (hds : ds[j]? = some d) :
    ∃ (q : Option Addr) (c : Nat) (l : List (ByteArray × ByteArray × Bool)), u = .slice q l.length c ∧ HL W q c l ∧ bulkV l ≤ Rows.uptoBulk d := by
  obtain ⟨q, n, c, rfl⟩ := okWide_slice Tryz.underlying22 hv
  obtain ⟨fuel, hf⟩ := h
  have hw : ∀ x ∈ d.weights Tryz.prog 22, x ≤ reachBytes := fun x hx => of_decide_eq_true (List.all_eq_true.1 hsz x (DataW.weights_mem_each ht hds x hx))
  obtain ⟨q', c', l, hcs, hl⟩ := hlB_core hf hw
  simp [Value.cells] at hcs
  obtain ⟨rfl, rfl, rfl⟩ := hcs
  exact ⟨_, _, l, rfl, hl⟩

end Go.Proofs.YtplggcfoadjffaaGreatDoor
