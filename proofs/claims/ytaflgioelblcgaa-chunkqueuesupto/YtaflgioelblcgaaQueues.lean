/- Proved: aqueductlaw01.ChunkQueues returns true, and leaves its arguments as they were, for all parts and takes of bulk at most 1048576 (the second form of the statement). -/
import Derived.Test.YtaflgioelblcgaaS2
import Derived.Test.YtaflgioelblcgaaRows
import Derived.WalkKit
import Derived.ProofKit
import Derived.OpenShut
import Derived.ChangeOld
import Derived.Below
import Derived.JoinedCond
import Derived.Deep.Matrix
namespace Go.Proofs.Ytaflgioelblcgaa.chunkQueues
open Go.ChangeShapes Go.WideShapes Go.ChangeAt Go.RowKit Go.Deep
set_option linter.unusedVariables false

theorem own : ownKnob Try.prog.godebug = none := by kernel_rfl
theorem laidOut : laidOutB Try.prog = true := by kernel_rfl

theorem bulk_pos {H : Type} (d : DataW H) : 0 < Rows.uptoBulk d := by
  cases d with
  | lit l => cases l <;> simp [Rows.uptoBulk]
  | nil => simp [Rows.uptoBulk]
  | ptr d => simp [Rows.uptoBulk]
  | slice elems spare => simp [Rows.uptoBulk]
  | agg parts => simp [Rows.uptoBulk]
  | iface t d => simp [Rows.uptoBulk]
  | map entries => simp [Rows.uptoBulk]
  | held h => simp [Rows.uptoBulk]

theorem many_le {H : Type} (l : List (DataW H)) : l.length ≤ Rows.uptoBulkAll l := by
  induction l with
  | nil => simp [Rows.uptoBulkAll]
  | cons x r ih => have := bulk_pos x; simp only [Rows.uptoBulkAll, List.length_cons]; omega

theorem byte_of {z : Int} (hw : (Lit.int .u8 z).wf = true) : 0 ≤ z ∧ z ≤ 255 := by
  have h2 : IntKind.u8.min ≤ z ∧ z ≤ IntKind.u8.max := by simpa [Lit.wf] using hw
  exact ⟨h2.1, h2.2⟩

/-- A row of numbers that fit a byte, read as bytes. -/
theorem bytes_at {w : World} {a : Option Addr} {zs : List Int} {n : Nat} (hn : n ≤ zs.length) (hc : ∀ x, a = some x → ∀ i, i < zs.length → w.cell? (x.add i) = some (.int .u8 (zs.getD i 0))) (h0 : a = none → zs.length = 0) (hw : ∀ z ∈ zs, (Lit.int .u8 z).wf = true) :
    SrcAt w a ((zs.take n).map fun z => UInt8.ofNat z.toNat) := by
  intro j c hj
  simp only [List.getElem?_map, List.getElem?_take, Option.map_eq_some_iff] at hj
  obtain ⟨z, hz1, rfl⟩ := hj
  split at hz1
  · have hj2 : j < zs.length := (List.getElem?_eq_some_iff.1 hz1).1
    cases a with
    | none => have := h0 rfl; omega
    | some x =>
      have hb := byte_of (hw z (List.mem_of_getElem? hz1))
      refine ⟨x, rfl, ?_⟩
      rw [hc x rfl j hj2, List.getD_eq_getElem?_getD, hz1]
      simp
      omega
  · cases hz1


theorem row_bulk {H : Type} (a : Option Addr) (len : Nat) (zs : List Int) (hl : len ≤ zs.length) (h0 : a = none → len = 0) : len ≤ Rows.uptoBulk (intRow .u8 a len zs : DataW H) := by
  cases a with
  | none => have := h0 rfl; omega
  | some x =>
    have h9 := many_le (lits (H := H) .u8 (zs.take len))
    have h10 : (lits (H := H) .u8 (zs.take len)).length = len := by simp [lits]; omega
    simp only [intRow, Rows.uptoBulk]
    omega

theorem bulk_sum {H : Type} (f : Nat → DataW H) (Ln : Nat → Nat) : ∀ n, (∀ r, r < n → Ln r ≤ Rows.uptoBulk (f r)) → sumTo Ln n ≤ Rows.uptoBulkAll ((List.range n).map f) := by
  have hsnoc : ∀ (l : List (DataW H)) (d : DataW H), Rows.uptoBulkAll (l ++ [d]) = Rows.uptoBulkAll l + Rows.uptoBulk d := by
    intro l d
    induction l with
    | nil => simp [Rows.uptoBulkAll]
    | cons x r ih => rw [List.cons_append, Rows.uptoBulkAll, Rows.uptoBulkAll, ih]; omega
  intro n
  induction n with
  | zero => intro _; simp [sumTo]
  | succ n ih =>
    intro h
    rw [sumTo_succ, List.range_succ, List.map_append, List.map_singleton, hsnoc]
    have h1 := ih (fun r hr => h r (by omega))
    have h2 := h n (by omega)
    omega

theorem sumTo_mono (Ln : Nat → Nat) (k n : Nat) (h : k ≤ n) : sumTo Ln k ≤ sumTo Ln n := by
  induction n with
  | zero => obtain rfl : k = 0 := (by omega); exact Nat.le_refl _
  | succ n ih =>
    by_cases hk : k = n + 1
    · subst hk; exact Nat.le_refl _
    · rw [sumTo_succ]; have := ih (by omega); omega

theorem contract (H : Type) (enc : TypeId × Value → H) (W : World) (base : Nat) (args : Array Value) (ds gs : List (DataW H)) (before : List MemPlace)
    (hval : ∀ (j : Nat) t v, Try.f5.params[j]? = some t → args[j]? = some v → Value.okWide Try.prog W .any base t v)
    (hW : DataW.Whole enc Try.prog Try.f5.params.toList Rows.chunkQueuesSpec.vars false W args.toList ds gs before) (hk : Rows.uptoSmall H (ds ++ gs) = true) :
    Calls Try.prog 5 args W fun e W' => ∃ v, e = .returned v ∧ Rows.chunkQueuesSpec.post enc Try.prog Try.f5 false true false false W args v W' := by
  have hW' := hW
  obtain ⟨p, q, hA0, hV, rfl, hfz, hnd⟩ := hW
  have hA : DataW.TrodAll enc Try.prog W 0 (fun _ => true) true Try.f5.params.toList args.toList ds p := hA0
  rw [Try.params5] at hA hval
  obtain ⟨v1, vs1, d1, ds1, p1, q1, hargs, rfl, rfl, h1, r1⟩ := trodAll_cons hA
  obtain ⟨v2, vs2, d2, ds2, p2, q2, rfl, rfl, rfl, h2, r2⟩ := trodAll_cons r1
  obtain ⟨rfl, rfl, rfl⟩ := trodAll_nil r2
  obtain rfl : args = #[v1, v2] := by cases args; simp_all
  obtain ⟨rfl, rfl⟩ := trodVars_none hV
  obtain ⟨ap, np, pcap, rfl⟩ := okWide_slice Try.underlying39 (hval 0 39 v1 rfl rfl)
  obtain ⟨at', nt, tcap, rfl⟩ := okWide_slice Try.underlying43 (hval 1 43 v2 rfl rfl)
  have k1 := h1
  have k2 := h2
  have lt1 : ∀ x ∈ p1, x.block < W.heap.size := by obtain ⟨m, hm⟩ := k1; exact DataW.trod_lt m _ _ _ hm
  have lt2 : ∀ x ∈ p2, x.block < W.heap.size := by obtain ⟨m, hm⟩ := k2; exact DataW.trod_lt m _ _ _ hm
  have hbulk : Rows.uptoBulk d1 + Rows.uptoBulk d2 ≤ 1048576 := by
    have h : Rows.uptoBulkAll ([d1, d2] ++ []) ≤ 1048576 := of_decide_eq_true hk
    simp only [List.append_nil, Rows.uptoBulkAll] at h
    omega
  obtain ⟨pb, po, A, Ln, Cp, Bs, hP, hap, hnp, hsum⟩ : ∃ (pb po : Nat) (A : Nat → Option Addr) (Ln Cp : Nat → Nat) (Bs : Nat → List UInt8), PartsAt W pb po np A Ln Cp Bs ∧ (0 < np → ap = some ⟨pb, po, none⟩) ∧ np ≤ 1048576 ∧ ∀ k, k ≤ np → sumTo Ln k ≤ 1048576 := by
    obtain ⟨fuel, hf⟩ := h1
    rcases open_int_rows Try.underlying39 Try.underlying31 Try.underlying5 (by kernel_rfl) (by kernel_rfl) hf with ⟨hcs, _⟩ | ⟨x, l, c, A, Ln, Cp, Z, hcs, _, hl, hm, hx, hcell⟩
    · simp [Value.cells] at hcs
      obtain ⟨rfl, rfl, rfl⟩ := hcs
      exact ⟨0, 0, fun _ => none, fun _ => 0, fun _ => 0, fun _ => [], fun r hr => by omega, fun h => by omega, by omega, fun k hk => by obtain rfl : k = 0 := (by omega); simp [sumTo]⟩
    · simp [Value.cells] at hcs
      obtain ⟨rfl, rfl, rfl⟩ := hcs
      simp only [Prod.mk.injEq] at hx
      rw [hx.1] at hbulk
      simp only [Rows.uptoBulk] at hbulk
      have hnp : np ≤ 1048576 := by
        have h9 := many_le ((List.range np).map fun r => (intRow .u8 (A r) (Ln r) (Z r) : DataW H))
        simp only [List.length_map, List.length_range] at h9
        omega
      have hsum : sumTo Ln np ≤ 1048576 := by
        have h9 := bulk_sum (fun r => (intRow .u8 (A r) (Ln r) (Z r) : DataW H)) Ln np (fun r hr => by
          obtain ⟨e1, e2, e3, e4, e5, e6, e7⟩ := hcell r (by omega)
          exact row_bulk (A r) (Ln r) (Z r) (by omega) (fun h => by have := e6 h; omega))
        omega
      obtain ⟨pb, po, spot⟩ := x
      refine ⟨pb, po, A, Ln, Cp, fun r => ((Z r).take (Ln r)).map fun z => UInt8.ofNat z.toNat, fun r hr => ?_, fun h => ?_, hnp, fun k hk => Nat.le_trans (sumTo_mono Ln k np hk) hsum⟩
      · obtain ⟨e1, e2, e3, e4, e5, e6, e7⟩ := hcell r (by omega)
        have h0c := (hcell 0 (by omega)).1
        have hspot : spot = none := by simpa [Addr.add] using World.cell?_spot h0c
        subst hspot
        rw [add_none] at e1
        refine ⟨World.block_lt_of_cell? _ _ e1, e1, ?_, by simp; omega⟩
        exact bytes_at (by omega) (fun y hy i hi => (e7 y hy).2 i (by omega)) (fun h => by rw [e4]; exact e6 h) e5
      · have h0c := (hcell 0 (by omega)).1
        have hspot : spot = none := by simpa [Addr.add] using World.cell?_spot h0c
        subst hspot
        rfl
  obtain ⟨tb, to, Z, hT, hat, hnt⟩ : ∃ (tb to : Nat) (Z : Nat → Int), TakesAt W tb to nt Z ∧ (0 < nt → at' = some ⟨tb, to, none⟩) ∧ nt ≤ 1048576 := by
    obtain ⟨fuel, hf⟩ := h2
    rcases open_ints Try.underlying43 Try.underlying3 (by kernel_rfl) hf with ⟨hcs, _⟩ | ⟨x, l, c, zs, hcs, _, hl, hm, hz, hx, hcell, hwz⟩
    · simp [Value.cells] at hcs
      obtain ⟨rfl, rfl, rfl⟩ := hcs
      exact ⟨0, 0, fun _ => 0, fun r hr => by omega, fun h => by omega, by omega⟩
    · simp [Value.cells] at hcs
      obtain ⟨rfl, rfl, rfl⟩ := hcs
      simp only [Prod.mk.injEq] at hx
      have hz' : zs.length = tcap := by simpa using hz
      have hnt : nt ≤ 1048576 := by
        have h9 := many_le (lits (H := H) .i64 (zs.take nt))
        rw [hx.1] at hbulk
        have h10 : (lits (H := H) .i64 (zs.take nt)).length = nt := by simp [lits]; omega
        simp only [Rows.uptoBulk] at hbulk
        omega
      obtain ⟨tb, to, spot⟩ := x
      refine ⟨tb, to, fun r => zs.getD r 0, fun r hr => ?_, fun h => ?_, hnt⟩
      · have hspot : spot = none := by simpa [Addr.add] using World.cell?_spot (hcell 0 (by omega))
        subst hspot
        have e1 := hcell r (by omega)
        rw [add_none] at e1
        have hb : (zs.getD r 0) ≤ 9223372036854775807 := by
          have hw := hwz (zs.getD r 0) (by rw [List.getD_eq_getElem?_getD, List.getElem?_eq_getElem (by omega)]; exact List.getElem_mem _)
          have h2 : IntKind.i64.min ≤ zs.getD r 0 ∧ zs.getD r 0 ≤ IntKind.i64.max := by simpa [Lit.wf] using hw
          exact h2.2
        exact ⟨World.block_lt_of_cell? _ _ e1, e1, hb⟩
      · have hspot : spot = none := by simpa [Addr.add] using World.cell?_spot (hcell 0 (by omega))
        subst hspot
        rfl
  clear hA0 hbulk hk
  refine (walk ap pb po np pcap A Ln Cp Bs at' tb to nt tcap Z W hP hap hT hat hnp hnt hsum).mono fun e W' ⟨he, bel⟩ => ?_
  subst he
  exact ⟨_, rfl, _, _, _, [], _, [], hW', trodAll_mk1 (shut_bool Try.underlying4 _), (trodAll_cons_mk (Below.trod laidOut (by kernel_rfl) (of_decide_eq_true (by kernel_rfl)) k1 bel lt1) (trodAll_cons_mk (Below.trod laidOut (by kernel_rfl) (of_decide_eq_true (by kernel_rfl)) k2 bel lt2) trodAll_mk0)), rfl, bel.frame _, fun h => by cases h⟩

set_option maxRecDepth 100000 in
theorem lifted (os : Os) (started : os.Started) (H : Type) (enc : TypeId × Value → H) (F : Stop.Interp) :
    ReturnsInHanded {} Try.checked os 5 .any ((Rows.OpenSpec.upto Rows.chunkQueuesSpec).pre6 enc Try.prog Try.f5 Rows.chunkQueuesUptoRow.domain false) (((Rows.OpenSpec.upto Rows.chunkQueuesSpec).at F).post enc Try.prog Try.f5 false true false false) := by
  refine returnsInHanded_of_cond (C := Try.checked) (s := Rows.OpenSpec.upto Rows.chunkQueuesSpec) (k := Rows.uptoSmall) rfl own started (by kernel_rfl) Try.func5
    (OpenSpec.witness (enc := enc) (C := Try.checked) (s := Rows.OpenSpec.upto Rows.chunkQueuesSpec) (k := Rows.uptoSmall) rfl false ⟨#[], #[.slice none 0 0, .slice none 0 0], []⟩ 8 (by kernel_rfl) (by kernel_rfl) (by kernel_rfl)
      (x := ([.nil, .nil], [], [])) (by kernel_rfl) rfl (by kernel_rfl)) ?_
  intro W base args ds gs before hval hW _ hk _
  exact contract H enc W base args ds gs before hval hW hk

theorem proved : Rows.ChunkQueuesUptoSaid :=
  OpenClaim.holds_of_cond 5 Try.f5 rfl rfl rfl rfl rfl rfl rfl ⟨rfl, rfl, rfl, rfl, rfl⟩ rfl rfl rfl rfl rfl (by kernel_rfl) Try.func5 (by kernel_rfl)
    (of_decide_eq_true (by kernel_rfl)) (by unfold Func.isWrapper; first | (rw [if_pos (by decide +kernel)]; kernel_rfl) | (rw [if_neg (by decide +kernel)]; exact ⟨rfl, rfl⟩))
    (fun os started H enc _ F => lifted os started H enc F)
#print axioms proved
end Go.Proofs.Ytaflgioelblcgaa.chunkQueues
namespace Go.Proofs.Ytaflgioelblcgaa
theorem chunkQueues_holds : Rows.ChunkQueuesUptoSaid := chunkQueues.proved
end Go.Proofs.Ytaflgioelblcgaa
