/- Proved: aqueductlaw01.ChunkRings returns true, and leaves its script as it was, for every n and every script; no condition. -/
import Derived.Test.YtaflgioelblcgaaRin
import Derived.Test.YtaflgioelblcgaaRows
import Derived.WalkKit
import Derived.ProofKit
import Derived.OpenShut
import Derived.ChangeOld
import Derived.Below
import Derived.SizedLaws
import Derived.Deep.Slices
import Derived.Deep.Strs
namespace Go.Proofs.Ytaflgioelblcgaa.chunkRings
open Go.ChangeShapes Go.WideShapes Go.ChangeAt Go.RowKit Go.Deep
set_option linter.unusedVariables false

theorem own : ownKnob Try.prog.godebug = none := by kernel_rfl
theorem laidOut : laidOutB Try.prog = true := by kernel_rfl

theorem byte_of {z : Int} (hw : (Lit.int .u8 z).wf = true) : 0 ≤ z ∧ z ≤ 255 := by
  have h2 : IntKind.u8.min ≤ z ∧ z ≤ IntKind.u8.max := by simpa [Lit.wf] using hw
  exact ⟨h2.1, h2.2⟩

theorem bytes_at {w : World} {x : Addr} {zs : List Int} {n : Nat} (hn : n ≤ zs.length) (hc : ∀ i, i < zs.length → w.cell? (x.add i) = some (.int .u8 (zs.getD i 0))) (hw : ∀ z ∈ zs, (Lit.int .u8 z).wf = true) :
    SrcAt w (some x) ((zs.take n).map fun z => UInt8.ofNat z.toNat) := by
  intro j c hj
  simp only [List.getElem?_map, List.getElem?_take, Option.map_eq_some_iff] at hj
  obtain ⟨z, hz1, rfl⟩ := hj
  split at hz1
  · have hj2 : j < zs.length := (List.getElem?_eq_some_iff.1 hz1).1
    have hb := byte_of (hw z (List.mem_of_getElem? hz1))
    refine ⟨x, rfl, ?_⟩
    rw [hc j hj2, List.getD_eq_getElem?_getD, hz1]
    simp
    omega
  · cases hz1

theorem weights_all {H : Type} {P : Program} {e : TypeId} {d : DataW H} {n : Nat} : ∀ {l : List (DataW H)}, d ∈ l → n ∈ d.weights P e → n ∈ DataW.weightsAll P e l
  | x :: r, h, hn => by
    simp only [DataW.weightsAll, List.mem_append]
    rcases List.mem_cons.1 h with e | e
    · subst e; exact .inl hn
    · exact .inr (weights_all e hn)

theorem bytes5 : Try.prog.bytesOf 5 = 1 := by kernel_rfl
theorem reach_le : reachBytes ≤ 140737488355328 := by decide

/-- The bytes of the r-th call fit the reach. -/
theorem reach {H : Type} {d0 : DataW H} {n : Nat} {D : Nat → DataW H} {rest es sp : List (DataW H)} {e0 e1 : DataW H} {r : Nat}
    (h : (DataW.weightsEach Try.prog [3, 22] [d0, .slice ((List.range n).map D) rest]).all (· ≤ reachBytes) = true) (hr : r < n) (hD : D r = .agg [e0, e1, .slice es sp]) : es.length + sp.length ≤ 140737488355328 := by
  have hm : (es.length + sp.length) * Try.prog.bytesOf 5 ∈ DataW.weightsEach Try.prog [3, 22] [d0, .slice ((List.range n).map D) rest] := by
    refine DataW.weights_mem_each (j := 1) (t := 22) (d := .slice ((List.range n).map D) rest) rfl rfl _ ?_
    simp only [DataW.weights, Try.underlying22, List.mem_cons, List.mem_append]
    refine .inr (.inl (weights_all (d := D r) (List.mem_map.2 ⟨r, List.mem_range.2 hr, rfl⟩) ?_))
    rw [hD]
    simp [DataW.weights, DataW.weightsEach, Try.underlying33, Try.underlying31]
  have := List.all_eq_true.1 h _ hm
  rw [bytes5, Nat.mul_one] at this
  have h2 : es.length + sp.length ≤ reachBytes := by simpa using this
  exact Nat.le_trans h2 reach_le

theorem contract (H : Type) (enc : TypeId × Value → H) (W : World) (base : Nat) (args : Array Value) (ds gs : List (DataW H)) (before : List MemPlace)
    (hval : ∀ (j : Nat) t v, Try.f3.params[j]? = some t → args[j]? = some v → Value.okWide Try.prog W .any base t v)
    (hW : DataW.Whole enc Try.prog Try.f3.params.toList Rows.chunkRingsSpec.vars false W args.toList ds gs before)
    (hz : (DataW.weightsEach Try.prog (Try.f3.params.toList ++ Rows.chunkRingsSpec.plain.varTypes Try.prog) (ds ++ gs)).all (· ≤ reachBytes) = true) :
    Calls Try.prog 3 args W fun e W' => ∃ v, e = .returned v ∧ Rows.chunkRingsSpec.post enc Try.prog Try.f3 false true false false W args v W' := by
  have hW' := hW
  obtain ⟨p, q, hA0, hV, rfl, hfz, hnd⟩ := hW
  have hA : DataW.TrodAll enc Try.prog W 0 (fun _ => true) true Try.f3.params.toList args.toList ds p := hA0
  have hz' : (DataW.weightsEach Try.prog (Try.f3.params.toList ++ []) (ds ++ gs)).all (· ≤ reachBytes) = true := hz
  rw [Try.params3] at hA hval hz'
  obtain ⟨v0, vs0, d0, ds0, p0, q0, hargs, rfl, rfl, h0, r0⟩ := trodAll_cons hA
  obtain ⟨v1, vs1, d1, ds1, p1, q1, rfl, rfl, rfl, h1, r1⟩ := trodAll_cons r0
  obtain ⟨rfl, rfl, rfl⟩ := trodAll_nil r1
  obtain rfl : args = #[v0, v1] := by cases args; simp_all
  obtain ⟨rfl, rfl⟩ := trodVars_none hV
  obtain ⟨a0, rfl, rfl, rfl, w0⟩ := open_int Try.underlying3 (hval 0 3 v0 rfl rfl) h0
  obtain ⟨as', ns, scap, rfl⟩ := okWide_slice Try.underlying22 (hval 1 22 v1 rfl rfl)
  have k1 := h1
  have lt1 : ∀ x ∈ p1, x.block < W.heap.size := by obtain ⟨m, hm⟩ := k1; exact DataW.trod_lt m _ _ _ hm
  have hwalk : Calls Try.prog 3 #[.int .i64 a0, .slice as' ns scap] W fun e w' => e = .returned (.bool true) ∧ Below W.heap.size W w' := by
    by_cases hn : a0 < 0 ∨ 1048576 < a0
    · exact walk_bad a0 hn as' ns scap W
    · obtain ⟨n, rfl⟩ := Int.eq_ofNat_of_zero_le (show 0 ≤ a0 by omega)
      obtain ⟨fuel, hf⟩ := h1
      rcases open_slice Try.underlying22 hf with ⟨hcs, _⟩ | ⟨a, len, cap, m, fu, D, Pl, hcs, hb, hl, hm, hmm, hx, hel⟩
      · simp [Value.cells] at hcs
        obtain ⟨rfl, rfl, rfl⟩ := hcs
        exact walk_ok n (by omega) none 0 0 0 0 (fun _ => 0) (fun _ => 0) (fun _ => none) (fun _ => 0) (fun _ => 0) (fun _ => []) W (fun r hr => by omega) (fun h => by omega) (by omega)
      · simp [Value.cells] at hcs
        obtain ⟨rfl, rfl, rfl⟩ := hcs
        simp only [if_true] at hmm
        have hmm' := hmm.symm
        subst hmm'
        simp only [Prod.mk.injEq] at hx
        rw [hx.1] at hz'
        have hz2 : (DataW.weightsEach Try.prog [3, 22] [.lit (.int .i64 (n : Int)), .slice ((List.range ns).map D) ((List.range (scap - ns)).map fun j => D (ns + j))]).all (· ≤ reachBytes) = true := hz'
        obtain ⟨sb, so, spot⟩ := a
        have each : ∀ r, r < ns → ∃ y : Int × Int × Option Addr × Nat × Nat × List UInt8, (W.cell? ((⟨sb, so, spot⟩ : Addr).add (r * 3)) = some (.int .i64 y.1) ∧ W.cell? ((⟨sb, so, spot⟩ : Addr).add (r * 3 + 1)) = some (.int .i64 y.2.1) ∧ W.cell? ((⟨sb, so, spot⟩ : Addr).add (r * 3 + 2)) = some (.slice y.2.2.1 y.2.2.2.1 y.2.2.2.2.1)) ∧ y.2.2.2.1 ≤ y.2.2.2.2.1 ∧ y.2.2.2.1 ≤ 140737488355328 ∧
            SrcAt W y.2.2.1 y.2.2.2.2.2 ∧ y.2.2.2.2.2.length = y.2.2.2.1 ∧ ∀ x, y.2.2.1 = some x → 0 < y.2.2.2.1 → x.block < W.heap.size := by
          intro r hr
          obtain ⟨cs', c1, c2⟩ := hel r (by omega)
          rw [show Try.prog.cellsOf 33 = 3 from by kernel_rfl] at c1
          obtain ⟨_, hlen, hcell⟩ := World.cells?_some c1
          obtain ⟨y0, y1, y2, fu', hD, _, g0, g1, g2⟩ := trod_struct3 Try.underlying33 c2
          match cs', hlen with
          | [u0, u1, u2], _ =>
            have e0 := hcell 0 (by omega)
            have e1 := hcell 1 (by omega)
            have e2 := hcell 2 (by omega)
            rw [Go.Deep.add_add] at e0 e1 e2
            simp only [show Try.prog.cellsOf 3 = 1 from by kernel_rfl, show Try.prog.cellsOf 31 = 1 from by kernel_rfl, List.drop_zero, List.drop_succ_cons, List.take_succ_cons, List.take_zero] at g0 g1 g2
            obtain ⟨n0, hn0, -, -⟩ := DataW.trod_int Try.underlying3 g0
            obtain ⟨n1, hn1, -, -⟩ := DataW.trod_int Try.underlying3 g1
            cases hn0
            cases hn1
            simp only [Prod.mk.injEq] at hD
            rcases open_ints Try.underlying31 Try.underlying5 (by kernel_rfl) g2 with ⟨hcs, _⟩ | ⟨x, l, c, zs, hcs, _, hl', hm', hz3, hx3, hcell3, hwz⟩
            · cases hcs
              exact ⟨(n0, n1, none, 0, 0, []), ⟨by simpa using e0, by simpa using e1, by simpa using e2⟩, Nat.le_refl _, Nat.zero_le _, SrcAt.nil _ _, rfl, fun x e => by cases e⟩
            · cases hcs
              have hzl : zs.length = c := by simpa using hz3
              have hrch : l ≤ 140737488355328 := by
                have h9 := reach (es := lits (H := H) .u8 (zs.take l)) (sp := lits .u8 (zs.drop l)) (e0 := y0.1) (e1 := y1.1) hz2 hr (by rw [hD.1, hx3])
                simp [lits] at h9
                omega
              refine ⟨(n0, n1, some x, l, c, (zs.take l).map fun z => UInt8.ofNat z.toNat), ⟨by simpa using e0, by simpa using e1, by simpa using e2⟩, hl', hrch, bytes_at (by omega) hcell3 hwz, by simp; omega, fun x' e hp => ?_⟩
              cases e
              have hp' : 0 < l := hp
              have := World.block_lt_of_cell? _ _ (hcell3 0 (by omega))
              simpa [Addr.add] using this
        obtain ⟨y, hy⟩ := choose_lt each
        have hspot : 0 < ns → spot = none := fun h => by
          have := World.cell?_spot (hy 0 h).1.1
          simpa [Addr.add] using this
        refine walk_ok n (by omega) _ sb so ns scap (fun r => (y r).1) (fun r => (y r).2.1) (fun r => (y r).2.2.1) (fun r => (y r).2.2.2.1) (fun r => (y r).2.2.2.2.1) (fun r => (y r).2.2.2.2.2) W (fun r hr => ?_) (fun h => by rw [hspot h]) (by unfold maxLen at hm; omega)
        obtain ⟨⟨f1, f2, f3⟩, f4, f5, f6, f7, f8⟩ := hy r hr
        rw [hspot (by omega), add_none] at f1 f2 f3
        exact ⟨World.block_lt_of_cell? _ _ f1, ⟨f1, by rw [← f2]; rfl, by rw [← f3]; rfl⟩, f4, f5, f6, f7, f8⟩
  clear hA0
  refine hwalk.mono fun e W' ⟨he, bel⟩ => ?_
  subst he
  exact ⟨_, rfl, _, _, _, [], _, [], hW', trodAll_mk1 (shut_bool Try.underlying4 _), (trodAll_cons_mk (shut_int Try.underlying3 w0) (trodAll_cons_mk (Below.trod laidOut (by kernel_rfl) (of_decide_eq_true (by kernel_rfl)) k1 bel lt1) trodAll_mk0)), rfl, bel.frame _, fun h => by cases h⟩

set_option maxRecDepth 100000 in
theorem lifted (os : Os) (started : os.Started) (H : Type) (enc : TypeId × Value → H) :
    ReturnsInHanded {} Try.checked os 3 .any (Rows.chunkRingsSpec.pre6 enc Try.prog Try.f3 Rows.chunkRingsRow.domain false) (Rows.chunkRingsSpec.post enc Try.prog Try.f3 false true false false) := by
  refine returnsInHanded_of_change_sized (C := Try.checked) own started (by kernel_rfl) Try.func3
    (ChangeSpec.witness6 (enc := enc) (C := Try.checked) false ⟨#[], #[.int .i64 0, .slice none 0 0], []⟩ 8 (by kernel_rfl) (by kernel_rfl) (by kernel_rfl) (by kernel_rfl)) ?_
  intro W base args ds gs before hval hW _ hz _
  exact contract H enc W base args ds gs before hval hW hz

theorem over : Rows.chunkRingsRow.holds Try.pinned (OpenSpec.ofChange Rows.chunkRingsSpec) :=
  OpenClaim.holds_of_wide 3 Try.f3 rfl rfl rfl rfl rfl rfl rfl ⟨rfl, rfl, rfl, rfl, rfl⟩ rfl rfl rfl rfl rfl (by kernel_rfl) Try.func3 (by kernel_rfl)
    (of_decide_eq_true (by kernel_rfl)) (by unfold Func.isWrapper; first | (rw [if_pos (by decide +kernel)]; kernel_rfl) | (rw [if_neg (by decide +kernel)]; exact ⟨rfl, rfl⟩))
    (fun os started H enc _ => lifted os started H enc)

theorem proved : Rows.ChunkRingsSaid := over
#print axioms proved
end Go.Proofs.Ytaflgioelblcgaa.chunkRings
namespace Go.Proofs.Ytaflgioelblcgaa
theorem chunkRings_holds : Rows.ChunkRingsSaid := chunkRings.proved
end Go.Proofs.Ytaflgioelblcgaa
