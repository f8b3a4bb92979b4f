/- Proved: aqueductlaw02.FieldFulls (numbers of 32 bits, read and put) returns true for every slice b of bytes, every int at and every uint32 n, and leaves b as it was; no condition. -/
import Derived.Test.YtdbffhgooomdnaaRows
import Derived.Test.YtdbffhgooomdnaaU5
import Derived.Deep.RegionHeldLaw
import Derived.WalkKit
import Derived.ProofKit
import Derived.OpenShut
import Derived.ShutString
import Derived.ChangeOld
import Derived.Below
namespace Go.Proofs.Ytdbffhgooomdnaa.fieldFulls
open Go.ChangeShapes Go.WideShapes Go.ChangeAt Go.RowKit
open Go.ChangeMaps (open_string shut_string)
set_option linter.unusedVariables false

theorem own : ownKnob Try.prog.godebug = none := by kernel_rfl
theorem laidOut : laidOutB Try.prog = true := by kernel_rfl

/-- WHAT THE WALK IS TOLD OF A SLICE OF INTEGERS THAT CAME IN: it is nil; or it leads to a row of 'cap' cells, the numbers 'zs' (the first 'len' are its elements, the rest its spare room), each fitting its kind. -/
def IsRow (k : IntKind) (w : World) (a : Option Addr) (len cap : Nat) (zs : List Int) : Prop :=
  (a = none ∧ len = 0 ∧ cap = 0 ∧ zs = []) ∨
  ∃ x, a = some x ∧ len ≤ cap ∧ cap ≤ maxLen ∧ zs.length = cap ∧ (∀ i, i < zs.length → w.cell? (x.add i) = some (.int k (zs.getD i 0))) ∧ ∀ n ∈ zs, (Lit.int k n).wf = true

theorem row_bytes {w : World} {a : Option Addr} {len cap : Nat} {zs : List Int} (h : IsRow .u8 w a len cap zs) :
    ∃ bs : List UInt8, SrcAt w a bs ∧ bs.length = len ∧ (∀ x, a = some x → 0 < len → x.block < w.heap.size) ∧ len ≤ cap := by
  rcases h with ⟨rfl, rfl, rfl, rfl⟩ | ⟨x, rfl, hl, hm, hz, hcell, hwz⟩
  · exact ⟨[], SrcAt.nil _ _, rfl, fun x e => by simp at e, Nat.le_refl _⟩
  · refine ⟨(zs.take len).map fun z => UInt8.ofNat z.toNat, ?_, by simp; omega, ?_, hl⟩
    · intro j c hj
      refine ⟨x, rfl, ?_⟩
      simp only [List.getElem?_map, List.getElem?_take, Option.map_eq_some_iff] at hj
      obtain ⟨z, hz1, rfl⟩ := hj
      split at hz1
      · have hj2 : j < zs.length := (List.getElem?_eq_some_iff.1 hz1).1
        have hw := hwz z (List.mem_of_getElem? hz1)
        rw [hcell j hj2, List.getD_eq_getElem?_getD, hz1]
        have hb : 0 ≤ z ∧ z ≤ 255 := by
          have h2 : IntKind.u8.min ≤ z ∧ z ≤ IntKind.u8.max := by simpa [Lit.wf] using hw
          exact ⟨h2.1, h2.2⟩
        simp
        omega
      · cases hz1
    · intro y e h0
      cases e
      have := World.block_lt_of_cell? _ _ (hcell 0 (by omega))
      simpa [Addr.add] using this

theorem string_is {P : Program} {w : World} {sp : Option Addr} {X : List UInt8} (src dst e : TypeId) (hs : P.underlying src = some (.slice e)) (hd : P.underlying dst = some .string) (he : P.underlying e = some (.int .u8)) (h : SrcAt w sp X) (m c : Nat) (hm : X.length = m) :
    (convert src dst (.slice sp m c)).run P w = .ok (.string ⟨X.toArray⟩) w := string_of src dst e hs hd he h m c hm

/-! ### STEP 1: THE WALK: the Go text returns true, AND WRITES NOTHING THAT WAS THERE: 'Below w.heap.size w w'' (Derived/Below.lean: '.refl', '.alloc', '.drew', '.setCell' at a new block, '.trans'). Open each 'IsRow' by 'rcases' AHEAD of 'go_enter'; part every test ahead of the walk. -/
set_option maxRecDepth 100000 in
set_option maxHeartbeats 1000000 in
theorem walk (a0 : Option Addr) (len0 cap0 : Nat) (z0 : List Int) (a1 : Int) (a2 : Int) (w : World) (w0 : IsRow .u8 w a0 len0 cap0 z0) (w1 : (Lit.int .i64 a1).wf = true) (w2 : (Lit.int .u32 a2).wf = true) :
    Calls Try.prog 6 #[.slice a0 len0 cap0, .int .i64 a1, .int .u32 a2] w fun e w' => e = .returned (.bool true) ∧ Below w.heap.size w w' := by
  obtain ⟨bs, hs, hlen, hblk, hcap⟩ := row_bytes w0
  have hmax : len0 ≤ 9223372036854775807 := by
    rcases w0 with ⟨-, rfl, -, -⟩ | ⟨x, -, h1, h2, -⟩
    · omega
    · exact Nat.le_trans h1 h2
  have hn : 0 ≤ a2 ∧ a2 ≤ 4294967295 := by
    have h2 : IntKind.u32.min ≤ a2 ∧ a2 ≤ IntKind.u32.max := by simpa [Lit.wf] using w2
    exact h2
  obtain ⟨m, rfl⟩ : ∃ m : Nat, a2 = m := ⟨a2.toNat, by omega⟩
  have hm : m < 4294967296 := by omega
  clear w0 hblk hn
  go_enter Try.func6, Try.ntmps6
  go_wp2_with fail
  refine (U32 a0 len0 cap0 a1 w bs hs hlen hmax).mono ?_
  rintro e wa ⟨rfl, hfa⟩
  have hsa := hs.fr hfa (fun _ _ _ => id)
  go_wp2_with fail
  refine (RU32 a0 len0 cap0 a1 wa bs hsa hlen hmax).mono ?_
  rintro e wb ⟨rfl, rfl⟩
  have HFA : Hid (Fr (fun _ => False) w wb) := hfa
  clear hfa hs hsa hlen
  generalize (readOut 4 bs a1).1 = x
  generalize (readOut 4 bs a1).2.1 = y
  generalize (readOut 4 bs a1).2.2 = z
  go_wp2_with fail
  go_region_held_law (fun _ => True) (trivial) (first | (go_at_call 23; refine (Put32 m _ hm).mono ?_; rintro e w3 ⟨⟨sp, c, rfl, hs3⟩, hf3⟩; have s3 := string_is (P := Try.prog) 22 9 5 Try.underlying22 Try.underlying9 Try.underlying5 hs3 4 c (be_length _ _); (try have s4' := string_is (P := Try.prog) 22 9 5 Try.underlying22 Try.underlying9 Try.underlying5 (hs4.fr hf3 (fun _ _ _ => id)) 4 c' (be_length _ _))) | (go_at_call 24; refine (RPut32 m _ hm).mono ?_; rintro e w4 ⟨⟨sp', c', rfl, hs4⟩, hf4⟩; have s4 := string_is (P := Try.prog) 22 9 5 Try.underlying22 Try.underlying9 Try.underlying5 hs4 4 c' (be_length _ _); (try have s3' := string_is (P := Try.prog) 22 9 5 Try.underlying22 Try.underlying9 Try.underlying5 (hs3.fr hf4 (fun _ _ _ => id)) 4 c (be_length _ _))) | (go_at_call 12; refine (awake_ok _).mono ?_; rintro e w5 ⟨rfl, hf5⟩))
  all_goals
    go_wp2
    go_ret
    exact ⟨rfl, Fr.below (Fr.trans (Fr.trans (Fr.trans (b := wb.drew) HFA.out.drew hf3) hf4) hf5) (fun _ _ => id)⟩

/-! ### THE ROW's STEP: WRITTEN OUT: LEAVE IT -/
set_option maxRecDepth 100000 in
theorem lifted (os : Os) (started : os.Started) (H : Type) (enc : TypeId × Value → H) :
    ReturnsInHanded {} Try.checked os 6 .any (Rows.fieldFullsSpec.pre6 enc Try.prog Try.f6 Rows.fieldFullsRow.domain false) (Rows.fieldFullsSpec.post enc Try.prog Try.f6 false true false false) := by
  refine returnsInHanded_of_change (C := Try.checked) own started (by kernel_rfl) Try.func6
    (ChangeSpec.witness6 (enc := enc) (C := Try.checked) false ⟨#[], #[.slice none 0 0, .int .i64 0, .int .u32 0], []⟩ 8 (by kernel_rfl) (by kernel_rfl) (by kernel_rfl) (by kernel_rfl)) ?_
  intro W base args ds gs before hval0 hW hcnd _
  have hval : ∀ (j : Nat) t v, Try.f6.params[j]? = some t → args[j]? = some v → Value.okWide Try.prog W .any base t v := hval0
  have hW' := hW
  obtain ⟨p, q, hA0, hV, rfl, hfz, hnd⟩ := hW
  have hA : DataW.TrodAll enc Try.prog W 0 (fun _ => true) true Try.f6.params.toList args.toList ds p := hA0
  rw [Try.params6] at hA hval
  obtain ⟨v0, vs0, d0, ds0, p0, q0, hargs, rfl, rfl, h0, r0⟩ := trodAll_cons hA
  obtain ⟨v1, vs1, d1, ds1, p1, q1, rfl, rfl, rfl, h1, r1⟩ := trodAll_cons r0
  obtain ⟨v2, vs2, d2, ds2, p2, q2, rfl, rfl, rfl, h2, r2⟩ := trodAll_cons r1
  obtain ⟨rfl, rfl, rfl⟩ := trodAll_nil r2
  obtain rfl : args = #[v0, v1, v2] := by cases args; simp_all
  obtain ⟨rfl, rfl⟩ := trodVars_none hV
  obtain ⟨a0, len0, cap0, rfl⟩ := okWide_slice Try.underlying22 (hval 0 22 v0 rfl rfl)
  have k0 := h0
  have lt0 : ∀ x ∈ p0, x.block < W.heap.size := by obtain ⟨m, hm⟩ := k0; exact DataW.trod_lt m _ _ _ hm
  obtain ⟨z0, w0⟩ : ∃ zs, IsRow .u8 W a0 len0 cap0 zs := by
    obtain ⟨fuel, hf⟩ := h0
    rcases open_ints Try.underlying22 Try.underlying5 (by kernel_rfl) hf with ⟨hcs, _⟩ | ⟨x, l, c, zs, hcs, _, hl, hm, hz, _, hcell, hwz⟩
    · simp [Value.cells] at hcs
      obtain ⟨rfl, rfl, rfl⟩ := hcs
      exact ⟨[], .inl ⟨rfl, rfl, rfl, rfl⟩⟩
    · simp [Value.cells] at hcs
      obtain ⟨rfl, rfl, rfl⟩ := hcs
      exact ⟨zs, .inr ⟨_, rfl, hl, hm, by simpa using hz, hcell, hwz⟩⟩
  obtain ⟨a1, rfl, rfl, rfl, w1⟩ := open_int Try.underlying3 (hval 1 3 v1 rfl rfl) h1
  obtain ⟨a2, rfl, rfl, rfl, w2⟩ := open_int Try.underlying34 (hval 2 34 v2 rfl rfl) h2
  clear hA0 hval0
  refine (walk a0 len0 cap0 z0 a1 a2 W w0 w1 w2).mono fun e W' ⟨he, bel⟩ => ?_
  subst he
  exact ⟨_, rfl, _, _, _, [], _, [], hW', trodAll_mk1 (shut_bool Try.underlying4 _), (trodAll_cons_mk (Below.trod laidOut (by kernel_rfl) (of_decide_eq_true (by kernel_rfl)) k0 bel lt0) (trodAll_cons_mk (shut_int Try.underlying3 w1) (trodAll_cons_mk (shut_int Try.underlying34 w2) trodAll_mk0))), rfl, bel.frame _, fun h => by cases h⟩

theorem over : Rows.fieldFullsRow.holds Try.pinned (OpenSpec.ofChange Rows.fieldFullsSpec) :=
  OpenClaim.holds_of_wide 6 Try.f6 rfl rfl rfl rfl rfl rfl rfl ⟨rfl, rfl, rfl, rfl, rfl⟩ rfl rfl rfl rfl rfl (by kernel_rfl) Try.func6 (by kernel_rfl)
    (of_decide_eq_true (by kernel_rfl)) (by unfold Func.isWrapper; first | (rw [if_pos (by decide +kernel)]; kernel_rfl) | (rw [if_neg (by decide +kernel)]; exact ⟨rfl, rfl⟩))
    (fun os started H enc _ => lifted os started H enc)

/-- ████ THE STATEMENT ████ -/
theorem proved : Rows.FieldFullsSaid := over
#print axioms proved
end Go.Proofs.Ytdbffhgooomdnaa.fieldFulls
namespace Go.Proofs.Ytdbffhgooomdnaa
theorem fieldFulls_holds : Rows.FieldFullsSaid := fieldFulls.proved
end Go.Proofs.Ytdbffhgooomdnaa
