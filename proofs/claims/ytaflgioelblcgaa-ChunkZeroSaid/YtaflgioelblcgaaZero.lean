/- Proved: aqueductlaw01.ChunkZero returns true for every n and every slice b of bytes, and leaves b as it was; no condition. -/
import Derived.Test.YtaflgioelblcgaaRows
import Derived.Test.YtaflgioelblcgaaR7
import Derived.WalkKit
import Derived.ProofKit
import Derived.OpenShut
import Derived.ShutString
import Derived.ChangeOld
import Derived.Below
namespace Go.Proofs.Ytaflgioelblcgaa.chunkZero
open Go.ChangeShapes Go.WideShapes Go.ChangeAt Go.RowKit
open Go.ChangeMaps (open_string shut_string)
set_option linter.unusedVariables false

theorem own : ownKnob Try.prog.godebug = none := by kernel_rfl
theorem laidOut : laidOutB Try.prog = true := by kernel_rfl

/-- WHAT THE WALK IS TOLD OF A SLICE OF INTEGERS THAT CAME IN: it is nil; or it leads to a row of 'cap' cells, the numbers 'zs' (the first 'len' are its elements, the rest its spare room), each fitting its kind. -/
def IsRow (k : IntKind) (w : World) (a : Option Addr) (len cap : Nat) (zs : List Int) : Prop :=
  (a = none ∧ len = 0 ∧ cap = 0 ∧ zs = []) ∨
  ∃ x, a = some x ∧ len ≤ cap ∧ cap ≤ maxLen ∧ zs.length = cap ∧ (∀ i, i < zs.length → w.cell? (x.add i) = some (.int k (zs.getD i 0))) ∧ ∀ n ∈ zs, (Lit.int k n).wf = true

theorem row_bytes {w : World} {a : Option Addr} {len cap : Nat} {zs : List Int} (h : IsRow .u8 w a len cap zs) :
    ∃ bs : List UInt8, SrcAt w a bs ∧ bs.length = len ∧ (∀ x, a = some x → 0 < len → x.block < w.heap.size) ∧ len ≤ cap := by
  rcases h with ⟨rfl, rfl, rfl, rfl⟩ | ⟨x, rfl, hl, hm, hz, hcell, hwz⟩
  · exact ⟨[], SrcAt.nil _ _, rfl, fun x e => by simp at e, Nat.le_refl _⟩
  · refine ⟨(zs.take len).map fun z => UInt8.ofNat z.toNat, ?_, by simp; omega, ?_, hl⟩
    · intro j c hj
      refine ⟨x, rfl, ?_⟩
      simp only [List.getElem?_map, List.getElem?_take, Option.map_eq_some_iff] at hj
      obtain ⟨z, hz1, rfl⟩ := hj
      split at hz1
      · have hj2 : j < zs.length := (List.getElem?_eq_some_iff.1 hz1).1
        have hw := hwz z (List.mem_of_getElem? hz1)
        rw [hcell j hj2, List.getD_eq_getElem?_getD, hz1]
        have hb : 0 ≤ z ∧ z ≤ 255 := by
          have h2 : IntKind.u8.min ≤ z ∧ z ≤ IntKind.u8.max := by simpa [Lit.wf] using hw
          exact ⟨h2.1, h2.2⟩
        simp
        omega
      · cases hz1
    · intro y e h0
      cases e
      have := World.block_lt_of_cell? _ _ (hcell 0 (by omega))
      simpa [Addr.add] using this

/-! ### STEP 1: THE WALK: the Go text returns true, AND WRITES NOTHING THAT WAS THERE: 'Below w.heap.size w w'' (Derived/Below.lean: '.refl', '.alloc', '.drew', '.setCell' at a new block, '.trans'). Open each 'IsRow' by 'rcases' AHEAD of 'go_enter'; part every test ahead of the walk. -/
theorem walk (a0 : Int) (a1 : Option Addr) (len1 cap1 : Nat) (z1 : List Int) (w : World) (w0 : (Lit.int .i64 a0).wf = true) (w1 : IsRow .u8 w a1 len1 cap1 z1) :
    Calls Try.prog 7 #[.int .i64 a0, .slice a1 len1 cap1] w fun e w' => e = .returned (.bool true) ∧ Below w.heap.size w w' := by
  obtain ⟨bs, hs, hlen, hblk, hcap⟩ := row_bytes w1
  have HBLK : Hid (∀ a, a1 = some a → 0 < len1 → a.block < w.heap.size) := hblk
  have HLEN : Hid (bs.length = len1) := hlen
  clear w1 hblk hlen
  go_enter Try.func7, Try.ntmps7
  go_wp2_with fail
  obtain ⟨W, hW⟩ : ∃ W : World, W = (w.alloc (Obj.cells #[Value.int IntKind.i64 0, Value.slice none 0 0, Value.int IntKind.i64 0, Value.int IntKind.i64 0] 56)).alloc (Obj.cells #[Value.int IntKind.i64 0, Value.bool false, Value.slice none 0 0] 58) := ⟨_, rfl⟩
  rw [← hW]
  have hWf : Fr (fun _ => False) w W := by rw [hW]; exact ((Fr.refl _ _).alloc _).alloc _
  have hWs : RingIs W w.heap.size (.slice none 0 0) [] 0 := zero_ring _ _ _ (by omega) (by rw [hW]; exact (Below.heap_alloc _ _ _ (by simp)).trans (heap_alloc_new w _))
  have hWq : W.heap[w.heap.size + 1]? = some (.cells #[.int .i64 0, .bool false, .slice none 0 0] 58 (0, 0)) := by
    rw [hW]; simpa using heap_alloc_new (w.alloc (Obj.cells #[Value.int IntKind.i64 0, Value.slice none 0 0, Value.int IntKind.i64 0, Value.int IntKind.i64 0] 56)) (Obj.cells #[Value.int IntKind.i64 0, Value.bool false, Value.slice none 0 0] 58)
  clear hW
  have HWF : Hid (Fr (fun _ => False) w W) := hWf
  have HWQ : Hid (W.heap[w.heap.size + 1]? = some (.cells #[.int .i64 0, .bool false, .slice none 0 0] 58 (0, 0))) := hWq
  clear hWf hWq
  refine (put_nil _ _ _ _).mono ?_
  rintro e w1 ⟨rfl, rfl⟩
  go_wp2_with fail
  refine (put_any w.heap.size (.slice none 0 0) [] 0 a1 len1 cap1 bs _ hWs ?_ HLEN.out hcap ?_ 0 (by simp)).mono ?_
  · intro j c hj
    obtain ⟨ad, e, hc⟩ := hs j c hj
    exact ⟨ad, e, by rw [HWF.out.cell (World.block_lt_of_cell? _ _ hc) id]; exact hc⟩
  · intro ad e h0
    have h1 := HBLK.out ad e h0
    exact ⟨Nat.lt_of_lt_of_le h1 HWF.out.size, by omega, by simp [Value.ownBlock]⟩
  rintro e w2 ⟨rfl, sv, hr2, hf2, -⟩
  have HF2 : Hid (Fr (fun k => k = w.heap.size ∨ (Value.slice none 0 0).ownBlock = some k) w1 w2) := hf2
  clear hf2
  go_wp2_with fail
  refine (take_nil _ _).mono ?_
  rintro e w3 ⟨rfl, rfl⟩
  go_wp2_with fail
  have hr2' : RingIs w3 w.heap.size sv [] 0 := by simpa using hr2
  refine (peek_any w.heap.size sv [] 0 a0 0 w3 hr2' (by simp; omega)).mono ?_
  rintro e w4 ⟨d, rfl, hd, -, hf4⟩
  have hr4 := hr2'.fr hf4 id (fun _ _ => id)
  have c0 : w4.cell? ⟨w.heap.size, 0, none⟩ = some (.int .i64 0) ∧ w4.cell? ⟨w.heap.size, 3, none⟩ = some (.int .i64 0) := by
    obtain ⟨-, cur, first, hbk, -⟩ := hr4
    obtain ⟨c0, -, -, c3⟩ := cell4 hbk
    exact ⟨c0, c3⟩
  have HF4 : Hid (Fr (fun _ => False) w3 w4) := hf4
  have HC0 : Hid (w4.cell? ⟨w.heap.size, 0, none⟩ = some (.int .i64 0) ∧ w4.cell? ⟨w.heap.size, 3, none⟩ = some (.int .i64 0)) := c0
  clear hf4 hr4 c0 hr2 hr2'
  go_wp2_with fail
  refine (drop_nil _ _).mono ?_
  rintro e w5 ⟨rfl, rfl⟩
  go_wp2_with fail
  refine (len_any w.heap.size 0 _ HC0.out.1).mono ?_
  rintro e w6 ⟨rfl, rfl⟩
  go_wp2_with fail
  refine (room_nil _).mono ?_
  rintro e w7 ⟨rfl, rfl⟩
  go_wp2_with fail
  refine (cap_any w.heap.size 0 _ HC0.out.2).mono ?_
  rintro e w8 ⟨rfl, rfl⟩
  go_wp2_with fail
  refine (add_nil _ _ _ _).mono ?_
  rintro e w9 ⟨rfl, rfl⟩
  have hq : w9.heap[w.heap.size + 1]? = some (.cells #[.int .i64 0, .bool false, .slice none 0 0] 58 (0, 0)) := by
    have l1 := lt_of_heap HWQ.out
    have l2 := HF2.out.size
    rw [HF4.out.block _ (by omega) id, HF2.out.block _ l1 (by simp [Value.ownBlock])]
    exact HWQ.out
  have HQ : Hid (w9.cell? ⟨w.heap.size + 1, 0, none⟩ = some (.int .i64 0) ∧ w9.cell? ⟨w.heap.size + 1, 1, none⟩ = some (.bool false)) := ⟨cell_of_heap hq rfl, cell_of_heap hq rfl⟩
  clear hq
  go_wp2_with fail
  refine (add_unmade (w.heap.size + 1) _ _ _ _ HQ.out.2).mono ?_
  rintro e w10 ⟨rfl, rfl⟩
  go_wp2_with fail
  refine (qtake_nil _ _).mono ?_
  rintro e w11 ⟨rfl, rfl⟩
  go_wp2_with fail
  refine (qlen_any (w.heap.size + 1) 0 _ HQ.out.1).mono ?_
  rintro e w12 ⟨rfl, rfl⟩
  go_wp2_with fail
  refine (chunks_nil _).mono ?_
  rintro e w13 ⟨rfl, rfl⟩
  go_wp2
  go_ret
  refine ⟨rfl, ?_⟩
  have h1 : Fr (fun k => k = w.heap.size ∨ (Value.slice none 0 0).ownBlock = some k) w w13 :=
    Fr.trans (Fr.trans (HWF.out.mono (fun _ _ e => e.elim)) HF2.out) (HF4.out.mono (fun _ _ e => e.elim))
  refine h1.below (fun k hk e => ?_)
  rcases e with e | e
  · omega
  · simp [Value.ownBlock] at e

/-! ### THE ROW's STEP: WRITTEN OUT: LEAVE IT -/
set_option maxRecDepth 100000 in
theorem lifted (os : Os) (started : os.Started) (H : Type) (enc : TypeId × Value → H) :
    ReturnsInHanded {} Try.checked os 7 .any (Rows.chunkZeroSpec.pre6 enc Try.prog Try.f7 Rows.chunkZeroRow.domain false) (Rows.chunkZeroSpec.post enc Try.prog Try.f7 false true false false) := by
  refine returnsInHanded_of_change (C := Try.checked) own started (by kernel_rfl) Try.func7
    (ChangeSpec.witness6 (enc := enc) (C := Try.checked) false ⟨#[], #[.int .i64 0, .slice none 0 0], []⟩ 8 (by kernel_rfl) (by kernel_rfl) (by kernel_rfl) (by kernel_rfl)) ?_
  intro W base args ds gs before hval0 hW hcnd _
  have hval : ∀ (j : Nat) t v, Try.f7.params[j]? = some t → args[j]? = some v → Value.okWide Try.prog W .any base t v := hval0
  have hW' := hW
  obtain ⟨p, q, hA0, hV, rfl, hfz, hnd⟩ := hW
  have hA : DataW.TrodAll enc Try.prog W 0 (fun _ => true) true Try.f7.params.toList args.toList ds p := hA0
  rw [Try.params7] at hA hval
  obtain ⟨v0, vs0, d0, ds0, p0, q0, hargs, rfl, rfl, h0, r0⟩ := trodAll_cons hA
  obtain ⟨v1, vs1, d1, ds1, p1, q1, rfl, rfl, rfl, h1, r1⟩ := trodAll_cons r0
  obtain ⟨rfl, rfl, rfl⟩ := trodAll_nil r1
  obtain rfl : args = #[v0, v1] := by cases args; simp_all
  obtain ⟨rfl, rfl⟩ := trodVars_none hV
  obtain ⟨a0, rfl, rfl, rfl, w0⟩ := open_int Try.underlying3 (hval 0 3 v0 rfl rfl) h0
  obtain ⟨a1, len1, cap1, rfl⟩ := okWide_slice Try.underlying31 (hval 1 31 v1 rfl rfl)
  have k1 := h1
  have lt1 : ∀ x ∈ p1, x.block < W.heap.size := by obtain ⟨m, hm⟩ := k1; exact DataW.trod_lt m _ _ _ hm
  obtain ⟨z1, w1⟩ : ∃ zs, IsRow .u8 W a1 len1 cap1 zs := by
    obtain ⟨fuel, hf⟩ := h1
    rcases open_ints Try.underlying31 Try.underlying5 (by kernel_rfl) hf with ⟨hcs, _⟩ | ⟨x, l, c, zs, hcs, _, hl, hm, hz, _, hcell, hwz⟩
    · simp [Value.cells] at hcs
      obtain ⟨rfl, rfl, rfl⟩ := hcs
      exact ⟨[], .inl ⟨rfl, rfl, rfl, rfl⟩⟩
    · simp [Value.cells] at hcs
      obtain ⟨rfl, rfl, rfl⟩ := hcs
      exact ⟨zs, .inr ⟨_, rfl, hl, hm, by simpa using hz, hcell, hwz⟩⟩
  clear hA0 hval0
  refine (walk a0 a1 len1 cap1 z1 W w0 w1).mono fun e W' ⟨he, bel⟩ => ?_
  subst he
  exact ⟨_, rfl, _, _, _, [], _, [], hW', trodAll_mk1 (shut_bool Try.underlying4 _), (trodAll_cons_mk (shut_int Try.underlying3 w0) (trodAll_cons_mk (Below.trod laidOut (by kernel_rfl) (of_decide_eq_true (by kernel_rfl)) k1 bel lt1) trodAll_mk0)), rfl, bel.frame _, fun h => by cases h⟩

theorem over : Rows.chunkZeroRow.holds Try.pinned (OpenSpec.ofChange Rows.chunkZeroSpec) :=
  OpenClaim.holds_of_wide 7 Try.f7 rfl rfl rfl rfl rfl rfl rfl ⟨rfl, rfl, rfl, rfl, rfl⟩ rfl rfl rfl rfl rfl (by kernel_rfl) Try.func7 (by kernel_rfl)
    (of_decide_eq_true (by kernel_rfl)) (by unfold Func.isWrapper; first | (rw [if_pos (by decide +kernel)]; kernel_rfl) | (rw [if_neg (by decide +kernel)]; exact ⟨rfl, rfl⟩))
    (fun os started H enc _ => lifted os started H enc)

/-- ████ THE STATEMENT ████ -/
theorem proved : Rows.ChunkZeroSaid := over
#print axioms proved
end Go.Proofs.Ytaflgioelblcgaa.chunkZero
namespace Go.Proofs.Ytaflgioelblcgaa
theorem chunkZero_holds : Rows.ChunkZeroSaid := chunkZero.proved
end Go.Proofs.Ytaflgioelblcgaa

