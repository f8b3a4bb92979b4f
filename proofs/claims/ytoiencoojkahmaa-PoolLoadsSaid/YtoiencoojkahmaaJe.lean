/- A pool: New. -/
import Derived.Test.YtoiencoojkahmaaJd
import Derived.Deep.RegionHeldLaw
import Derived.Laws.MakeOwn
import Derived.Deep.DeepCutAuto
namespace Go.Proofs.Ytoiencoojkahmaa
open Go.RowKit Go.Maps
set_option linter.unusedVariables false
set_option maxRecDepth 100000
set_option maxHeartbeats 4000000

/-- Pools that may be. -/
structure OkP (n rt mo : Int) : Prop where
  n0 : 0 ≤ n
  nm : n ≤ 16
  r1 : 1 ≤ rt
  rm : rt ≤ mo
  mm : mo ≤ 1073741824
theorem info_back : ∃ i, Try.prog.info? 61 = some i ∧ i.zero = some (.agg #[.pointer none, .int .i64 0, .int .i64 0, .int .i64 0, .int .i64 0]) ∧ i.size = 5 ∧ i.bytes = 40 := ⟨(Try.prog.info? 61).get (by kernel_rfl), by kernel_rfl, by kernel_rfl, by kernel_rfl, by kernel_rfl⟩
theorem made_at (z : Array Value) (m q i k : Nat) (hz : z.size = q) (hk : k < q) (hi : i * q + k < m) : (madeCells z m)[i * q + k]? = z[k]? := by
  have hq : 0 < q := by omega
  have e : (i * q + k) % q = k := by rw [Nat.add_comm, Nat.add_mul_mod_self_right, Nat.mod_eq_of_lt hk]
  unfold madeCells
  simp [hi, hz, e, hk]
/-- Backends that are none yet. -/
def nobs (n : Nat) : Array Value := madeCells #[.pointer none, .int .i64 0, .int .i64 0, .int .i64 0, .int .i64 0] (n * 5)
theorem nobs_at (n i k : Nat) (hi : i < n) (hk : k < 5) : (nobs n)[i * 5 + k]? = (#[Value.pointer none, .int .i64 0, .int .i64 0, .int .i64 0, .int .i64 0] : Array Value)[k]? := made_at _ _ 5 i k rfl hk (by omega)
theorem run_nobs (n : Nat) (hn : n ≤ 16) (w : World) : (Instr.makeSlice 48 (.int .i64 (n : Int)) (.int .i64 (n : Int))).run Try.prog w = .ok (.slice (some ⟨w.heap.size, 0, none⟩) n n) (w.alloc (.cells (nobs n) 61)) := by
  obtain ⟨i, hi, hz, hs, hb⟩ := info_back
  have := run_make (P := Try.prog) w 48 61 i _ Try.underlying48 hi hz .i64 .i64 (n : Int) (n : Int) (by omega) (by omega) (by rw [hb]; omega) (by omega)
  rw [hs] at this
  simp only [Int.toNat_natCast] at this
  exact this
/-- A pool that is being made: k of n backends are there. -/
structure NwS (w : World) (hb : Nat) (F R H rt mo : Int) (n k g b gw mb : Nat) (sl : List Value) (ms : Nat → Nat) (cs : Array Value) (wr : World) : Prop where
  box : wr.heap[hb]? = some (.cells #[.int .i64 F, .int .i64 R, .int .i64 H] 23 (0, 0))
  blk : wr.heap[g]? = some (.cells #[.slice (some ⟨b, 0, none⟩) n n, .pointer (some ⟨gw, 0, none⟩), .int .i64 rt, .int .i64 mo] 51 (0, 0))
  row : wr.heap[b]? = some (.cells cs 61 (0, 0))
  rw1 : Rw pfl k ms (fun _ => ⟨⟨false, 0, 0⟩, 0, 0, 0, rt⟩) cs
  rw2 : ∀ i, k ≤ i → i < n → ∀ l, l < 5 → cs[i * 5 + l]? = (#[Value.pointer none, .int .i64 0, .int .i64 0, .int .i64 0, .int .i64 0] : Array Value)[l]?
  mod : ∀ i, i < k → HM wr (ms i) F R H ⟨false, 0, 0⟩
  whl : WAt w.heap.size wr gw mb sl 0 (newT k)
  nd : ∀ i j, i < k → j < k → ms i = ms j → i = j
  bg : w.heap.size ≤ g
  bb : w.heap.size ≤ b
  bm : ∀ i, i < k → w.heap.size ≤ ms i
  fr : Fr (fun _ => False) w wr
theorem NwS.start {w w1 w2 : World} {hb : Nat} {F R H rt mo : Int} {n b gw mb : Nat} {sl : List Value} (f : Fr (fun _ => False) w w1) (f2 : Fr (fun _ => False) w1 w2) (hx : w2.heap[hb]? = some (.cells #[.int .i64 F, .int .i64 R, .int .i64 H] 23 (0, 0))) (hr : w2.heap[b]? = some (.cells (nobs n) 61 (0, 0))) (hw : WAt w.heap.size w2 gw mb sl 0 []) (hbb : w.heap.size ≤ b) :
    NwS w hb F R H rt mo n 0 w2.heap.size b gw mb sl (fun _ => 0) (nobs n) (w2.alloc (.cells #[.slice (some ⟨b, 0, none⟩) n n, .pointer (some ⟨gw, 0, none⟩), .int .i64 rt, .int .i64 mo] 51)) := by
  have f3 : Fr (fun _ => False) w2 (w2.alloc (.cells #[.slice (some ⟨b, 0, none⟩) n n, .pointer (some ⟨gw, 0, none⟩), .int .i64 rt, .int .i64 mo] 51)) := (Fr.refl _ _).alloc _
  exact ⟨(f3.block _ (lt_of_heap hx) id).trans hx, heap_alloc_new _ _, (f3.block _ (lt_of_heap hr) id).trans hr, fun i hi => by omega, fun i _ hi l hl => nobs_at n i l hi hl, fun i hi => by omega, hw.later f3, fun i j hi => by omega, (f.trans f2).size, hbb, fun i hi => by omega, (f.trans f2).trans f3⟩
theorem NwS.later {w wr w' : World} {hb : Nat} {F R H rt mo : Int} {n k g b gw mb : Nat} {sl : List Value} {ms : Nat → Nat} {cs : Array Value} (h : NwS w hb F R H rt mo n k g b gw mb sl ms cs wr) (f : Fr (fun _ => False) wr w') : NwS w hb F R H rt mo n k g b gw mb sl ms cs w' :=
  ⟨(f.block _ (lt_of_heap h.box) id).trans h.box, (f.block _ (lt_of_heap h.blk) id).trans h.blk, (f.block _ (lt_of_heap h.row) id).trans h.row, h.rw1, h.rw2, fun i hi => (h.mod i hi).fr f id, h.whl.later f, h.nd, h.bg, h.bb, h.bm, h.fr.trans f⟩
/-- One backend more. -/
theorem NwS.next {w wr w2 w3 : World} {hb : Nat} {F R H rt mo : Int} {n k g b gw mb m : Nat} {sl : List Value} {ms : Nat → Nat} {cs : Array Value} (h : NwS w hb F R H rt mo n k g b gw mb sl ms cs wr) (hk : k < n) (f : Fr (fun _ => False) wr w2) (hm : HM w2 m F R H ⟨false, 0, 0⟩) (hmm : wr.heap.size ≤ m)
    (hl : LowAs w.heap.size ((w2.setCell ⟨b, k * 5, none⟩ (.pointer (some ⟨m, 0, none⟩))).setCell ⟨b, k * 5 + 4, none⟩ (.int .i64 rt)) g b gw mb sl ((cs.setIfInBounds (k * 5) (.pointer (some ⟨m, 0, none⟩))).setIfInBounds (k * 5 + 4) (.int .i64 rt)) #[.slice (some ⟨b, 0, none⟩) n n, .pointer (some ⟨gw, 0, none⟩), .int .i64 rt, .int .i64 mo] k 0 (newT k) 1 w3) :
    ∃ sl' ms' cs', NwS w hb F R H rt mo n (k + 1) g b gw mb sl' ms' cs' w3 := by
  obtain ⟨sl', k1, k2, k3, k4⟩ := hl
  have h2 := h.later f
  have fs : Fr (fun k => k = b) w2 ((w2.setCell ⟨b, k * 5, none⟩ (.pointer (some ⟨m, 0, none⟩))).setCell ⟨b, k * 5 + 4, none⟩ (.int .i64 rt)) := ((Fr.refl _ _).setB _ _).setB _ _
  have fall : Fr (fun q => q = b ∨ WX gw mb sl q) w2 w3 := (fs.mono (fun _ _ e => .inl e)).trans k4
  have hne : ∀ q cs t fz, w2.heap[q]? = some (.cells cs t fz) → t ≠ 61 → t ≠ 88 → t ≠ 3 → ¬ (q = b ∨ WX gw mb sl q) := by
    rintro q cs t fz hq t1 t2 t3 (e | e)
    · exact tag_neI hq h2.row t1 e
    · exact wx_tag h2.whl hq t2 t3 e
  have hms : ∀ i, i < k → ms i < wr.heap.size := fun i hi => lt_of_heap (h.mod i hi)
  have hsz : w.heap.size ≤ wr.heap.size := h.fr.size
  refine ⟨sl', fun i => if i = k then m else ms i, _, (fall.block _ (lt_of_heap h2.box) (hne _ _ _ _ h2.box (by decide) (by decide) (by decide))).trans h2.box, k1, k2, fun i hi => ⟨?_, fun l hl => ?_⟩, fun i hi hin l hl => ?_, fun i hi => ?_, k3, fun i j hi hj e => ?_, h.bg, h.bb, fun i hi => ?_, (((h.fr.trans f).mono (T := fun q => w.heap.size ≤ q) (fun _ _ e => e.elim)).trans (fall.mono (fun q hq e => ?_))).mono (fun q hq e => by omega)⟩
  · rw [Array.getElem?_setIfInBounds, if_neg (by omega), Array.getElem?_setIfInBounds, if_neg (by omega), Array.getElem?_setIfInBounds, if_neg (by omega), Array.getElem?_setIfInBounds]
    by_cases e : i = k
    · subst e
      have := h.rw2 i (Nat.le_refl _) hk 0 (by omega)
      have hlt := (Array.getElem?_eq_some_iff.1 this).1
      rw [if_pos rfl, if_pos (by simpa using hlt)]
      simp
    · rw [if_neg (by omega), if_neg e]
      exact (h.rw1 i (by omega)).1
  · by_cases e : i = k
    · subst e
      have q0 := h.rw2 i (Nat.le_refl _) hk (l + 1) (by omega)
      have e5 : i * 5 + (l + 1) = i * 5 + 1 + l := by omega
      rw [e5] at q0
      have hlt : i * 5 + 1 + l < cs.size := by
        have : ∃ v, cs[i * 5 + 1 + l]? = some v := by
          rw [q0]
          match l, hl with | 0, _ => exact ⟨_, rfl⟩ | 1, _ => exact ⟨_, rfl⟩ | 2, _ => exact ⟨_, rfl⟩ | 3, _ => exact ⟨_, rfl⟩
        obtain ⟨v, hv⟩ := this
        exact (Array.getElem?_eq_some_iff.1 hv).1
      match l, hl with
      | 0, _ => simp [Array.getElem?_setIfInBounds, pfl] at hlt ⊢; omega
      | 1, _ => simp [Array.getElem?_setIfInBounds, pfl] at hlt q0 ⊢; rw [if_neg (by omega)]; exact q0
      | 2, _ => simp [Array.getElem?_setIfInBounds, pfl] at hlt ⊢; omega
      | 3, _ => simp [Array.getElem?_setIfInBounds, pfl] at hlt ⊢; omega
    · rw [Array.getElem?_setIfInBounds, if_neg (by omega), Array.getElem?_setIfInBounds, if_neg (by omega), Array.getElem?_setIfInBounds, if_neg (by omega), Array.getElem?_setIfInBounds, if_neg (by omega)]
      exact (h.rw1 i (by omega)).2 l hl
  · rw [Array.getElem?_setIfInBounds, if_neg (by omega), Array.getElem?_setIfInBounds, if_neg (by omega), Array.getElem?_setIfInBounds, if_neg (by omega), Array.getElem?_setIfInBounds, if_neg (by omega)]
    exact h.rw2 i (by omega) hin l hl
  · split
    · exact hm.fr fall (hne _ _ _ _ hm (by decide) (by decide) (by decide))
    · exact (h2.mod i (by omega)).fr fall (hne _ _ _ _ (h2.mod i (by omega)) (by decide) (by decide) (by decide))
  · split at e <;> split at e
    · omega
    · have := hms j (by omega); omega
    · have := hms i (by omega); omega
    · exact h.nd i j (by omega) (by omega) e
  · split
    · omega
    · exact h.bm i (by omega)
  · rcases e with rfl | e
    · exact h.bb
    · exact h.whl.1.base_le q e
/-- What New answers and leaves. -/
def NewAs (w : World) (n : Nat) (F R H rt mo : Int) (e : Ending) (w' : World) : Prop := ∃ g b gw mb sl ms, e = .returned (.tuple #[.pointer (some ⟨g, 0, none⟩), .int .i64 0]) ∧ PAt w.heap.size w' g b gw mb sl ms n F R H rt mo (newP rt n) ∧ Fr (fun _ => False) w w'
theorem NwS.done {w wr : World} {hb : Nat} {F R H rt mo : Int} {n k g b gw mb : Nat} {sl : List Value} {ms : Nat → Nat} {cs : Array Value} (h : NwS w hb F R H rt mo n k g b gw mb sl ms cs wr) (hk : k = n) : NewAs w n F R H rt mo (.returned (.tuple #[.pointer (some ⟨g, 0, none⟩), .int .i64 0])) wr := by
  subst hk
  exact ⟨g, b, gw, mb, sl, ms, rfl, ⟨h.blk, ⟨cs, h.row, h.rw1⟩, h.mod, h.whl, h.nd, h.bg, h.bb, h.bm⟩, h.fr⟩
theorem plNew_yes (w : World) (n : Nat) (F R H rt mo : Int) (hr : OkR F R H) (hp : OkP (n : Int) rt mo) : Calls Try.prog 8 #[.int .i64 (n : Int), .agg #[.int .i64 F, .int .i64 R, .int .i64 H], .int .i64 rt, .int .i64 mo] w (NewAs w n F R H rt mo) := by
  have KE := fun w => eNew_yes F R H w hr
  obtain ⟨p0, p1, p2, p3, p4⟩ := hp
  have hn : n ≤ 16 := by omega
  have d0 : decide ((n : Int) < 0) = false := decide_eq_false (by omega)
  have d1 : decide ((16 : Int) < (n : Int)) = false := decide_eq_false (by omega)
  have d2 : decide (rt < 1) = false := decide_eq_false (by omega)
  have d3 : decide (mo < rt) = false := decide_eq_false (by omega)
  have d4 : decide ((1073741824 : Int) < mo) = false := decide_eq_false (by omega)
  have hmk := run_nobs n hn
  go_enter Try.func8, Try.ntmps8
  go_upto_region 1 with (fail)
  obtain ⟨wa, hwa⟩ : ∃ wa, wa = w.alloc (Obj.cells #[.int .i64 F, .int .i64 R, .int .i64 H] 23) := ⟨_, rfl⟩
  obtain ⟨hb, hhb⟩ : ∃ hb, hb = w.heap.size := ⟨_, rfl⟩
  have Fa : Hid (Fr (fun _ => False) w wa) := by rw [hwa]; exact (Fr.refl _ _).alloc _
  have Ba : Hid (wa.heap[hb]? = some (.cells #[.int .i64 F, .int .i64 R, .int .i64 H] 23 (0, 0))) := by rw [hwa, hhb]; exact heap_alloc_new _ _
  have c0 : wa.cell? ⟨hb, 0, none⟩ = some (.int .i64 F) := cell_of_heap Ba.out rfl
  have c1 : wa.cell? ⟨hb, 1, none⟩ = some (.int .i64 R) := cell_of_heap Ba.out rfl
  have c2 : wa.cell? ⟨hb, 2, none⟩ = some (.int .i64 H) := cell_of_heap Ba.out rfl
  rw [← hwa, ← hhb]
  clear hwa hhb
  go_upto_region 6 with (go_at_call 25; refine (KE _).mono ?_; rintro e w1 ⟨m0, hm0, rfl, -, f1⟩)
  have Fb : Hid (Fr (fun _ => False) w w1) := Fa.out.trans f1
  have Bb : Hid (w1.heap[hb]? = some (.cells #[.int .i64 F, .int .i64 R, .int .i64 H] 23 (0, 0))) := (f1.block _ (lt_of_heap Ba.out) id).trans Ba.out
  clear f1 hm0 Fa Ba c0 c1 c2 d0 d1 d2 d3 d4
  have KQ : ∀ w2, Hid (Fr (fun _ => False) w w2) → Calls Try.prog 26 #[] w2 fun e w' => ∃ gw mb sl, e = .returned (.pointer (some ⟨gw, 0, none⟩)) ∧ Hid (WAt w.heap.size w' gw mb sl 0 [] ∧ Fr (fun _ => False) w2 w') := fun w2 f2 => by
    refine (qNew_in w.heap.size w2 f2.out.size).mono ?_
    rintro e w' ⟨rfl, h1, h2, -⟩
    exact ⟨_, _, _, rfl, h1, h2⟩
  go_cut [12] (fun s12 wc => ∃ g b gw mb sl ms cs, s12 = .pointer (some ⟨g, 0, none⟩) ∧ Hid (NwS w hb F R H rt mo n 0 g b gw mb sl ms cs wc))
  case first =>
    have G0 : ∀ k, Hid (Fr (fun _ => False) w (w1.drewN k)) := fun k => Fb.out.drewN k
    have G1 : ∀ k o, Hid (Fr (fun _ => False) w ((w1.drewN k).alloc o)) := fun k o => (Fb.out.drewN k).alloc o
    go_region_with (go_at_call 26; refine (KQ _ (by first | exact G0 _ | exact G1 _ _)).mono ?_; rintro e w2 ⟨gw, mb, sl, rfl, X2⟩)
    · go_wp2_with (fail)
      go_meet
      case rel =>
        have f2 := X2.out.2
        have fz : Fr (fun _ => False) w1 (w1.alloc (.cells (nobs n) 61)).drew := ((Fr.refl _ _).alloc _).drew
        exact ⟨_, w1.heap.size, gw, mb, sl, _, _, rfl, NwS.start (Fb.out.trans fz) f2 ((f2.block _ (Nat.lt_of_lt_of_le (lt_of_heap Bb.out) fz.size) id).trans ((fz.block _ (lt_of_heap Bb.out) id).trans Bb.out)) ((f2.block _ (by simp) id).trans (heap_alloc_new _ _)) X2.out.1 Fb.out.size⟩
    · go_wp2_with (fail)
      go_meet
      case rel =>
        have f2 := X2.out.2
        have fz : Fr (fun _ => False) w2 (w2.alloc (.cells (nobs n) 61)) := (Fr.refl _ _).alloc _
        have B2 := (f2.block _ (lt_of_heap Bb.out) id).trans Bb.out
        have hsz : (w2.alloc (.cells (nobs n) 61)).heap.size = w2.heap.size + 1 := by simp
        have hq := NwS.start (F := F) (R := R) (H := H) (rt := rt) (mo := mo) (n := n) (hb := hb) (Fb.out.trans (Fr.refl _ _).drew) (f2.trans fz) ((fz.block _ (lt_of_heap B2) id).trans B2) (heap_alloc_new _ _) (X2.out.1.later fz) ((Fb.out.trans (Fr.refl _ _).drew).trans f2).size
        rw [hsz] at hq
        exact ⟨_, w2.heap.size, gw, mb, sl, _, _, rfl, hq⟩
  case rest =>
    obtain ⟨g, b, gw, mb, sl, ms, cs, rfl, HS0⟩ := hcut
    have k0 : wc.cell? ⟨g, 0, none⟩ = some (.slice (some ⟨b, 0, none⟩) n n) := cell_of_heap HS0.out.blk rfl
    clear Fb Bb KQ hmk
    go_wp2_with (fail)
    go_loopw [53] (fun x53 wr => ∃ (k : Nat) (sl : List Value) (ms : Nat → Nat) (cs : Array Value), x53 = .int .i64 (k : Int) ∧ k ≤ n ∧ Hid (NwS w hb F R H rt mo n k g b gw mb sl ms cs wr)) (fun x53 _ => n - (intOf x53).toNat)
    case atStart => exact ⟨0, sl, ms, cs, rfl, by omega, HS0.out⟩
    case round =>
      clear HS0 k0
      obtain ⟨k, sl, ms, cs, rfl, hkn, HS⟩ := hrel
      by_cases hlt : k < n
      · have hlt2 : (k : Int) < (n : Int) := by omega
        have k0 : wr.cell? ⟨g, 0, none⟩ = some (.slice (some ⟨b, 0, none⟩) n n) := cell_of_heap HS.out.blk rfl
        have c0 : wr.cell? ⟨hb, 0, none⟩ = some (.int .i64 F) := cell_of_heap HS.out.box rfl
        have c1 : wr.cell? ⟨hb, 1, none⟩ = some (.int .i64 R) := cell_of_heap HS.out.box rfl
        have c2 : wr.cell? ⟨hb, 2, none⟩ = some (.int .i64 H) := cell_of_heap HS.out.box rfl
        have G0 : ∀ q, Hid (Fr (fun _ => False) wr (wr.drewN q)) := fun q => (Fr.refl _ _).drewN q
        have G1 : Hid (Fr (fun _ => False) wr wr) := Fr.refl _ _
        have KE2 : ∀ W, Hid (Fr (fun _ => False) wr W) → Calls Try.prog 25 #[.agg #[.int .i64 F, .int .i64 R, .int .i64 H]] W fun e w' => ∃ m, e = .returned (.tuple #[.pointer (some ⟨m, 0, none⟩), .int .i64 0]) ∧ Hid (HM w' m F R H ⟨false, 0, 0⟩ ∧ wr.heap.size ≤ m ∧ Fr (fun _ => False) wr w') := fun W hW => by
          refine (KE W).mono ?_
          rintro e w' ⟨m, h1, rfl, h2, h3⟩
          exact ⟨m, rfl, h2, Nat.le_trans hW.out.size h1, hW.out.trans h3⟩
        have Q1 : ∀ W m, Hid (HM W m F R H ⟨false, 0, 0⟩ ∧ wr.heap.size ≤ m ∧ Fr (fun _ => False) wr W) → W.cell? ⟨g, 0, none⟩ = some (.slice (some ⟨b, 0, none⟩) n n) ∧ W.cell? ⟨hb, 0, none⟩ = some (.int .i64 F) ∧ W.cell? ⟨hb, 1, none⟩ = some (.int .i64 R) ∧ W.cell? ⟨hb, 2, none⟩ = some (.int .i64 H) := fun W m hW => by
          have h2 := HS.out.later hW.out.2.2
          exact ⟨cell_of_heap h2.blk rfl, cell_of_heap h2.box rfl, cell_of_heap h2.box rfl, cell_of_heap h2.box rfl⟩
        have Q2 : ∀ W m, Hid (HM W m F R H ⟨false, 0, 0⟩ ∧ wr.heap.size ≤ m ∧ Fr (fun _ => False) wr W) → W.cell? ⟨b, k * 5, none⟩ = some (.pointer none) ∧ W.frozen? ⟨b, k * 5, none⟩ = false := fun W m hW => by
          have h2 := HS.out.later hW.out.2.2
          exact ⟨cell_of_heap h2.row (h2.rw2 k (Nat.le_refl _) hlt 0 (by omega)), frozen_of_heap h2.row⟩
        go_upto_region 10 with (fail)
        refine wp_region_held_drew (S := fun W => W.heap[g]? = some (.cells #[.slice (some ⟨b, 0, none⟩) n n, .pointer (some ⟨gw, 0, none⟩), .int .i64 rt, .int .i64 mo] 51 (0, 0)) ∧ W.heap[hb]? = some (.cells #[.int .i64 F, .int .i64 R, .int .i64 H] 23 (0, 0))) (by kernel_rfl) ⟨HS.out.blk, HS.out.box⟩ (fun hHeld => ?_)
        have G2 : Hid (Fr (fun _ => False) wr wr.drew) := (Fr.refl _ _).drew
        generalize wr.drew = V at hHeld G2 ⊢
        refine wpAnyH_take (i := 0) (oi := _) (v := (.pointer (some ⟨g, 0, none⟩))) rfl (by kernel_rfl) (by kernel_rfl) (by kernel_rfl) (fun _ _ _ h => h) (Or.inl ⟨by kernel_rfl, fun w5 hw => by go_simp⟩) hHeld ?_
        refine wpAnyH_take (i := 1) (oi := _) (v := (.pointer (some ⟨g, 0, none⟩))) rfl (by kernel_rfl) (by kernel_rfl) (by kernel_rfl) (fun _ _ _ h => h) (Or.inl ⟨by kernel_rfl, fun w5 hw => by go_simp⟩) hHeld ?_
        refine wpAnyH_take (i := 2) (oi := _) (v := (.pointer (some ⟨g, 0, none⟩))) rfl (by kernel_rfl) (by kernel_rfl) (by kernel_rfl) (fun _ _ _ h => h) (Or.inl ⟨by kernel_rfl, fun w5 hw => by go_simp⟩) hHeld ?_
        refine wpAnyH_take (i := 3) (oi := _) (v := .slice (some ⟨b, 0, none⟩) n n) rfl (by kernel_rfl) (by kernel_rfl) (by kernel_rfl) (fun _ _ _ h => h) (Or.inl ⟨by kernel_rfl, fun w5 hw => by have x0 := cell_of_heap (i := 0) hw.1 rfl; go_simp⟩) hHeld ?_
        refine wpAnyH_take (i := 4) (oi := _) (v := .int .i64 (k : Int)) rfl (by kernel_rfl) (by kernel_rfl) (by kernel_rfl) (fun _ _ _ h => h) (Or.inl ⟨by kernel_rfl, fun w5 hw => by go_simp⟩) hHeld ?_
        refine wpAnyH_take (i := 5) (oi := _) (v := .agg #[.int .i64 F, .int .i64 R, .int .i64 H]) rfl (by kernel_rfl) (by kernel_rfl) (by kernel_rfl) (fun _ _ _ h => h) (Or.inl ⟨by kernel_rfl, fun w5 hw => by have x0 := cell_of_heap (i := 0) hw.2 rfl; have x1 := cell_of_heap (i := 1) hw.2 rfl; have x2 := cell_of_heap (i := 2) hw.2 rfl; go_simp⟩) hHeld ?_
        simp only [Act.put, List.getElem_toArray, List.getElem_cons_succ, List.getElem_cons_zero, List.setIfInBounds_toArray, List.set_cons_zero, List.set_cons_succ]
        refine wpAnyH_ready (rs := [6]) (by kernel_rfl) (by simp) ?_
        refine AllReadyH.cons rfl (fun K hK => ?_) AllReadyH.nil
        go_simp
        refine (KE2 _ G2).mono ?_
        rintro e w2 ⟨m, rfl, X2⟩
        have hS2 := HS.out.later X2.out.2.2
        refine hK.out _ _ ⟨hS2.blk, hS2.box⟩ (fun hHeld2 => ?_)
        clear hK K hHeld G2
        refine wpAnyH_take (i := 7) (oi := _) (v := .tuple #[.pointer (some ⟨m, 0, none⟩), .int .i64 0]) rfl (by kernel_rfl) (by kernel_rfl) (by kernel_rfl) (fun _ _ _ h => h) (Or.inl ⟨by kernel_rfl, fun w5 hw => by go_simp⟩) hHeld2 ?_
        refine wpAnyH_take (i := 8) (oi := _) (v := .pointer (some ⟨m, 0, none⟩)) rfl (by kernel_rfl) (by kernel_rfl) (by kernel_rfl) (fun _ _ _ h => h) (Or.inl ⟨by kernel_rfl, fun w5 hw => by go_simp⟩) hHeld2 ?_
        refine wpAnyH_take (i := 9) (oi := _) (v := .int .i64 0) rfl (by kernel_rfl) (by kernel_rfl) (by kernel_rfl) (fun _ _ _ h => h) (Or.inl ⟨by kernel_rfl, fun w5 hw => by go_simp⟩) hHeld2 ?_
        refine wpAnyH_take (i := 10) (oi := _) (v := .pointer (some ⟨b, k * 5, none⟩)) rfl (by kernel_rfl) (by kernel_rfl) (by kernel_rfl) (fun _ _ _ h => h) (Or.inl ⟨by kernel_rfl, fun w5 hw => by go_simp⟩) hHeld2 ?_
        refine wpAnyH_take (i := 11) (oi := _) (v := .pointer (some ⟨b, k * 5, none⟩)) rfl (by kernel_rfl) (by kernel_rfl) (by kernel_rfl) (fun _ _ _ h => h) (Or.inl ⟨by kernel_rfl, fun w5 hw => by go_simp⟩) hHeld2 ?_
        simp only [Act.put, List.getElem_toArray, List.getElem_cons_succ, List.getElem_cons_zero, List.setIfInBounds_toArray, List.set_cons_zero, List.set_cons_succ]
        obtain ⟨y0, y1⟩ := Q2 _ _ X2
        refine wpAnyH_ready (rs := [12]) (by kernel_rfl) (by simp) ?_
        refine AllReadyH.cons rfl (fun K hK => ?_) AllReadyH.nil
        go_simp
        have hgb : b ≠ g := tag_neI hS2.row hS2.blk (by decide)
        have hhb : b ≠ hb := tag_neI hS2.row hS2.box (by decide)
        have f3 : Fr (fun q => q = b) w2 (w2.setCell ⟨b, k * 5, none⟩ (.pointer (some ⟨m, 0, none⟩))) := (Fr.refl _ _).setB _ _
        refine hK.out _ _ ⟨(f3.block _ (lt_of_heap hS2.blk) (fun e => hgb e.symm)).trans hS2.blk, (f3.block _ (lt_of_heap hS2.box) (fun e => hhb e.symm)).trans hS2.box⟩ (fun hHeld3 => ?_)
        clear hK K hHeld2 y0 y1 c0 c1 c2 k0
        refine wpAnyH_done (by kernel_rfl) ?_ _
        obtain ⟨w3, hw3⟩ : ∃ w3, w3 = w2.setCell ⟨b, k * 5, none⟩ (.pointer (some ⟨m, 0, none⟩)) := ⟨_, rfl⟩
        have B3 : Hid (w3.heap[b]? = some (.cells (cs.setIfInBounds (k * 5) (.pointer (some ⟨m, 0, none⟩))) 61 (0, 0))) := by rw [hw3]; exact heap_set _ hS2.row
        have W3 : Hid (w3 = w2.setCell ⟨b, k * 5, none⟩ (.pointer (some ⟨m, 0, none⟩))) := hw3
        rw [← hw3] at hHeld3 f3 ⊢
        have u0 : w3.cell? ⟨g, 0, none⟩ = some (.slice (some ⟨b, 0, none⟩) n n) := cell_of_heap hHeld3.1 rfl
        have hq4 : (cs.setIfInBounds (k * 5) (.pointer (some ⟨m, 0, none⟩)))[k * 5 + 4]? = some (.int .i64 0) := by rw [Array.getElem?_setIfInBounds, if_neg (by omega)]; exact hS2.rw2 k (Nat.le_refl _) hlt 4 (by omega)
        have u4 : w3.cell? ⟨b, k * 5 + 4, none⟩ = some (.int .i64 0) := cell_of_heap B3.out hq4
        have u5 : w3.frozen? ⟨b, k * 5 + 4, none⟩ = false := frozen_of_heap B3.out
        have S2 : Hid (NwS w hb F R H rt mo n k g b gw mb sl ms cs w2) := hS2
        have HH3 : Hid (w3.heap[g]? = some (.cells #[.slice (some ⟨b, 0, none⟩) n n, .pointer (some ⟨gw, 0, none⟩), .int .i64 rt, .int .i64 mo] 51 (0, 0))) := hHeld3.1
        have F3 : Hid (Fr (fun q => q = b) w2 w3) := f3
        clear hw3 hq4 hS2 hHeld3 f3 hhb Q1 Q2 KE2 G0 G1
        go_upto_region 12 with (fail)
        obtain ⟨w4, hw4⟩ : ∃ w4, w4 = w3.setCell ⟨b, k * 5 + 4, none⟩ (.int .i64 rt) := ⟨_, rfl⟩
        have B4 : Hid (w4.heap[b]? = some (.cells ((cs.setIfInBounds (k * 5) (.pointer (some ⟨m, 0, none⟩))).setIfInBounds (k * 5 + 4) (.int .i64 rt)) 61 (0, 0))) := by rw [hw4]; exact heap_set _ B3.out
        have F4 : Hid (Fr (fun q => q = b) w2 w4) := by rw [hw4]; exact F3.out.setB _ _
        have W4 : Hid (w4 = (w2.setCell ⟨b, k * 5, none⟩ (.pointer (some ⟨m, 0, none⟩))).setCell ⟨b, k * 5 + 4, none⟩ (.int .i64 rt)) := by show _ = _; rw [hw4, W3.out]
        have G4 : Hid (w4.heap[g]? = some (.cells #[.slice (some ⟨b, 0, none⟩) n n, .pointer (some ⟨gw, 0, none⟩), .int .i64 rt, .int .i64 mo] 51 (0, 0))) := (F4.out.block _ (lt_of_heap S2.out.blk) (fun e => hgb e.symm)).trans S2.out.blk
        rw [← hw4]
        clear hw4 u0 u4 u5 B3 W3 HH3 F3
        have qq : ∀ l, l < 5 → l ≠ 0 → l ≠ 4 → ((cs.setIfInBounds (k * 5) (.pointer (some ⟨m, 0, none⟩))).setIfInBounds (k * 5 + 4) (.int .i64 rt))[k * 5 + l]? = (#[Value.pointer none, .int .i64 0, .int .i64 0, .int .i64 0, .int .i64 0] : Array Value)[l]? := fun l hl h0 h4 => by
          rw [Array.getElem?_setIfInBounds, if_neg (by omega), Array.getElem?_setIfInBounds, if_neg (by omega)]
          exact S2.out.rw2 k (Nat.le_refl _) hlt l hl
        have KL := pllower_core (base := w.heap.size) G4.out B4.out hlt hn (qq 1 (by omega) (by omega) (by omega)) (qq 3 (by omega) (by omega) (by omega)) (S2.out.whl.fr F4.out (fun q hq e => wx_tag S2.out.whl S2.out.row (by decide) (by decide) (e ▸ hq))) (Nat.le_trans S2.out.fr.size F4.out.size) (by omega) 1
        clear qq
        go_wp2_with (go_at_call 27; refine KL.mono ?_; clear KL; rintro e w5 ⟨rfl, L5⟩)
        have HN : Hid (∃ sl' ms' cs', NwS w hb F R H rt mo n (k + 1) g b gw mb sl' ms' cs' w5) := HS.out.next hlt X2.out.2.2 X2.out.1 X2.out.2.1 (by rw [← W4.out]; exact L5)
        clear L5 HS S2 X2 F4 G4 B4 W4
        go_roundw
        case rel =>
          obtain ⟨sl', ms', cs', h5⟩ := HN.out
          exact ⟨k + 1, sl', ms', cs', by simp, by omega, h5⟩
        case measure => simp [intOf]; omega
      · have hge : k = n := by omega
        have hnlt : ¬ (k : Int) < (n : Int) := by omega
        have HD : Hid (NewAs w n F R H rt mo (.returned (.tuple #[.pointer (some ⟨g, 0, none⟩), .int .i64 0])) wr) := HS.out.done hge
        clear HS hge hlt
        go_wp2_with (fail)
        go_ret2
        exact HD.out
end Go.Proofs.Ytoiencoojkahmaa
