/- Contracts of what reads a part. -/
import Derived.Test.YtikaefjhmgcidaaZMFd
import Derived.Test.YtikaefjhmgcidaaZHd
import Derived.Deep.RegionHeldLaw
import Derived.Laws.Cover3
import Derived.Deep.DeepAppendWide
import Derived.Deep.LoopGhost
import Derived.Test.YtikaefjhmgcidaaZMFg
namespace Go.Proofs.Ytikaefjhmgcidaa
open Go.RowKit
set_option linter.unusedVariables false
set_option maxRecDepth 100000
set_option maxHeartbeats 4000000

theorem block_set {w : World} {g j : Nat} {cs : Array Value} {t : TypeId} {v : Value} (h : w.heap[g]? = some (.cells cs t (0, 0))) : (w.setCell ⟨g, j, none⟩ v).heap[g]? = some (.cells (cs.setIfInBounds j v) t (0, 0)) := by
  rw [setCell_eq_setRow w g _ cs t _ _ h]
  exact setRow_heap w g cs _ t _ h

/-- The frame f lies in the block g, its payload and its settings elsewhere; since w0 nothing but that block has changed. -/
structure RSt (w0 : World) (g : Nat) (f : Fra) (p : Option Addr) (cp : Nat) (q : Option Addr) (cq : Nat) (w : World) : Prop where
  at_ : FAt w g f p cp q cq
  src : SrcAt w p f.X
  sets : SetsAt w q cq f.Y
  pg : ∀ ad, p = some ad → 0 < f.X.length → g + 2 ≤ ad.block
  qg : ∀ ad, q = some ad → 0 < f.Y.length → g + 2 ≤ ad.block
  big : g + 2 ≤ w.heap.size
  fr : Fr (fun k => k = g) w0 w
theorem SetsAt.fr {S : Nat → Prop} {w w' : World} {q : Option Addr} {c : Nat} {Y : List (Int × Nat)} (h : SetsAt w q c Y) (f : Fr S w w') (hs : ∀ ad, q = some ad → 0 < Y.length → ¬ S ad.block) : SetsAt w' q c Y := by
  refine ⟨h.cap, h.big, h.few, fun r x hr => ?_⟩
  obtain ⟨b, o, hq, hb, h0, h1, h2⟩ := h.cells r x hr
  have h3 : ¬ S b := hs _ hq (by have := (List.getElem?_eq_some_iff.1 hr).1; omega)
  have hc : ∀ j, w'.cell? ⟨b, j, none⟩ = w.cell? ⟨b, j, none⟩ := fun j => f.cell (p := ⟨b, j, none⟩) hb h3
  exact ⟨b, o, hq, Nat.lt_of_lt_of_le hb f.size, (hc _).trans h0, (hc _).trans h1, h2⟩
theorem RSt.later {w0 w w' : World} {g : Nat} {f : Fra} {p q : Option Addr} {cp cq : Nat} (h : RSt w0 g f p cp q cq w) (hf : Fr (fun _ => False) w w') : RSt w0 g f p cp q cq w' :=
  ⟨h.at_.later hf, h.src.oldF hf, h.sets.later hf, h.pg, h.qg, Nat.le_trans h.big hf.size, h.fr.trans (hf.mono (fun _ _ e => e.elim))⟩
/-- A number of the frame is stored. -/
theorem RSt.put {w0 w : World} {g : Nat} {f f' : Fra} {p q : Option Addr} {cp cq : Nat} (h : RSt w0 g f p cp q cq w) (j : Nat) (v : Value) (hX : f'.X = f.X) (hY : f'.Y = f.Y) (hc : (#[.int .i64 f.k, .int .i64 f.fl, .int .i64 f.st, .slice p f.X.length cp, .int .i64 f.pad, .int .u32 f.code, .int .i64 f.last, .int .i64 f.inc, .int .i64 f.dep, .bool f.only, .int .i64 f.wt, .slice q f.Y.length cq] : Array Value).setIfInBounds j v = #[.int .i64 f'.k, .int .i64 f'.fl, .int .i64 f'.st, .slice p f'.X.length cp, .int .i64 f'.pad, .int .u32 f'.code, .int .i64 f'.last, .int .i64 f'.inc, .int .i64 f'.dep, .bool f'.only, .int .i64 f'.wt, .slice q f'.Y.length cq]) : RSt w0 g f' p cp q cq (w.setCell ⟨g, j, none⟩ v) := by
  have hb := block_set (j := j) (v := v) h.at_
  rw [hc] at hb
  have hf : Fr (fun k => k = g) w (w.setCell ⟨g, j, none⟩ v) := (Fr.refl _ _).setB j v
  exact ⟨hb, by rw [hX]; exact h.src.fr hf (fun a e hl e2 => by have := h.pg a e hl; omega), by rw [hY]; exact h.sets.fr hf (fun a e hl e2 => by have := h.qg a e hl; omega), by rw [hX]; exact h.pg, by rw [hY]; exact h.qg, Nat.le_trans h.big hf.size, h.fr.trans hf⟩
/-- The payload is stored. -/
theorem RSt.putX {w0 w : World} {g : Nat} {f : Fra} {p q p' : Option Addr} {cp cq cp' : Nat} (h : RSt w0 g f p cp q cq w) (X : List UInt8) (hX : SrcAt w p' X) (hg : ∀ ad, p' = some ad → 0 < X.length → g + 2 ≤ ad.block) : RSt w0 g { f with X := X } p' cp' q cq (w.setCell ⟨g, 3, none⟩ (.slice p' X.length cp')) := by
  have hb := block_set (j := 3) (v := .slice p' X.length cp') h.at_
  have hf : Fr (fun k => k = g) w (w.setCell ⟨g, 3, none⟩ (.slice p' X.length cp')) := (Fr.refl _ _).setB _ _
  exact ⟨hb, hX.fr hf (fun a e hl e2 => by have := hg a e hl; omega), h.sets.fr hf (fun a e hl e2 => by have := h.qg a e hl; omega), hg, h.qg, Nat.le_trans h.big hf.size, h.fr.trans hf⟩
/-- What a part's reader answers. -/
def ReadAs (w0 : World) (g : Nat) (f : Fra) (e : Ending) (w' : World) : Prop := e = .returned (.tuple #[]) ∧ ∃ p cp q cq, RSt w0 g f p cp q cq w' ∧ (f.Y = [] → q = none ∧ cq = 0)

theorem readLast_in (w0 : World) (f : Fra) (p q : Option Addr) (cp cq g : Nat) (a : Option Addr) (len cap : Nat) (b : List UInt8) (w : World) (h : RSt w0 g f p cp q cq w) (hq : f.Y = [] → q = none ∧ cq = 0) (hs : SrcAt w a b) (hl : b.length = len) (h4 : 4 ≤ len) (hm : len ≤ 9223372036854775807) :
    Calls Try.prog 70 #[.pointer (some ⟨g, 0, none⟩), .slice a len cap] w fun e w' => ReadAs w0 g (rdP 0 f b) e w' := by
  have K1 : Hid (Calls Try.prog 59 #[.slice a len cap, .int .i64 0] w fun e w2 => e = .returned (.tuple #[.int .i64 ((num (b.take 4) % 2147483648 : Nat) : Int), .int .i64 4, .int .i64 0]) ∧ Fr (fun _ => False) w w2) := by
    have h := U31 a len cap ((0 : Nat) : Int) w b hs hl hm
    rw [read_at 4 0 b (by omega)] at h
    exact h
  have hd : rdP 0 f b = { f with last := ((num (b.take 4) % 2147483648 : Nat) : Int) } := by simp [rdP]
  rw [hd]
  obtain ⟨N, hN⟩ : ∃ N, num (b.take 4) % 2147483648 = N := ⟨_, rfl⟩
  rw [hN] at K1 ⊢
  have HR : Hid (RSt w0 g f p cp q cq w) := h
  clear h hs hl hN hd
  go_enter Try.func70, Try.ntmps70
  go_wp2_with (fail)
  refine K1.out.mono ?_
  rintro e w1 ⟨rfl, hf1⟩
  have R1 : Hid (RSt w0 g f p cp q cq w1) := HR.out.later hf1
  have c6 : w1.cell? ⟨g, 6, none⟩ = some (.int .i64 f.last) := cell_of_heap R1.out.at_ rfl
  have z6 : w1.frozen? ⟨g, 6, none⟩ = false := frozen_of_heap R1.out.at_
  go_wp2
  go_end0
  exact ⟨rfl, p, cp, q, cq, R1.out.put 6 _ rfl rfl rfl, hq⟩
theorem readInc_in (w0 : World) (f : Fra) (p q : Option Addr) (cp cq g : Nat) (a : Option Addr) (len cap : Nat) (b : List UInt8) (w : World) (h : RSt w0 g f p cp q cq w) (hq : f.Y = [] → q = none ∧ cq = 0) (hs : SrcAt w a b) (hl : b.length = len) (h4 : 4 ≤ len) (hm : len ≤ 9223372036854775807) :
    Calls Try.prog 81 #[.pointer (some ⟨g, 0, none⟩), .slice a len cap] w fun e w' => ReadAs w0 g (rdP 6 f b) e w' := by
  have K1 : Hid (Calls Try.prog 59 #[.slice a len cap, .int .i64 0] w fun e w2 => e = .returned (.tuple #[.int .i64 ((num (b.take 4) % 2147483648 : Nat) : Int), .int .i64 4, .int .i64 0]) ∧ Fr (fun _ => False) w w2) := by
    have h := U31 a len cap ((0 : Nat) : Int) w b hs hl hm
    rw [read_at 4 0 b (by omega)] at h
    exact h
  have hd : rdP 6 f b = { f with inc := ((num (b.take 4) % 2147483648 : Nat) : Int) } := by simp [rdP]
  rw [hd]
  obtain ⟨N, hN⟩ : ∃ N, num (b.take 4) % 2147483648 = N := ⟨_, rfl⟩
  rw [hN] at K1 ⊢
  have HR : Hid (RSt w0 g f p cp q cq w) := h
  clear h hs hl hN hd
  go_enter Try.func81, Try.ntmps81
  go_wp2_with (fail)
  refine K1.out.mono ?_
  rintro e w1 ⟨rfl, hf1⟩
  have R1 : Hid (RSt w0 g f p cp q cq w1) := HR.out.later hf1
  have c7 : w1.cell? ⟨g, 7, none⟩ = some (.int .i64 f.inc) := cell_of_heap R1.out.at_ rfl
  have z7 : w1.frozen? ⟨g, 7, none⟩ = false := frozen_of_heap R1.out.at_
  go_wp2
  go_end0
  exact ⟨rfl, p, cp, q, cq, R1.out.put 7 _ rfl rfl rfl, hq⟩
theorem readCode_in (w0 : World) (f : Fra) (p q : Option Addr) (cp cq g : Nat) (a : Option Addr) (len cap : Nat) (b : List UInt8) (w : World) (h : RSt w0 g f p cp q cq w) (hq : f.Y = [] → q = none ∧ cq = 0) (hs : SrcAt w a b) (hl : b.length = len) (h4 : 4 ≤ len) (hm : len ≤ 9223372036854775807) :
    Calls Try.prog 72 #[.pointer (some ⟨g, 0, none⟩), .slice a len cap] w fun e w' => ReadAs w0 g (rdP 1 f b) e w' := by
  have K1 : Hid (Calls Try.prog 86 #[.slice a len cap, .int .i64 0] w fun e w2 => e = .returned (.tuple #[.int .u32 ((num (b.take 4) : Nat) : Int), .int .i64 4, .int .i64 0]) ∧ Fr (fun _ => False) w w2) := by
    have h := U32 a len cap ((0 : Nat) : Int) w b hs hl hm
    rw [read_at 4 0 b (by omega)] at h
    exact h
  have hd : rdP 1 f b = { f with code := num (b.take 4) } := by simp [rdP]
  rw [hd]
  obtain ⟨N, hN⟩ : ∃ N, num (b.take 4) = N := ⟨_, rfl⟩
  rw [hN] at K1 ⊢
  have HR : Hid (RSt w0 g f p cp q cq w) := h
  clear h hs hl hN hd
  go_enter Try.func72, Try.ntmps72
  go_wp2_with (fail)
  refine K1.out.mono ?_
  rintro e w1 ⟨rfl, hf1⟩
  have R1 : Hid (RSt w0 g f p cp q cq w1) := HR.out.later hf1
  have c5 : w1.cell? ⟨g, 5, none⟩ = some (.int .u32 f.code) := cell_of_heap R1.out.at_ rfl
  have z5 : w1.frozen? ⟨g, 5, none⟩ = false := frozen_of_heap R1.out.at_
  go_wp2
  go_end0
  exact ⟨rfl, p, cp, q, cq, R1.out.put 5 _ rfl rfl rfl, hq⟩
theorem readPriority_in (w0 : World) (f : Fra) (p q : Option Addr) (cp cq g : Nat) (a : Option Addr) (len cap : Nat) (b : List UInt8) (w : World) (h : RSt w0 g f p cp q cq w) (hq : f.Y = [] → q = none ∧ cq = 0) (hs : SrcAt w a b) (hl : b.length = len) (h4 : 5 ≤ len) (hm : len ≤ 9223372036854775807) (hag : ∀ ad, a = some ad → 0 < b.length → ad.block ≠ g) :
    Calls Try.prog 74 #[.pointer (some ⟨g, 0, none⟩), .slice a len cap] w fun e w' => ReadAs w0 g (rdP 2 f b) e w' := by
  have K1 : Hid (Calls Try.prog 59 #[.slice a len cap, .int .i64 0] w fun e w2 => e = .returned (.tuple #[.int .i64 ((num (b.take 4) % 2147483648 : Nat) : Int), .int .i64 4, .int .i64 0]) ∧ Fr (fun _ => False) w w2) := by
    have h := U31 a len cap ((0 : Nat) : Int) w b hs hl hm
    rw [read_at 4 0 b (by omega)] at h
    exact h
  obtain ⟨ad, rfl, -⟩ := hs 0 _ (getD_some b 0 (by omega))
  have hne := hag ad rfl (by omega)
  have hd : rdP 2 f b = { f with dep := ((num (b.take 4) % 2147483648 : Nat) : Int), only := decide (128 ≤ (b.getD 0 0).toNat), wt := (((b.getD 4 0).toNat : Nat) : Int) + 1 } := by simp [rdP]
  rw [hd]
  have HC : Hid (∀ w', Fr (fun k => k = g) w w' → w'.cell? ⟨ad.block, ad.off + 0, none⟩ = some (.int .u8 (b.getD 0 0).toNat) ∧ w'.cell? ⟨ad.block, ad.off + 4, none⟩ = some (.int .u8 (b.getD 4 0).toNat)) := fun w' hf =>
    ⟨src_at (hs.fr hf (fun a e _ => by cases e; exact hne)) rfl 0 (by omega), src_at (hs.fr hf (fun a e _ => by cases e; exact hne)) rfl 4 (by omega)⟩
  have hspot : ad.spot = none := by
    obtain ⟨ad', e, hc⟩ := hs 0 _ (getD_some b 0 (by omega))
    cases e
    have := World.cell?_spot hc
    simpa [Addr.add] using this
  obtain ⟨bb, oo, ss⟩ := ad
  dsimp only at hspot
  subst hspot
  obtain ⟨N, hN⟩ : ∃ N, num (b.take 4) % 2147483648 = N := ⟨_, rfl⟩
  obtain ⟨x0, hx0⟩ : ∃ x, b.getD 0 0 = x := ⟨_, rfl⟩
  obtain ⟨x4, hx4⟩ : ∃ x, b.getD 4 0 = x := ⟨_, rfl⟩
  rw [hN] at K1 ⊢
  rw [hx0, hx4] at HC ⊢
  have u0 := x0.toNat_lt
  have u4 := x4.toNat_lt
  have e7 : ((x0.toNat : Int) / 128 == 1) = decide (128 ≤ x0.toNat) := by
    rw [Bool.eq_iff_iff]
    simp
    omega
  have HR : Hid (RSt w0 g f p cp q cq w) := h
  dsimp only at HC hne
  have HNE : Hid (bb ≠ g) := hne
  clear h hs hl hN hd hx0 hx4 hag hne
  go_enter Try.func74, Try.ntmps74
  go_wp2_with (fail)
  refine K1.out.mono ?_
  rintro e w1 ⟨rfl, hf1⟩
  have R1 : Hid (RSt w0 g f p cp q cq w1) := HR.out.later hf1
  have F1 : Hid (Fr (fun k => k = g) w w1) := hf1.mono (fun _ _ e => e.elim)
  have c8 : w1.cell? ⟨g, 8, none⟩ = some (.int .i64 f.dep) := cell_of_heap R1.out.at_ rfl
  have z8 : w1.frozen? ⟨g, 8, none⟩ = false := frozen_of_heap R1.out.at_
  have R2 : Hid (RSt w0 g { f with dep := (N : Int) } p cp q cq (w1.setCell ⟨g, 8, none⟩ (.int .i64 (N : Int)))) := R1.out.put 8 _ rfl rfl rfl
  have F2 : Hid (Fr (fun k => k = g) w (w1.setCell ⟨g, 8, none⟩ (.int .i64 (N : Int)))) := F1.out.setB _ _
  have R3 : Hid (RSt w0 g { f with dep := (N : Int), only := decide (128 ≤ x0.toNat) } p cp q cq ((w1.setCell ⟨g, 8, none⟩ (.int .i64 (N : Int))).setCell ⟨g, 9, none⟩ (.bool (decide (128 ≤ x0.toNat))))) := R2.out.put 9 _ rfl rfl rfl
  have F3 : Hid (Fr (fun k => k = g) w ((w1.setCell ⟨g, 8, none⟩ (.int .i64 (N : Int))).setCell ⟨g, 9, none⟩ (.bool (decide (128 ≤ x0.toNat))))) := F2.out.setB _ _
  have d0 := (HC.out _ F2.out).1
  have d0' : (w1.setCell ⟨g, 8, none⟩ (.int .i64 (N : Int))).cell? ⟨bb, oo, none⟩ = some (.int .u8 x0.toNat) := d0
  have d4 := (HC.out _ F3.out).2
  have c9 : (w1.setCell ⟨g, 8, none⟩ (.int .i64 (N : Int))).cell? ⟨g, 9, none⟩ = some (.bool f.only) := cell_of_heap R2.out.at_ rfl
  have z9 : (w1.setCell ⟨g, 8, none⟩ (.int .i64 (N : Int))).frozen? ⟨g, 9, none⟩ = false := frozen_of_heap R2.out.at_
  have c10 : ((w1.setCell ⟨g, 8, none⟩ (.int .i64 (N : Int))).setCell ⟨g, 9, none⟩ (.bool (decide (128 ≤ x0.toNat)))).cell? ⟨g, 10, none⟩ = some (.int .i64 f.wt) := cell_of_heap R3.out.at_ rfl
  have z10 : ((w1.setCell ⟨g, 8, none⟩ (.int .i64 (N : Int))).setCell ⟨g, 9, none⟩ (.bool (decide (128 ≤ x0.toNat)))).frozen? ⟨g, 10, none⟩ = false := frozen_of_heap R3.out.at_
  clear d0 hf1
  go_wp2
  go_end0
  exact ⟨rfl, p, cp, q, cq, R3.out.put 10 _ rfl rfl rfl, hq⟩

theorem Clone_in (a : Option Addr) (len cap : Nat) (b : List UInt8) (w : World) (hs : SrcAt w a b) (hl : b.length = len) (hm : len ≤ 225179981368371) :
    Calls Try.prog 87 #[.slice a len cap] w fun e w' => ∃ a' c', e = .returned (.slice a' len c') ∧ Gath w w' (.slice a' len c') b := by
  have hnil : ∀ (a : Option Addr) (l c : Nat) (w : World), Sem.run Try.prog (binOp .eql 31 (.slice a l c) (.slice none 0 0)) w = .ok (.bool a.isNone) w := fun a l c w => by
    simp [binOp, run_equal_slice_nil w _ _ a l c Try.underlying31]
  cases a with
  | none =>
    have h0 : b = [] := by
      cases b with
      | nil => rfl
      | cons x r => obtain ⟨ad, e, _⟩ := hs 0 x rfl; cases e
    subst h0
    subst hl
    go_enter Try.func87, Try.ntmps87
    go_wp2
    go_ret
    exact ⟨none, 0, rfl, Gath.ofNil (Fr.refl _ _)⟩
  | some ad =>
    have HS : Hid (SrcAt w (some ad) b) := hs
    have HL : Hid (b.length = len) := hl
    obtain ⟨j, J1, J2, J3, J4⟩ := info5
    have J1 : Hid _ := J1
    have J2 : Hid _ := J2
    have J3 : Hid _ := J3
    have J4 : Hid _ := J4
    clear hs hl
    go_enter Try.func87, Try.ntmps87
    go_wp2_with (refine wpList_gather (w0 := w) rfl (.tmp 5) (.tmp 6) 31 31 rfl j Try.underlying31 Try.underlying31 J1.out J2.out J3.out J4.out (.slice (some ⟨w.heap.size, 0, none⟩) 0 0) [] (by go_simp) (Gath.start (Fr.refl _ _)) (some ad) len cap (by go_simp) b (HS.out.oldF ((Fr.refl _ _).alloc _)) HL.out (by simpa using hm) ?_; intro a1 n1 c1 w1 Hn1 G1 F1)
    go_ret
    obtain rfl : n1 = len := by rw [Hn1.out]; simp
    exact ⟨a1, c1, rfl, G1⟩

theorem readRest_in (w0 : World) (f : Fra) (p q : Option Addr) (cp cq g : Nat) (a : Option Addr) (len cap : Nat) (b : List UInt8) (w : World) (h : RSt w0 g f p cp q cq w) (hq : f.Y = [] → q = none ∧ cq = 0) (hs : SrcAt w a b) (hl : b.length = len) (hm : len ≤ 225179981368371) :
    Calls Try.prog 76 #[.pointer (some ⟨g, 0, none⟩), .slice a len cap] w fun e w' => ReadAs w0 g { f with X := b } e w' := by
  have K1 : Hid (Calls Try.prog 87 #[.slice a len cap] w fun e w' => ∃ a' c', e = .returned (.slice a' len c') ∧ Gath w w' (.slice a' len c') b) := Clone_in a len cap b w hs hl hm
  have HR : Hid (RSt w0 g f p cp q cq w) := h
  have hg := lt_of_heap h.at_
  have HG : Hid (g < w.heap.size) := hg
  have HL : Hid (b.length = len) := hl
  clear h hs hl hg
  go_enter Try.func76, Try.ntmps76
  go_wp2_with (fail)
  refine K1.out.mono ?_
  rintro e w1 ⟨a1, c1, rfl, hG1⟩
  have R1 : Hid (RSt w0 g f p cp q cq w1) := HR.out.later hG1.2.2
  have G1 : Hid (Gath w w1 (.slice a1 len c1) b) := hG1
  have c3 : w1.cell? ⟨g, 3, none⟩ = some (.slice p f.X.length cp) := cell_of_heap R1.out.at_ rfl
  have z3 : w1.frozen? ⟨g, 3, none⟩ = false := frozen_of_heap R1.out.at_
  clear hG1
  go_wp2
  go_end0
  have h2 := R1.out.putX (p' := a1) (cp' := c1) b (own_src G1.out.1) (fun ad e _ => Nat.le_trans HR.out.big (G1.out.new ad e))
  rw [HL.out] at h2
  exact ⟨rfl, a1, c1, q, cq, h2, hq⟩
end Go.Proofs.Ytikaefjhmgcidaa
/- Contract of what reads settings. -/
namespace Go.Proofs.Ytikaefjhmgcidaa
open Go.RowKit
set_option linter.unusedVariables false
set_option maxRecDepth 100000
set_option maxHeartbeats 4000000

def setCells (Y : List (Int × Nat)) : List Value := (Y.map fun s => [Value.int .i64 s.1, .int .u32 (s.2 : Nat)]).flatten
theorem setCells_append (Y Z : List (Int × Nat)) : setCells (Y ++ Z) = setCells Y ++ setCells Z := by simp [setCells]
theorem setCells_len (Y : List (Int × Nat)) : (setCells Y).length = Y.length * 2 := by
  induction Y with
  | nil => rfl
  | cons s Y ih => simp [setCells] at *; omega
theorem setCells_at (Y : List (Int × Nat)) : ∀ (r : Nat) (s : Int × Nat), Y[r]? = some s → (setCells Y)[r * 2]? = some (.int .i64 s.1) ∧ (setCells Y)[r * 2 + 1]? = some (.int .u32 (s.2 : Nat)) := by
  induction Y with
  | nil => intro r s h; simp at h
  | cons a Y ih =>
    intro r s h
    have e : setCells (a :: Y) = Value.int .i64 a.1 :: .int .u32 (a.2 : Nat) :: setCells Y := by simp [setCells]
    rw [e]
    cases r with
    | zero => simp at h; subst h; simp
    | succ r =>
      have h1 := ih r s (by simpa using h)
      rw [show (r + 1) * 2 = r * 2 + 1 + 1 by omega]
      simpa using h1
theorem setsOf_len (n : Nat) : ∀ b, (setsOf n b).length = n := by
  induction n with
  | zero => intro b; rfl
  | succ n ih => intro b; simp [setsOf, ih]
theorem setsOf_next (k : Nat) : ∀ b, setsOf (k + 1) b = setsOf k b ++ [(((num ((b.drop (6 * k)).take 2) : Nat) : Int), num ((b.drop (6 * k + 2)).take 4))] := by
  induction k with
  | zero => intro b; simp [setsOf]
  | succ k ih =>
    intro b
    rw [setsOf, ih (b.drop 6)]
    simp only [setsOf, List.cons_append, List.drop_drop]
    rw [show 6 + 6 * k = 6 * (k + 1) by omega, show 6 + (6 * k + 2) = 6 * (k + 1) + 2 by omega]
theorem num_small (n : Nat) (b : List UInt8) : num (b.take n) < 256 ^ n := by
  have h := num_lt (b.take n)
  exact Nat.lt_of_lt_of_le h (Nat.pow_le_pow_right (by omega) (by simp; omega))
theorem setsOf_ok (n : Nat) : ∀ b, ∀ s ∈ setsOf n b, (0 ≤ s.1 ∧ s.1 < 65536) ∧ s.2 < 4294967296 := by
  induction n with
  | zero => intro b s hs; simp [setsOf] at hs
  | succ n ih =>
    intro b s hs
    simp only [setsOf, List.mem_cons] at hs
    rcases hs with rfl | hs
    · have h1 := num_small 2 b
      have h2 := num_small 4 (b.drop 2)
      simp only at *
      omega
    · exact ih _ s hs
/-- Settings of one's own are settings in memory. -/
theorem owns_sets {w : World} {base : Nat} {q : Option Addr} {n c : Nat} {Y : List (Int × Nat)} (h : w.ownsRow base 80 2 (.slice q n c) n (setCells Y)) (hn : Y.length = n) (hf : n * 16 < 2 ^ 47) (hok : ∀ s ∈ Y, (0 ≤ s.1 ∧ s.1 < 65536) ∧ s.2 < 4294967296) : SetsAt w q c Y := by
  obtain ⟨h1, ⟨h2, rfl⟩ | ⟨g, cap, cur, h2, h3, h4, h5, h6, h7, h8⟩⟩ := h
  · cases h2
    have : Y = [] := List.eq_nil_of_length_eq_zero hn
    subst this
    exact SetsAt.nil w
  · cases h2
    refine ⟨by omega, h6, by omega, fun r s hr => ⟨g, 0, rfl, lt_of_heap h4, ?_, ?_, ?_, (hok s (List.mem_of_getElem? hr)).2⟩⟩
    · refine cell_of_heap h4 ?_
      have := (setCells_at Y r s hr).1
      rw [← h8, List.getElem?_take] at this
      split at this
      · simpa using this
      · cases this
    · refine cell_of_heap h4 ?_
      have := (setCells_at Y r s hr).2
      rw [← h8, List.getElem?_take] at this
      split at this
      · simpa using this
      · cases this
    · have := hok s (List.mem_of_getElem? hr)
      exact i64w (by omega) (by omega)

theorem infoS : ∃ i z, Try.prog.info? 80 = some i ∧ i.zero = some z ∧ i.size = 2 ∧ i.bytes = 16 ∧ z.cells.size = 2 :=
  ⟨(Try.prog.info? 80).get (by kernel_rfl), .agg #[.int .i64 0, .int .u32 0], by kernel_rfl, by kernel_rfl, by kernel_rfl, by kernel_rfl, by kernel_rfl⟩

/-- The state of the settings' reader: k settings were read. -/
structure SSt (w : World) (g : Nat) (f : Fra) (p : Option Addr) (cp : Nat) (b : List UInt8) (k : Nat) (qa : Option Addr) (qc : Nat) (wr : World) : Prop where
  at_ : wr.heap[g]? = some (.cells #[.int .i64 f.k, .int .i64 f.fl, .int .i64 f.st, .slice p f.X.length cp, .int .i64 f.pad, .int .u32 f.code, .int .i64 f.last, .int .i64 f.inc, .int .i64 f.dep, .bool f.only, .int .i64 f.wt, .slice qa k qc] 36 (0, 0))
  own : wr.ownsRow w.heap.size 80 2 (.slice qa k qc) k (setCells (setsOf k b))
  fr : Fr (fun j => j = g) w wr
theorem SSt.later {w w1 w2 : World} {g : Nat} {f : Fra} {p : Option Addr} {cp : Nat} {b : List UInt8} {k : Nat} {qa : Option Addr} {qc : Nat} (h : SSt w g f p cp b k qa qc w1) (hf : Fr (fun _ => False) w1 w2) : SSt w g f p cp b k qa qc w2 := by
  refine ⟨(hf.block g (lt_of_heap h.at_) id).trans h.at_, ?_, h.fr.trans (hf.mono (fun _ _ e => e.elim))⟩
  obtain ⟨h1, h2 | ⟨gg, cap, cur, h2, h3, h4, h5⟩⟩ := h.own
  · exact ⟨h1, .inl h2⟩
  · exact ⟨h1, .inr ⟨gg, cap, cur, h2, h3, (hf.block gg (lt_of_heap h4) id).trans h4, h5⟩⟩
theorem SSt.apart {w w1 : World} {g : Nat} {f : Fra} {p : Option Addr} {cp : Nat} {b : List UInt8} {k : Nat} {qa : Option Addr} {qc : Nat} (h : SSt w g f p cp b k qa qc w1) {j : Nat} (hj : (Value.slice qa k qc).ownBlock = some j) : w.heap.size ≤ j := by
  obtain ⟨h1, ⟨h2, _⟩ | ⟨gg, cap, cur, h2, h3, _⟩⟩ := h.own
  · rw [h2] at hj; simp [Value.ownBlock] at hj
  · rw [h2] at hj; simp [Value.ownBlock] at hj; omega

theorem readSettings_in (w0 : World) (f : Fra) (p : Option Addr) (cp g : Nat) (a : Option Addr) (len cap : Nat) (b : List UInt8) (w : World) (h : RSt w0 g f p cp none 0 w) (hY : f.Y = []) (hs : SrcAt w a b) (hl : b.length = len) (h6 : len % 6 = 0) (hm : len ≤ 16777215) (hag : ∀ ad, a = some ad → 0 < b.length → ad.block ≠ g) :
    Calls Try.prog 78 #[.pointer (some ⟨g, 0, none⟩), .slice a len cap] w fun e w' => ReadAs w0 g (rdP 4 f b) e w' := by
  have hg := lt_of_heap h.at_
  have hsrc : Hid (∀ w', Fr (fun j => j = g) w w' → SrcAt w' a b) := fun w' hf => hs.fr hf (fun ad e hl => hag ad e hl)
  have K1 : Hid (∀ k w', 6 * k + 6 ≤ len → Fr (fun j => j = g) w w' → Calls Try.prog 89 #[.slice a len cap, .int .i64 ((6 * k : Nat) : Int)] w' fun e w2 => e = .returned (.tuple #[.int .i64 ((num ((b.drop (6 * k)).take 2) : Nat) : Int), .int .i64 ((6 * k + 2 : Nat) : Int), .int .i64 0]) ∧ Fr (fun _ => False) w' w2) := fun k w' hk hf => by
    have h := U16 a len cap ((6 * k : Nat) : Int) w' b (hsrc.out w' hf) hl (by omega)
    rw [read_at 2 (6 * k) b (by omega)] at h
    exact h
  have K2 : Hid (∀ k w', 6 * k + 6 ≤ len → Fr (fun j => j = g) w w' → Calls Try.prog 86 #[.slice a len cap, .int .i64 ((6 * k + 2 : Nat) : Int)] w' fun e w2 => e = .returned (.tuple #[.int .u32 ((num ((b.drop (6 * k + 2)).take 4) : Nat) : Int), .int .i64 ((6 * k + 6 : Nat) : Int), .int .i64 0]) ∧ Fr (fun _ => False) w' w2) := fun k w' hk hf => by
    have h := U32 a len cap ((6 * k + 2 : Nat) : Int) w' b (hsrc.out w' hf) hl (by omega)
    rw [read_at 4 (6 * k + 2) b (by omega)] at h
    exact h
  have S0 : Hid (SSt w g f p cp b 0 none 0 w) := by
    refine ⟨?_, ⟨rfl, .inl ⟨rfl, rfl⟩⟩, Fr.refl _ _⟩
    have := h.at_
    rw [FAt, hY] at this
    exact this
  have HR : Hid (RSt w0 g f p cp none 0 w) := h
  have HG : Hid (g < w.heap.size) := hg
  have HL : Hid (b.length = len) := hl
  have HEND : Hid (∀ k qa qc wr, 6 * k = len → (k = 0 → qa = none ∧ qc = 0) → SSt w g f p cp b k qa qc wr → ReadAs w0 g (rdP 4 f b) (.returned (.tuple #[])) wr) := fun k qa qc wr hk hz hS => by
    have hd : rdP 4 f b = { f with Y := setsOf k b } := by
      simp only [rdP, hY, hl]
      simp
      congr
      omega
    rw [hd]
    have hln := setsOf_len k b
    have hst : SetsAt wr qa qc (setsOf k b) := owns_sets hS.own hln (by omega) (setsOf_ok k b)
    have hat := hS.at_
    refine ⟨rfl, p, cp, qa, qc, ⟨?_, ?_, hst, h.pg, fun ad e hp => ?_, Nat.le_trans h.big hS.fr.size, h.fr.trans hS.fr⟩, fun e => ?_⟩
    · show wr.heap[g]? = some (.cells #[.int .i64 f.k, .int .i64 f.fl, .int .i64 f.st, .slice p f.X.length cp, .int .i64 f.pad, .int .u32 f.code, .int .i64 f.last, .int .i64 f.inc, .int .i64 f.dep, .bool f.only, .int .i64 f.wt, .slice qa (setsOf k b).length qc] 36 (0, 0))
      rw [hln]
      exact hat
    · exact h.src.fr hS.fr (fun ad e hp e2 => by have := h.pg ad e hp; omega)
    · have := hS.apart (j := ad.block) (by rw [e]; rfl)
      exact Nat.le_trans h.big this
    · have hk0 : k = 0 := by rw [← hln]; exact congrArg List.length e
      exact hz hk0
  obtain ⟨it, iz, I1, I2, I3, I4, I5⟩ := infoS
  have I : Hid (Try.prog.info? 80 = some it ∧ it.zero = some iz ∧ it.size = 2 ∧ it.bytes = 16 ∧ iz.cells.size = 2) := ⟨I1, I2, I3, I4, I5⟩
  have H6 : Hid (len % 6 = 0) := h6
  have HA : Hid (∀ k qa qc w1 id val, k ≤ 16777215 → id = ((num ((b.drop (6 * k)).take 2) : Nat) : Int) → val = num ((b.drop (6 * k + 2)).take 4) → SSt w g f p cp b k qa qc w1 →
      (∀ (j : Nat) u, ([.int .i64 id, .int .u32 (val : Nat)] : List Value)[j]? = some u → (w1.alloc (.cells #[.int .i64 id, .int .u32 (val : Nat)] 80)).cell? ((⟨w1.heap.size, 0, none⟩ : Addr).add j) = some u) ∧
      (w1.alloc (.cells #[.int .i64 id, .int .u32 (val : Nat)] 80)).ownsRow w.heap.size 80 2 (.slice qa k qc) k (setCells (setsOf k b)) ∧
      w.heap.size ≤ (w1.alloc (.cells #[.int .i64 id, .int .u32 (val : Nat)] 80)).heap.size ∧
      (∀ v2 w2, w2.ownsRow w.heap.size 80 2 v2 (k + 1) (setCells (setsOf k b) ++ [.int .i64 id, .int .u32 (val : Nat)]) → (w1.alloc (.cells #[.int .i64 id, .int .u32 (val : Nat)] 80)).grownBy w2 (Value.slice qa k qc).ownBlock → ∃ qa2 qc2, v2 = .slice qa2 (k + 1) qc2 ∧ w2.cell? ⟨g, 11, none⟩ = some (.slice qa k qc) ∧ w2.frozen? ⟨g, 11, none⟩ = false ∧ SSt w g f p cp b (k + 1) qa2 qc2 (w2.setCell ⟨g, 11, none⟩ (.slice qa2 (k + 1) qc2)))) := fun k qa qc w1 id val hk hid hval hS => by
    have hal : Fr (fun _ => False) w1 (w1.alloc (.cells #[.int .i64 id, .int .u32 (val : Nat)] 80)) := (Fr.refl _ _).alloc _
    have hS2 := hS.later hal
    refine ⟨fun j u hj => ?_, hS2.own, by have := hS2.fr.size; omega, fun v2 w2 hO hgr => ?_⟩
    · rw [add_none, Nat.zero_add]
      exact cell_of_heap (heap_alloc_new w1 _) (by simpa using hj)
    · have hne : some g ≠ (Value.slice qa k qc).ownBlock := fun e => by have := hS.apart e.symm; omega
      have hb : w2.heap[g]? = _ := (hgr.block g (lt_of_heap hS2.at_) hne).trans hS2.at_
      obtain ⟨hx1, ⟨hx2, hx3⟩ | ⟨gg, cc, cur, rfl, hx3, hx4, hx5, hx6, hx7, hx8⟩⟩ := hO
      · omega
      · have hgg : gg ≠ g := by omega
        refine ⟨some ⟨gg, 0, none⟩, cc, rfl, cell_of_heap hb rfl, frozen_of_heap hb, ⟨block_set hb, ?_, ?_⟩⟩
        · refine ⟨?_, .inr ⟨gg, cc, cur, rfl, hx3, ?_, hx5, hx6, hx7, ?_⟩⟩
          · rw [setCells_len, setsOf_len]
          · rw [Below.heap_setCell _ _ _ _ (by exact hgg)]; exact hx4
          · rw [hx8, setsOf_next, setCells_append, hid, hval]
            rfl
        · have hf2 : Fr (fun j => j = g ∨ w.heap.size ≤ j) w w2 := (hS2.fr.mono (fun _ _ e => .inl e)).trans ⟨hgr.os, hgr.tape, hgr.output, hgr.size, fun j hj hn => hgr.block j hj (fun e => hn (.inr (hS.apart e.symm)))⟩
          exact Fr.setB (hf2.mono (fun j hj e => by rcases e with e | e; exact e; omega)) _ _
  clear h hs hl hag hY h6 I1 I2 I3 I4 I5 hg
  go_enter Try.func78, Try.ntmps78
  go_wp2_with (fail)
  go_loopw [4] (fun x4 wr => ∃ (k qc : Nat) (qa : Option Addr), x4 = .int .i64 ((6 * k : Nat) : Int) ∧ 6 * k ≤ len ∧ Hid ((k = 0 → qa = none ∧ qc = 0) ∧ SSt w g f p cp b k qa qc wr)) (fun x4 _ => len - (intOf x4).toNat)
  case atStart => exact ⟨0, 0, none, rfl, by omega, fun _ => ⟨rfl, rfl⟩, S0.out⟩
  case round =>
    obtain ⟨k, qc, qa, rfl, hk, HS⟩ := hrel
    by_cases hin : 6 * k < len
    · have hk6 : 6 * k + 6 ≤ len := by have := H6.out; omega
      have hin2 : ((6 * k : Nat) : Int) < (len : Int) := by omega
      have KA := K1.out k wr hk6 HS.out.2.fr
      have HK6 : Hid (6 * k + 6 ≤ len) := hk6
      have e6 : ((6 * k : Nat) : Int) + 6 = ((6 * (k + 1) : Nat) : Int) := by omega
      obtain ⟨id, hid⟩ : ∃ id, ((num ((b.drop (6 * k)).take 2) : Nat) : Int) = id := ⟨_, rfl⟩
      obtain ⟨val, hval⟩ : ∃ val, num ((b.drop (6 * k + 2)).take 4) = val := ⟨_, rfl⟩
      have HID : Hid (id = ((num ((b.drop (6 * k)).take 2) : Nat) : Int) ∧ val = num ((b.drop (6 * k + 2)).take 4)) := ⟨hid.symm, hval.symm⟩
      have KB : Hid (∀ w', Fr (fun j => j = g) w w' → Calls Try.prog 86 #[.slice a len cap, .int .i64 ((6 * k + 2 : Nat) : Int)] w' fun e w2 => e = .returned (.tuple #[.int .u32 (val : Nat), .int .i64 ((6 * k + 6 : Nat) : Int), .int .i64 0]) ∧ Fr (fun _ => False) w' w2) := fun w' hf => by rw [← hval]; exact K2.out k w' HK6.out hf
      rw [hid] at KA
      clear hid hval
      obtain ⟨n6, hn6⟩ : ∃ n6 : Nat, 6 * k = n6 := ⟨_, rfl⟩
      obtain ⟨n8, hn8⟩ : ∃ n8 : Nat, 6 * k + 2 = n8 := ⟨_, rfl⟩
      obtain ⟨n9, hn9⟩ : ∃ n9 : Nat, 6 * (k + 1) = n9 := ⟨_, rfl⟩
      have HN9 : Hid (n9 = 6 * (k + 1) ∧ n6 = 6 * k) := ⟨hn9.symm, hn6.symm⟩
      rw [hn8] at KA KB
      rw [hn6] at KA hin2 e6 ⊢
      rw [hn9] at e6
      clear hn6 hn8 hn9 hin hk6 hk
      go_wp2_with (fail)
      refine KA.mono ?_
      rintro e w1 ⟨rfl, hf1⟩
      have S1 : Hid (SSt w g f p cp b k qa qc w1) := HS.out.2.later hf1
      clear hf1 KA
      go_wp2_with (fail)
      refine (KB.out _ S1.out.fr).mono ?_
      rintro e w2 ⟨rfl, hf2⟩
      have S2 : Hid (SSt w g f p cp b k qa qc w2) := S1.out.later hf2
      have hA := HA.out k qa qc w2 id val (by have := HK6.out; omega) HID.out.1 HID.out.2 S2.out
      have A1 : Hid _ := hA.1
      have A2 : Hid _ := hA.2.1
      have A3 : Hid _ := hA.2.2.1
      have A4 : Hid _ := hA.2.2.2
      have d11 : w2.cell? ⟨g, 11, none⟩ = some (.slice qa k qc) := cell_of_heap S2.out.at_ rfl
      have HK1 : Hid (k + 1 ≤ maxLen ∧ ((k + 1) + (k + 1) / 4 + 192) * 16 ≤ 281474976710656) := by
        have := HK6.out
        refine ⟨?_, ?_⟩
        · unfold maxLen; omega
        · omega
      clear hA hf2
      go_wp2_with (refine wpList_append_own_wide _ rfl (.tmp 35) (.tmp 39) 34 rfl w.heap.size 80 it iz 2 16 Try.underlying34 I.out.1 I.out.2.1 I.out.2.2.1 I.out.2.2.2.1 I.out.2.2.2.2 (by omega) (.slice qa k qc) k (setCells (setsOf k b)) (by go_simp) A2.out ⟨w2.heap.size, 0, none⟩ 1 1 [.int .i64 id, .int .u32 (val : Nat)] (by go_simp) rfl A1.out (by simp [Value.oneCell']) HK1.out.1 HK1.out.2 A3.out ?_; intro v3 w3 Hrow Hgr Hiff; obtain ⟨qa3, qc3, rfl, d12, z12, hS3⟩ := A4.out v3 w3 Hrow Hgr; have S3 : Hid (SSt w g f p cp b (k + 1) qa3 qc3 (w3.setCell ⟨g, 11, none⟩ (.slice qa3 (k + 1) qc3))) := hS3; clear Hrow Hgr Hiff hS3)
      go_roundw
      case rel =>
        refine ⟨k + 1, qc3, qa3, ?_, ?_, fun h => by omega, S3.out⟩
        · rw [← HN9.out.1]
        · have := HK6.out; omega
      case measure =>
        have h1 := HN9.out
        have h2 := HK6.out
        simp [intOf]
        omega
    · have hin2 : ¬ ((6 * k : Nat) : Int) < (len : Int) := by omega
      have hk2 : 6 * k = len := by omega
      have hE := HEND.out k qa qc wr hk2 HS.out.1 HS.out.2
      go_wp2_with (fail)
      go_end0
      exact hE
end Go.Proofs.Ytikaefjhmgcidaa
/- Cuts by three indices; how many bytes parts have at least. -/
namespace Go.Proofs.Ytikaefjhmgcidaa
open Go.RowKit
set_option linter.unusedVariables false
set_option maxRecDepth 100000
set_option maxHeartbeats 4000000

theorem addr_add (a : Addr) (k j : Nat) : (a.add k).add j = a.add (k + j) := by
  unfold Addr.add
  by_cases h1 : k = 0
  · subst h1; simp
  · by_cases h2 : j = 0
    · subst h2; simp [h1]
    · simp [h1, h2, Nat.add_assoc]
/-- A cut by three indices, the last two the same. -/
theorem cut3 (a : Option Addr) (len cap lo hi : Nat) (b : List UInt8) (hl : b.length = len) (hc : len ≤ cap) (h1 : lo ≤ hi) (h2 : hi ≤ len) : ∃ dp : Option Addr,
    (∀ w, (Instr.slice 31 (.slice a len cap) (some (.int .i64 (lo : Int))) (some (.int .i64 (hi : Int))) (some (.int .i64 (hi : Int)))).run Try.prog w = .ok (.slice dp (hi - lo) (hi - lo)) w) ∧
    (∀ w, SrcAt w a b → SrcAt w dp ((b.drop lo).take (hi - lo))) ∧ (∀ ad, dp = some ad → ∃ ad', a = some ad' ∧ ad.block = ad'.block) := by
  have hsz : (Try.prog.info? 5).map (·.size) = some 1 := by kernel_rfl
  have hb1 := fun w => run_sliceBound (P := Try.prog) (w := w) .i64 (hi : Int) cap .slice3Acap (by omega) (by omega)
  have hb2 := fun w => run_sliceBound (P := Try.prog) (w := w) .i64 (hi : Int) hi .slice3B (by omega) (by omega)
  have hb3 := fun w => run_sliceBound (P := Try.prog) (w := w) .i64 (lo : Int) hi .slice3C (by omega) (by omega)
  cases hi5 : Try.prog.info? 5 with
  | none => simp [hi5] at hsz
  | some i =>
  have h1' : i.size = 1 := by simpa [hi5] using hsz
  cases a with
  | none =>
    refine ⟨none, fun w => ?_, fun w hs => ?_, fun ad e => by cases e⟩
    · simp [Instr.slice, run_underlying Try.underlying31, Instr.sliceBounds, hb1, hb2, hb3, sizeOf, typeInfo, hi5]
    · have h0 : b = [] := by
        cases b with
        | nil => rfl
        | cons x r => obtain ⟨ad, e, _⟩ := hs 0 x rfl; cases e
      subst h0
      simpa using SrcAt.nil w none
  | some ad =>
    refine ⟨if hi = lo then some ad else some (ad.add lo), fun w => ?_, fun w hs => ?_, fun ad' e => ?_⟩
    · simp [Instr.slice, run_underlying Try.underlying31, Instr.sliceBounds, hb1, hb2, hb3, sizeOf, typeInfo, hi5, h1']
    · by_cases he : hi = lo
      · rw [if_pos he, he, Nat.sub_self, List.take_zero]
        exact SrcAt.nil _ _
      · rw [if_neg he]
        intro j c hj
        rw [List.getElem?_take] at hj
        split at hj
        · rw [List.getElem?_drop] at hj
          obtain ⟨ad', e, hcell⟩ := hs (lo + j) c hj
          cases e
          exact ⟨_, rfl, by rw [addr_add]; exact hcell⟩
        · cases hj
    · refine ⟨ad, rfl, ?_⟩
      split at e
      · cases e; rfl
      · cases e; unfold Addr.add; split <;> rfl

/-- A cut by three indices, from the beginning, the last two the same. -/
theorem cut3n (a : Option Addr) (len cap hi : Nat) (b : List UInt8) (hl : b.length = len) (hc : len ≤ cap) (h2 : hi ≤ len) : ∃ dp : Option Addr,
    (∀ w, (Instr.slice 31 (.slice a len cap) none (some (.int .i64 (hi : Int))) (some (.int .i64 (hi : Int)))).run Try.prog w = .ok (.slice dp hi hi) w) ∧
    (∀ w, SrcAt w a b → SrcAt w dp (b.take hi)) := by
  have hsz : (Try.prog.info? 5).map (·.size) = some 1 := by kernel_rfl
  have hb1 := fun w => run_sliceBound (P := Try.prog) (w := w) .i64 (hi : Int) cap .slice3Acap (by omega) (by omega)
  have hb2 := fun w => run_sliceBound (P := Try.prog) (w := w) .i64 (hi : Int) hi .slice3B (by omega) (by omega)
  cases hi5 : Try.prog.info? 5 with
  | none => simp [hi5] at hsz
  | some i =>
  have h1' : i.size = 1 := by simpa [hi5] using hsz
  refine ⟨a, fun w => ?_, fun w hs => hs.take hi⟩
  have ha : ∀ ad : Addr, ad.add 0 = ad := fun ad => by simp [Addr.add]
  cases a <;> simp [Instr.slice, run_underlying Try.underlying31, Instr.sliceBounds, hb1, hb2, sizeOf, typeInfo, hi5, ha]

theorem leastP_next {js : List Nat} {i j : Nat} (h : js[i]? = some j) : leastP (js.take (i + 1)) = leastP (js.take i) + sizeP j := by
  rw [List.take_add_one, h]
  simp [leastP]
theorem sizeP_le (j : Nat) : sizeP j ≤ 8 := by
  unfold sizeP
  repeat' split
  all_goals omega
theorem leastP_le (js : List Nat) : leastP js ≤ js.length * 8 := by
  induction js with
  | nil => simp [leastP]
  | cons j js ih =>
    have := sizeP_le j
    simp only [leastP, List.map_cons, List.sum_cons, List.length_cons] at *
    omega

theorem least_in (sp : Option Addr) (js : List Nat) (n c : Nat) (w : World) (hn : js.length = n) (h3 : n ≤ 3) (h : PartsC w sp js) :
    Calls Try.prog 64 #[.slice sp n c] w fun e w' => e = .returned (.int .i64 (leastP js : Nat)) ∧ Fr (fun _ => False) w w' := by
  have HN : Hid (js.length = n) := hn
  have H0 : Hid (PartsC w sp js) := h
  have HB : Hid (∀ i, leastP (js.take i) ≤ 24) := fun i => by
    have := leastP_le (js.take i)
    simp at this
    show _ ≤ _
    omega
  clear hn h
  go_enter Try.func64, Try.ntmps64
  go_wp2_with (fail)
  go_loopw [3, 8] (fun x3 x8 wr => ∃ (i s : Nat), x3 = .int .i64 (s : Int) ∧ x8 = .int .i64 (i : Int) ∧ i ≤ n ∧ Hid (s = leastP (js.take i) ∧ PartsC wr sp js ∧ Fr (fun _ => False) w wr)) (fun _ x8 _ => n - (intOf x8).toNat)
  case atStart => exact ⟨0, 0, rfl, rfl, by omega, rfl, H0.out, Fr.refl _ _⟩
  case round =>
    obtain ⟨i, s, rfl, rfl, hi, HS⟩ := hrel
    by_cases hin : i < n
    · obtain ⟨j, hj⟩ : ∃ j, js[i]? = some j := ⟨js[i]'(by rw [HN.out]; exact hin), List.getElem?_eq_getElem _⟩
      obtain ⟨gp, o, rfl, d0, d1, d2⟩ := HS.out.2.1 i j hj
      have HX : Hid (js[i]? = some j) := hj
      have hin2 : (i : Int) < (n : Int) := by omega
      have hs1 : s ≤ 24 := by rw [HS.out.1]; exact HB.out i
      have hs2 := sizeP_le j
      obtain ⟨sz, hsz⟩ : ∃ sz, sizeP j = sz := ⟨_, rfl⟩
      have HZ : Hid (sizeP j = sz) := hsz
      rw [hsz] at d0 hs2
      clear hj hsz
      go_wp2_with (fail)
      go_roundw
      case rel =>
        refine ⟨i + 1, s + sz, by go_num, by go_num, by omega, ?_⟩
        refine ⟨by rw [leastP_next HX.out, HS.out.1, HZ.out], HS.out.2.1.fr ((Fr.refl (fun _ => False) wr).alloc _) (fun _ _ _ _ => id), HS.out.2.2.alloc _⟩
      case measure => simp [intOf]; omega
    · obtain rfl : n = i := by omega
      go_wp2_with (fail)
      go_ret
      have h := HS.out
      rw [List.take_of_length_le (Nat.le_of_eq HN.out)] at h
      exact ⟨by rw [← h.1]; rfl, h.2.2⟩
end Go.Proofs.Ytikaefjhmgcidaa
