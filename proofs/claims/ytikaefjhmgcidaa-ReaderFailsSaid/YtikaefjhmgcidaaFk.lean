/- Contracts of what reads a part. -/
import Derived.Test.YtikaefjhmgcidaaFd
import Derived.Test.YtikaefjhmgcidaaHd
import Derived.Deep.RegionHeldLaw
import Derived.Laws.Cover3
namespace Go.Proofs.Ytikaefjhmgcidaa
open Go.RowKit
set_option linter.unusedVariables false
set_option maxRecDepth 100000
set_option maxHeartbeats 4000000

theorem block_set {w : World} {g j : Nat} {cs : Array Value} {t : TypeId} {v : Value} (h : w.heap[g]? = some (.cells cs t (0, 0))) : (w.setCell ⟨g, j, none⟩ v).heap[g]? = some (.cells (cs.setIfInBounds j v) t (0, 0)) := by
  rw [setCell_eq_setRow w g _ cs t _ _ h]
  exact setRow_heap w g cs _ t _ h

/-- The frame f lies in the block g, its payload and its settings elsewhere; since w0 nothing but that block has changed. -/
structure RSt (w0 : World) (g : Nat) (f : Fra) (p : Option Addr) (cp : Nat) (q : Option Addr) (cq : Nat) (w : World) : Prop where
  at_ : FAt w g f p cp q cq
  src : SrcAt w p f.X
  sets : SetsAt w q cq f.Y
  pg : ∀ ad, p = some ad → 0 < f.X.length → g + 2 ≤ ad.block
  qg : ∀ ad, q = some ad → 0 < f.Y.length → g + 2 ≤ ad.block
  big : g + 2 ≤ w.heap.size
  fr : Fr (fun k => k = g) w0 w
theorem SetsAt.fr {S : Nat → Prop} {w w' : World} {q : Option Addr} {c : Nat} {Y : List (Int × Nat)} (h : SetsAt w q c Y) (f : Fr S w w') (hs : ∀ ad, q = some ad → 0 < Y.length → ¬ S ad.block) : SetsAt w' q c Y := by
  refine ⟨h.cap, h.big, h.few, fun r x hr => ?_⟩
  obtain ⟨b, o, hq, hb, h0, h1, h2⟩ := h.cells r x hr
  have h3 : ¬ S b := hs _ hq (by have := (List.getElem?_eq_some_iff.1 hr).1; omega)
  have hc : ∀ j, w'.cell? ⟨b, j, none⟩ = w.cell? ⟨b, j, none⟩ := fun j => f.cell (p := ⟨b, j, none⟩) hb h3
  exact ⟨b, o, hq, Nat.lt_of_lt_of_le hb f.size, (hc _).trans h0, (hc _).trans h1, h2⟩
theorem RSt.later {w0 w w' : World} {g : Nat} {f : Fra} {p q : Option Addr} {cp cq : Nat} (h : RSt w0 g f p cp q cq w) (hf : Fr (fun _ => False) w w') : RSt w0 g f p cp q cq w' :=
  ⟨h.at_.later hf, h.src.oldF hf, h.sets.later hf, h.pg, h.qg, Nat.le_trans h.big hf.size, h.fr.trans (hf.mono (fun _ _ e => e.elim))⟩
/-- A number of the frame is stored. -/
theorem RSt.put {w0 w : World} {g : Nat} {f f' : Fra} {p q : Option Addr} {cp cq : Nat} (h : RSt w0 g f p cp q cq w) (j : Nat) (v : Value) (hX : f'.X = f.X) (hY : f'.Y = f.Y) (hc : (#[.int .i64 f.k, .int .i64 f.fl, .int .i64 f.st, .slice p f.X.length cp, .int .i64 f.pad, .int .u32 f.code, .int .i64 f.last, .int .i64 f.inc, .int .i64 f.dep, .bool f.only, .int .i64 f.wt, .slice q f.Y.length cq] : Array Value).setIfInBounds j v = #[.int .i64 f'.k, .int .i64 f'.fl, .int .i64 f'.st, .slice p f'.X.length cp, .int .i64 f'.pad, .int .u32 f'.code, .int .i64 f'.last, .int .i64 f'.inc, .int .i64 f'.dep, .bool f'.only, .int .i64 f'.wt, .slice q f'.Y.length cq]) : RSt w0 g f' p cp q cq (w.setCell ⟨g, j, none⟩ v) := by
  have hb := block_set (j := j) (v := v) h.at_
  rw [hc] at hb
  have hf : Fr (fun k => k = g) w (w.setCell ⟨g, j, none⟩ v) := (Fr.refl _ _).setB j v
  exact ⟨hb, by rw [hX]; exact h.src.fr hf (fun a e hl e2 => by have := h.pg a e hl; omega), by rw [hY]; exact h.sets.fr hf (fun a e hl e2 => by have := h.qg a e hl; omega), by rw [hX]; exact h.pg, by rw [hY]; exact h.qg, Nat.le_trans h.big hf.size, h.fr.trans hf⟩
/-- The payload is stored. -/
theorem RSt.putX {w0 w : World} {g : Nat} {f : Fra} {p q p' : Option Addr} {cp cq cp' : Nat} (h : RSt w0 g f p cp q cq w) (X : List UInt8) (hX : SrcAt w p' X) (hg : ∀ ad, p' = some ad → 0 < X.length → g + 2 ≤ ad.block) : RSt w0 g { f with X := X } p' cp' q cq (w.setCell ⟨g, 3, none⟩ (.slice p' X.length cp')) := by
  have hb := block_set (j := 3) (v := .slice p' X.length cp') h.at_
  have hf : Fr (fun k => k = g) w (w.setCell ⟨g, 3, none⟩ (.slice p' X.length cp')) := (Fr.refl _ _).setB _ _
  exact ⟨hb, hX.fr hf (fun a e hl e2 => by have := hg a e hl; omega), h.sets.fr hf (fun a e hl e2 => by have := h.qg a e hl; omega), hg, h.qg, Nat.le_trans h.big hf.size, h.fr.trans hf⟩
/-- What a part's reader answers. -/
def ReadAs (w0 : World) (g : Nat) (f : Fra) (e : Ending) (w' : World) : Prop := e = .returned (.tuple #[]) ∧ ∃ p cp q cq, RSt w0 g f p cp q cq w' ∧ (f.Y = [] → q = none ∧ cq = 0)

theorem readLast_in (w0 : World) (f : Fra) (p q : Option Addr) (cp cq g : Nat) (a : Option Addr) (len cap : Nat) (b : List UInt8) (w : World) (h : RSt w0 g f p cp q cq w) (hq : f.Y = [] → q = none ∧ cq = 0) (hs : SrcAt w a b) (hl : b.length = len) (h4 : 4 ≤ len) (hm : len ≤ 9223372036854775807) :
    Calls Try.prog 70 #[.pointer (some ⟨g, 0, none⟩), .slice a len cap] w fun e w' => ReadAs w0 g (rdP 0 f b) e w' := by
  have K1 : Hid (Calls Try.prog 59 #[.slice a len cap, .int .i64 0] w fun e w2 => e = .returned (.tuple #[.int .i64 ((num (b.take 4) % 2147483648 : Nat) : Int), .int .i64 4, .int .i64 0]) ∧ Fr (fun _ => False) w w2) := by
    have h := U31 a len cap ((0 : Nat) : Int) w b hs hl hm
    rw [read_at 4 0 b (by omega)] at h
    exact h
  have hd : rdP 0 f b = { f with last := ((num (b.take 4) % 2147483648 : Nat) : Int) } := by simp [rdP]
  rw [hd]
  obtain ⟨N, hN⟩ : ∃ N, num (b.take 4) % 2147483648 = N := ⟨_, rfl⟩
  rw [hN] at K1 ⊢
  have HR : Hid (RSt w0 g f p cp q cq w) := h
  clear h hs hl hN hd
  go_enter Try.func70, Try.ntmps70
  go_wp2_with (fail)
  refine K1.out.mono ?_
  rintro e w1 ⟨rfl, hf1⟩
  have R1 : Hid (RSt w0 g f p cp q cq w1) := HR.out.later hf1
  have c6 : w1.cell? ⟨g, 6, none⟩ = some (.int .i64 f.last) := cell_of_heap R1.out.at_ rfl
  have z6 : w1.frozen? ⟨g, 6, none⟩ = false := frozen_of_heap R1.out.at_
  go_wp2
  go_end0
  exact ⟨rfl, p, cp, q, cq, R1.out.put 6 _ rfl rfl rfl, hq⟩
theorem readInc_in (w0 : World) (f : Fra) (p q : Option Addr) (cp cq g : Nat) (a : Option Addr) (len cap : Nat) (b : List UInt8) (w : World) (h : RSt w0 g f p cp q cq w) (hq : f.Y = [] → q = none ∧ cq = 0) (hs : SrcAt w a b) (hl : b.length = len) (h4 : 4 ≤ len) (hm : len ≤ 9223372036854775807) :
    Calls Try.prog 81 #[.pointer (some ⟨g, 0, none⟩), .slice a len cap] w fun e w' => ReadAs w0 g (rdP 6 f b) e w' := by
  have K1 : Hid (Calls Try.prog 59 #[.slice a len cap, .int .i64 0] w fun e w2 => e = .returned (.tuple #[.int .i64 ((num (b.take 4) % 2147483648 : Nat) : Int), .int .i64 4, .int .i64 0]) ∧ Fr (fun _ => False) w w2) := by
    have h := U31 a len cap ((0 : Nat) : Int) w b hs hl hm
    rw [read_at 4 0 b (by omega)] at h
    exact h
  have hd : rdP 6 f b = { f with inc := ((num (b.take 4) % 2147483648 : Nat) : Int) } := by simp [rdP]
  rw [hd]
  obtain ⟨N, hN⟩ : ∃ N, num (b.take 4) % 2147483648 = N := ⟨_, rfl⟩
  rw [hN] at K1 ⊢
  have HR : Hid (RSt w0 g f p cp q cq w) := h
  clear h hs hl hN hd
  go_enter Try.func81, Try.ntmps81
  go_wp2_with (fail)
  refine K1.out.mono ?_
  rintro e w1 ⟨rfl, hf1⟩
  have R1 : Hid (RSt w0 g f p cp q cq w1) := HR.out.later hf1
  have c7 : w1.cell? ⟨g, 7, none⟩ = some (.int .i64 f.inc) := cell_of_heap R1.out.at_ rfl
  have z7 : w1.frozen? ⟨g, 7, none⟩ = false := frozen_of_heap R1.out.at_
  go_wp2
  go_end0
  exact ⟨rfl, p, cp, q, cq, R1.out.put 7 _ rfl rfl rfl, hq⟩
theorem readCode_in (w0 : World) (f : Fra) (p q : Option Addr) (cp cq g : Nat) (a : Option Addr) (len cap : Nat) (b : List UInt8) (w : World) (h : RSt w0 g f p cp q cq w) (hq : f.Y = [] → q = none ∧ cq = 0) (hs : SrcAt w a b) (hl : b.length = len) (h4 : 4 ≤ len) (hm : len ≤ 9223372036854775807) :
    Calls Try.prog 72 #[.pointer (some ⟨g, 0, none⟩), .slice a len cap] w fun e w' => ReadAs w0 g (rdP 1 f b) e w' := by
  have K1 : Hid (Calls Try.prog 86 #[.slice a len cap, .int .i64 0] w fun e w2 => e = .returned (.tuple #[.int .u32 ((num (b.take 4) : Nat) : Int), .int .i64 4, .int .i64 0]) ∧ Fr (fun _ => False) w w2) := by
    have h := U32 a len cap ((0 : Nat) : Int) w b hs hl hm
    rw [read_at 4 0 b (by omega)] at h
    exact h
  have hd : rdP 1 f b = { f with code := num (b.take 4) } := by simp [rdP]
  rw [hd]
  obtain ⟨N, hN⟩ : ∃ N, num (b.take 4) = N := ⟨_, rfl⟩
  rw [hN] at K1 ⊢
  have HR : Hid (RSt w0 g f p cp q cq w) := h
  clear h hs hl hN hd
  go_enter Try.func72, Try.ntmps72
  go_wp2_with (fail)
  refine K1.out.mono ?_
  rintro e w1 ⟨rfl, hf1⟩
  have R1 : Hid (RSt w0 g f p cp q cq w1) := HR.out.later hf1
  have c5 : w1.cell? ⟨g, 5, none⟩ = some (.int .u32 f.code) := cell_of_heap R1.out.at_ rfl
  have z5 : w1.frozen? ⟨g, 5, none⟩ = false := frozen_of_heap R1.out.at_
  go_wp2
  go_end0
  exact ⟨rfl, p, cp, q, cq, R1.out.put 5 _ rfl rfl rfl, hq⟩
theorem readPriority_in (w0 : World) (f : Fra) (p q : Option Addr) (cp cq g : Nat) (a : Option Addr) (len cap : Nat) (b : List UInt8) (w : World) (h : RSt w0 g f p cp q cq w) (hq : f.Y = [] → q = none ∧ cq = 0) (hs : SrcAt w a b) (hl : b.length = len) (h4 : 5 ≤ len) (hm : len ≤ 9223372036854775807) (hag : ∀ ad, a = some ad → 0 < b.length → ad.block ≠ g) :
    Calls Try.prog 74 #[.pointer (some ⟨g, 0, none⟩), .slice a len cap] w fun e w' => ReadAs w0 g (rdP 2 f b) e w' := by
  have K1 : Hid (Calls Try.prog 59 #[.slice a len cap, .int .i64 0] w fun e w2 => e = .returned (.tuple #[.int .i64 ((num (b.take 4) % 2147483648 : Nat) : Int), .int .i64 4, .int .i64 0]) ∧ Fr (fun _ => False) w w2) := by
    have h := U31 a len cap ((0 : Nat) : Int) w b hs hl hm
    rw [read_at 4 0 b (by omega)] at h
    exact h
  obtain ⟨ad, rfl, -⟩ := hs 0 _ (getD_some b 0 (by omega))
  have hne := hag ad rfl (by omega)
  have hd : rdP 2 f b = { f with dep := ((num (b.take 4) % 2147483648 : Nat) : Int), only := decide (128 ≤ (b.getD 0 0).toNat), wt := (((b.getD 4 0).toNat : Nat) : Int) + 1 } := by simp [rdP]
  rw [hd]
  have HC : Hid (∀ w', Fr (fun k => k = g) w w' → w'.cell? ⟨ad.block, ad.off + 0, none⟩ = some (.int .u8 (b.getD 0 0).toNat) ∧ w'.cell? ⟨ad.block, ad.off + 4, none⟩ = some (.int .u8 (b.getD 4 0).toNat)) := fun w' hf =>
    ⟨src_at (hs.fr hf (fun a e _ => by cases e; exact hne)) rfl 0 (by omega), src_at (hs.fr hf (fun a e _ => by cases e; exact hne)) rfl 4 (by omega)⟩
  have hspot : ad.spot = none := by
    obtain ⟨ad', e, hc⟩ := hs 0 _ (getD_some b 0 (by omega))
    cases e
    have := World.cell?_spot hc
    simpa [Addr.add] using this
  obtain ⟨bb, oo, ss⟩ := ad
  dsimp only at hspot
  subst hspot
  obtain ⟨N, hN⟩ : ∃ N, num (b.take 4) % 2147483648 = N := ⟨_, rfl⟩
  obtain ⟨x0, hx0⟩ : ∃ x, b.getD 0 0 = x := ⟨_, rfl⟩
  obtain ⟨x4, hx4⟩ : ∃ x, b.getD 4 0 = x := ⟨_, rfl⟩
  rw [hN] at K1 ⊢
  rw [hx0, hx4] at HC ⊢
  have u0 := x0.toNat_lt
  have u4 := x4.toNat_lt
  have e7 : ((x0.toNat : Int) / 128 == 1) = decide (128 ≤ x0.toNat) := by
    rw [Bool.eq_iff_iff]
    simp
    omega
  have HR : Hid (RSt w0 g f p cp q cq w) := h
  dsimp only at HC hne
  have HNE : Hid (bb ≠ g) := hne
  clear h hs hl hN hd hx0 hx4 hag hne
  go_enter Try.func74, Try.ntmps74
  go_wp2_with (fail)
  refine K1.out.mono ?_
  rintro e w1 ⟨rfl, hf1⟩
  have R1 : Hid (RSt w0 g f p cp q cq w1) := HR.out.later hf1
  have F1 : Hid (Fr (fun k => k = g) w w1) := hf1.mono (fun _ _ e => e.elim)
  have c8 : w1.cell? ⟨g, 8, none⟩ = some (.int .i64 f.dep) := cell_of_heap R1.out.at_ rfl
  have z8 : w1.frozen? ⟨g, 8, none⟩ = false := frozen_of_heap R1.out.at_
  have R2 : Hid (RSt w0 g { f with dep := (N : Int) } p cp q cq (w1.setCell ⟨g, 8, none⟩ (.int .i64 (N : Int)))) := R1.out.put 8 _ rfl rfl rfl
  have F2 : Hid (Fr (fun k => k = g) w (w1.setCell ⟨g, 8, none⟩ (.int .i64 (N : Int)))) := F1.out.setB _ _
  have R3 : Hid (RSt w0 g { f with dep := (N : Int), only := decide (128 ≤ x0.toNat) } p cp q cq ((w1.setCell ⟨g, 8, none⟩ (.int .i64 (N : Int))).setCell ⟨g, 9, none⟩ (.bool (decide (128 ≤ x0.toNat))))) := R2.out.put 9 _ rfl rfl rfl
  have F3 : Hid (Fr (fun k => k = g) w ((w1.setCell ⟨g, 8, none⟩ (.int .i64 (N : Int))).setCell ⟨g, 9, none⟩ (.bool (decide (128 ≤ x0.toNat))))) := F2.out.setB _ _
  have d0 := (HC.out _ F2.out).1
  have d0' : (w1.setCell ⟨g, 8, none⟩ (.int .i64 (N : Int))).cell? ⟨bb, oo, none⟩ = some (.int .u8 x0.toNat) := d0
  have d4 := (HC.out _ F3.out).2
  have c9 : (w1.setCell ⟨g, 8, none⟩ (.int .i64 (N : Int))).cell? ⟨g, 9, none⟩ = some (.bool f.only) := cell_of_heap R2.out.at_ rfl
  have z9 : (w1.setCell ⟨g, 8, none⟩ (.int .i64 (N : Int))).frozen? ⟨g, 9, none⟩ = false := frozen_of_heap R2.out.at_
  have c10 : ((w1.setCell ⟨g, 8, none⟩ (.int .i64 (N : Int))).setCell ⟨g, 9, none⟩ (.bool (decide (128 ≤ x0.toNat)))).cell? ⟨g, 10, none⟩ = some (.int .i64 f.wt) := cell_of_heap R3.out.at_ rfl
  have z10 : ((w1.setCell ⟨g, 8, none⟩ (.int .i64 (N : Int))).setCell ⟨g, 9, none⟩ (.bool (decide (128 ≤ x0.toNat)))).frozen? ⟨g, 10, none⟩ = false := frozen_of_heap R3.out.at_
  clear d0 hf1
  go_wp2
  go_end0
  exact ⟨rfl, p, cp, q, cq, R3.out.put 10 _ rfl rfl rfl, hq⟩

theorem Clone_in (a : Option Addr) (len cap : Nat) (b : List UInt8) (w : World) (hs : SrcAt w a b) (hl : b.length = len) (hm : len ≤ 225179981368371) :
    Calls Try.prog 87 #[.slice a len cap] w fun e w' => ∃ a' c', e = .returned (.slice a' len c') ∧ Gath w w' (.slice a' len c') b := by
  have hnil : ∀ (a : Option Addr) (l c : Nat) (w : World), Sem.run Try.prog (binOp .eql 31 (.slice a l c) (.slice none 0 0)) w = .ok (.bool a.isNone) w := fun a l c w => by
    simp [binOp, run_equal_slice_nil w _ _ a l c Try.underlying31]
  cases a with
  | none =>
    have h0 : b = [] := by
      cases b with
      | nil => rfl
      | cons x r => obtain ⟨ad, e, _⟩ := hs 0 x rfl; cases e
    subst h0
    subst hl
    go_enter Try.func87, Try.ntmps87
    go_wp2
    go_ret
    exact ⟨none, 0, rfl, Gath.ofNil (Fr.refl _ _)⟩
  | some ad =>
    have HS : Hid (SrcAt w (some ad) b) := hs
    have HL : Hid (b.length = len) := hl
    obtain ⟨j, J1, J2, J3, J4⟩ := info5
    have J1 : Hid _ := J1
    have J2 : Hid _ := J2
    have J3 : Hid _ := J3
    have J4 : Hid _ := J4
    clear hs hl
    go_enter Try.func87, Try.ntmps87
    go_wp2_with (refine wpList_gather (w0 := w) rfl (.tmp 5) (.tmp 6) 31 31 rfl j Try.underlying31 Try.underlying31 J1.out J2.out J3.out J4.out (.slice (some ⟨w.heap.size, 0, none⟩) 0 0) [] (by go_simp) (Gath.start (Fr.refl _ _)) (some ad) len cap (by go_simp) b (HS.out.oldF ((Fr.refl _ _).alloc _)) HL.out (by simpa using hm) ?_; intro a1 n1 c1 w1 Hn1 G1 F1)
    go_ret
    obtain rfl : n1 = len := by rw [Hn1.out]; simp
    exact ⟨a1, c1, rfl, G1⟩

theorem readRest_in (w0 : World) (f : Fra) (p q : Option Addr) (cp cq g : Nat) (a : Option Addr) (len cap : Nat) (b : List UInt8) (w : World) (h : RSt w0 g f p cp q cq w) (hq : f.Y = [] → q = none ∧ cq = 0) (hs : SrcAt w a b) (hl : b.length = len) (hm : len ≤ 225179981368371) :
    Calls Try.prog 76 #[.pointer (some ⟨g, 0, none⟩), .slice a len cap] w fun e w' => ReadAs w0 g { f with X := b } e w' := by
  have K1 : Hid (Calls Try.prog 87 #[.slice a len cap] w fun e w' => ∃ a' c', e = .returned (.slice a' len c') ∧ Gath w w' (.slice a' len c') b) := Clone_in a len cap b w hs hl hm
  have HR : Hid (RSt w0 g f p cp q cq w) := h
  have hg := lt_of_heap h.at_
  have HG : Hid (g < w.heap.size) := hg
  have HL : Hid (b.length = len) := hl
  clear h hs hl hg
  go_enter Try.func76, Try.ntmps76
  go_wp2_with (fail)
  refine K1.out.mono ?_
  rintro e w1 ⟨a1, c1, rfl, hG1⟩
  have R1 : Hid (RSt w0 g f p cp q cq w1) := HR.out.later hG1.2.2
  have G1 : Hid (Gath w w1 (.slice a1 len c1) b) := hG1
  have c3 : w1.cell? ⟨g, 3, none⟩ = some (.slice p f.X.length cp) := cell_of_heap R1.out.at_ rfl
  have z3 : w1.frozen? ⟨g, 3, none⟩ = false := frozen_of_heap R1.out.at_
  clear hG1
  go_wp2
  go_end0
  have h2 := R1.out.putX (p' := a1) (cp' := c1) b (own_src G1.out.1) (fun ad e _ => Nat.le_trans HR.out.big (G1.out.new ad e))
  rw [HL.out] at h2
  exact ⟨rfl, a1, c1, q, cq, h2, hq⟩
end Go.Proofs.Ytikaefjhmgcidaa
