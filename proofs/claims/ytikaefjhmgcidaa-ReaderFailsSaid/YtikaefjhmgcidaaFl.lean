/- Contract of what reads settings. -/
import Derived.Test.YtikaefjhmgcidaaFk
import Derived.Deep.DeepAppendWide
import Derived.Deep.LoopGhost
namespace Go.Proofs.Ytikaefjhmgcidaa
open Go.RowKit
set_option linter.unusedVariables false
set_option maxRecDepth 100000
set_option maxHeartbeats 4000000

def setCells (Y : List (Int × Nat)) : List Value := (Y.map fun s => [Value.int .i64 s.1, .int .u32 (s.2 : Nat)]).flatten
theorem setCells_append (Y Z : List (Int × Nat)) : setCells (Y ++ Z) = setCells Y ++ setCells Z := by simp [setCells]
theorem setCells_len (Y : List (Int × Nat)) : (setCells Y).length = Y.length * 2 := by
  induction Y with
  | nil => rfl
  | cons s Y ih => simp [setCells] at *; omega
theorem setCells_at (Y : List (Int × Nat)) : ∀ (r : Nat) (s : Int × Nat), Y[r]? = some s → (setCells Y)[r * 2]? = some (.int .i64 s.1) ∧ (setCells Y)[r * 2 + 1]? = some (.int .u32 (s.2 : Nat)) := by
  induction Y with
  | nil => intro r s h; simp at h
  | cons a Y ih =>
    intro r s h
    have e : setCells (a :: Y) = Value.int .i64 a.1 :: .int .u32 (a.2 : Nat) :: setCells Y := by simp [setCells]
    rw [e]
    cases r with
    | zero => simp at h; subst h; simp
    | succ r =>
      have h1 := ih r s (by simpa using h)
      rw [show (r + 1) * 2 = r * 2 + 1 + 1 by omega]
      simpa using h1
theorem setsOf_len (n : Nat) : ∀ b, (setsOf n b).length = n := by
  induction n with
  | zero => intro b; rfl
  | succ n ih => intro b; simp [setsOf, ih]
theorem setsOf_next (k : Nat) : ∀ b, setsOf (k + 1) b = setsOf k b ++ [(((num ((b.drop (6 * k)).take 2) : Nat) : Int), num ((b.drop (6 * k + 2)).take 4))] := by
  induction k with
  | zero => intro b; simp [setsOf]
  | succ k ih =>
    intro b
    rw [setsOf, ih (b.drop 6)]
    simp only [setsOf, List.cons_append, List.drop_drop]
    rw [show 6 + 6 * k = 6 * (k + 1) by omega, show 6 + (6 * k + 2) = 6 * (k + 1) + 2 by omega]
theorem num_small (n : Nat) (b : List UInt8) : num (b.take n) < 256 ^ n := by
  have h := num_lt (b.take n)
  exact Nat.lt_of_lt_of_le h (Nat.pow_le_pow_right (by omega) (by simp; omega))
theorem setsOf_ok (n : Nat) : ∀ b, ∀ s ∈ setsOf n b, (0 ≤ s.1 ∧ s.1 < 65536) ∧ s.2 < 4294967296 := by
  induction n with
  | zero => intro b s hs; simp [setsOf] at hs
  | succ n ih =>
    intro b s hs
    simp only [setsOf, List.mem_cons] at hs
    rcases hs with rfl | hs
    · have h1 := num_small 2 b
      have h2 := num_small 4 (b.drop 2)
      simp only at *
      omega
    · exact ih _ s hs
/-- Settings of one's own are settings in memory. -/
theorem owns_sets {w : World} {base : Nat} {q : Option Addr} {n c : Nat} {Y : List (Int × Nat)} (h : w.ownsRow base 80 2 (.slice q n c) n (setCells Y)) (hn : Y.length = n) (hf : n * 16 < 2 ^ 47) (hok : ∀ s ∈ Y, (0 ≤ s.1 ∧ s.1 < 65536) ∧ s.2 < 4294967296) : SetsAt w q c Y := by
  obtain ⟨h1, ⟨h2, rfl⟩ | ⟨g, cap, cur, h2, h3, h4, h5, h6, h7, h8⟩⟩ := h
  · cases h2
    have : Y = [] := List.eq_nil_of_length_eq_zero hn
    subst this
    exact SetsAt.nil w
  · cases h2
    refine ⟨by omega, h6, by omega, fun r s hr => ⟨g, 0, rfl, lt_of_heap h4, ?_, ?_, ?_, (hok s (List.mem_of_getElem? hr)).2⟩⟩
    · refine cell_of_heap h4 ?_
      have := (setCells_at Y r s hr).1
      rw [← h8, List.getElem?_take] at this
      split at this
      · simpa using this
      · cases this
    · refine cell_of_heap h4 ?_
      have := (setCells_at Y r s hr).2
      rw [← h8, List.getElem?_take] at this
      split at this
      · simpa using this
      · cases this
    · have := hok s (List.mem_of_getElem? hr)
      exact i64w (by omega) (by omega)

theorem infoS : ∃ i z, Try.prog.info? 80 = some i ∧ i.zero = some z ∧ i.size = 2 ∧ i.bytes = 16 ∧ z.cells.size = 2 :=
  ⟨(Try.prog.info? 80).get (by kernel_rfl), .agg #[.int .i64 0, .int .u32 0], by kernel_rfl, by kernel_rfl, by kernel_rfl, by kernel_rfl, by kernel_rfl⟩

/-- The state of the settings' reader: k settings were read. -/
structure SSt (w : World) (g : Nat) (f : Fra) (p : Option Addr) (cp : Nat) (b : List UInt8) (k : Nat) (qa : Option Addr) (qc : Nat) (wr : World) : Prop where
  at_ : wr.heap[g]? = some (.cells #[.int .i64 f.k, .int .i64 f.fl, .int .i64 f.st, .slice p f.X.length cp, .int .i64 f.pad, .int .u32 f.code, .int .i64 f.last, .int .i64 f.inc, .int .i64 f.dep, .bool f.only, .int .i64 f.wt, .slice qa k qc] 36 (0, 0))
  own : wr.ownsRow w.heap.size 80 2 (.slice qa k qc) k (setCells (setsOf k b))
  fr : Fr (fun j => j = g) w wr
theorem SSt.later {w w1 w2 : World} {g : Nat} {f : Fra} {p : Option Addr} {cp : Nat} {b : List UInt8} {k : Nat} {qa : Option Addr} {qc : Nat} (h : SSt w g f p cp b k qa qc w1) (hf : Fr (fun _ => False) w1 w2) : SSt w g f p cp b k qa qc w2 := by
  refine ⟨(hf.block g (lt_of_heap h.at_) id).trans h.at_, ?_, h.fr.trans (hf.mono (fun _ _ e => e.elim))⟩
  obtain ⟨h1, h2 | ⟨gg, cap, cur, h2, h3, h4, h5⟩⟩ := h.own
  · exact ⟨h1, .inl h2⟩
  · exact ⟨h1, .inr ⟨gg, cap, cur, h2, h3, (hf.block gg (lt_of_heap h4) id).trans h4, h5⟩⟩
theorem SSt.apart {w w1 : World} {g : Nat} {f : Fra} {p : Option Addr} {cp : Nat} {b : List UInt8} {k : Nat} {qa : Option Addr} {qc : Nat} (h : SSt w g f p cp b k qa qc w1) {j : Nat} (hj : (Value.slice qa k qc).ownBlock = some j) : w.heap.size ≤ j := by
  obtain ⟨h1, ⟨h2, _⟩ | ⟨gg, cap, cur, h2, h3, _⟩⟩ := h.own
  · rw [h2] at hj; simp [Value.ownBlock] at hj
  · rw [h2] at hj; simp [Value.ownBlock] at hj; omega

theorem readSettings_in (w0 : World) (f : Fra) (p : Option Addr) (cp g : Nat) (a : Option Addr) (len cap : Nat) (b : List UInt8) (w : World) (h : RSt w0 g f p cp none 0 w) (hY : f.Y = []) (hs : SrcAt w a b) (hl : b.length = len) (h6 : len % 6 = 0) (hm : len ≤ 16777215) (hag : ∀ ad, a = some ad → 0 < b.length → ad.block ≠ g) :
    Calls Try.prog 78 #[.pointer (some ⟨g, 0, none⟩), .slice a len cap] w fun e w' => ReadAs w0 g (rdP 4 f b) e w' := by
  have hg := lt_of_heap h.at_
  have hsrc : Hid (∀ w', Fr (fun j => j = g) w w' → SrcAt w' a b) := fun w' hf => hs.fr hf (fun ad e hl => hag ad e hl)
  have K1 : Hid (∀ k w', 6 * k + 6 ≤ len → Fr (fun j => j = g) w w' → Calls Try.prog 89 #[.slice a len cap, .int .i64 ((6 * k : Nat) : Int)] w' fun e w2 => e = .returned (.tuple #[.int .i64 ((num ((b.drop (6 * k)).take 2) : Nat) : Int), .int .i64 ((6 * k + 2 : Nat) : Int), .int .i64 0]) ∧ Fr (fun _ => False) w' w2) := fun k w' hk hf => by
    have h := U16 a len cap ((6 * k : Nat) : Int) w' b (hsrc.out w' hf) hl (by omega)
    rw [read_at 2 (6 * k) b (by omega)] at h
    exact h
  have K2 : Hid (∀ k w', 6 * k + 6 ≤ len → Fr (fun j => j = g) w w' → Calls Try.prog 86 #[.slice a len cap, .int .i64 ((6 * k + 2 : Nat) : Int)] w' fun e w2 => e = .returned (.tuple #[.int .u32 ((num ((b.drop (6 * k + 2)).take 4) : Nat) : Int), .int .i64 ((6 * k + 6 : Nat) : Int), .int .i64 0]) ∧ Fr (fun _ => False) w' w2) := fun k w' hk hf => by
    have h := U32 a len cap ((6 * k + 2 : Nat) : Int) w' b (hsrc.out w' hf) hl (by omega)
    rw [read_at 4 (6 * k + 2) b (by omega)] at h
    exact h
  have S0 : Hid (SSt w g f p cp b 0 none 0 w) := by
    refine ⟨?_, ⟨rfl, .inl ⟨rfl, rfl⟩⟩, Fr.refl _ _⟩
    have := h.at_
    rw [FAt, hY] at this
    exact this
  have HR : Hid (RSt w0 g f p cp none 0 w) := h
  have HG : Hid (g < w.heap.size) := hg
  have HL : Hid (b.length = len) := hl
  have HEND : Hid (∀ k qa qc wr, 6 * k = len → (k = 0 → qa = none ∧ qc = 0) → SSt w g f p cp b k qa qc wr → ReadAs w0 g (rdP 4 f b) (.returned (.tuple #[])) wr) := fun k qa qc wr hk hz hS => by
    have hd : rdP 4 f b = { f with Y := setsOf k b } := by
      simp only [rdP, hY, hl]
      simp
      congr
      omega
    rw [hd]
    have hln := setsOf_len k b
    have hst : SetsAt wr qa qc (setsOf k b) := owns_sets hS.own hln (by omega) (setsOf_ok k b)
    have hat := hS.at_
    refine ⟨rfl, p, cp, qa, qc, ⟨?_, ?_, hst, h.pg, fun ad e hp => ?_, Nat.le_trans h.big hS.fr.size, h.fr.trans hS.fr⟩, fun e => ?_⟩
    · show wr.heap[g]? = some (.cells #[.int .i64 f.k, .int .i64 f.fl, .int .i64 f.st, .slice p f.X.length cp, .int .i64 f.pad, .int .u32 f.code, .int .i64 f.last, .int .i64 f.inc, .int .i64 f.dep, .bool f.only, .int .i64 f.wt, .slice qa (setsOf k b).length qc] 36 (0, 0))
      rw [hln]
      exact hat
    · exact h.src.fr hS.fr (fun ad e hp e2 => by have := h.pg ad e hp; omega)
    · have := hS.apart (j := ad.block) (by rw [e]; rfl)
      exact Nat.le_trans h.big this
    · have hk0 : k = 0 := by rw [← hln]; exact congrArg List.length e
      exact hz hk0
  obtain ⟨it, iz, I1, I2, I3, I4, I5⟩ := infoS
  have I : Hid (Try.prog.info? 80 = some it ∧ it.zero = some iz ∧ it.size = 2 ∧ it.bytes = 16 ∧ iz.cells.size = 2) := ⟨I1, I2, I3, I4, I5⟩
  have H6 : Hid (len % 6 = 0) := h6
  have HA : Hid (∀ k qa qc w1 id val, k ≤ 16777215 → id = ((num ((b.drop (6 * k)).take 2) : Nat) : Int) → val = num ((b.drop (6 * k + 2)).take 4) → SSt w g f p cp b k qa qc w1 →
      (∀ (j : Nat) u, ([.int .i64 id, .int .u32 (val : Nat)] : List Value)[j]? = some u → (w1.alloc (.cells #[.int .i64 id, .int .u32 (val : Nat)] 80)).cell? ((⟨w1.heap.size, 0, none⟩ : Addr).add j) = some u) ∧
      (w1.alloc (.cells #[.int .i64 id, .int .u32 (val : Nat)] 80)).ownsRow w.heap.size 80 2 (.slice qa k qc) k (setCells (setsOf k b)) ∧
      w.heap.size ≤ (w1.alloc (.cells #[.int .i64 id, .int .u32 (val : Nat)] 80)).heap.size ∧
      (∀ v2 w2, w2.ownsRow w.heap.size 80 2 v2 (k + 1) (setCells (setsOf k b) ++ [.int .i64 id, .int .u32 (val : Nat)]) → (w1.alloc (.cells #[.int .i64 id, .int .u32 (val : Nat)] 80)).grownBy w2 (Value.slice qa k qc).ownBlock → ∃ qa2 qc2, v2 = .slice qa2 (k + 1) qc2 ∧ w2.cell? ⟨g, 11, none⟩ = some (.slice qa k qc) ∧ w2.frozen? ⟨g, 11, none⟩ = false ∧ SSt w g f p cp b (k + 1) qa2 qc2 (w2.setCell ⟨g, 11, none⟩ (.slice qa2 (k + 1) qc2)))) := fun k qa qc w1 id val hk hid hval hS => by
    have hal : Fr (fun _ => False) w1 (w1.alloc (.cells #[.int .i64 id, .int .u32 (val : Nat)] 80)) := (Fr.refl _ _).alloc _
    have hS2 := hS.later hal
    refine ⟨fun j u hj => ?_, hS2.own, by have := hS2.fr.size; omega, fun v2 w2 hO hgr => ?_⟩
    · rw [add_none, Nat.zero_add]
      exact cell_of_heap (heap_alloc_new w1 _) (by simpa using hj)
    · have hne : some g ≠ (Value.slice qa k qc).ownBlock := fun e => by have := hS.apart e.symm; omega
      have hb : w2.heap[g]? = _ := (hgr.block g (lt_of_heap hS2.at_) hne).trans hS2.at_
      obtain ⟨hx1, ⟨hx2, hx3⟩ | ⟨gg, cc, cur, rfl, hx3, hx4, hx5, hx6, hx7, hx8⟩⟩ := hO
      · omega
      · have hgg : gg ≠ g := by omega
        refine ⟨some ⟨gg, 0, none⟩, cc, rfl, cell_of_heap hb rfl, frozen_of_heap hb, ⟨block_set hb, ?_, ?_⟩⟩
        · refine ⟨?_, .inr ⟨gg, cc, cur, rfl, hx3, ?_, hx5, hx6, hx7, ?_⟩⟩
          · rw [setCells_len, setsOf_len]
          · rw [Below.heap_setCell _ _ _ _ (by exact hgg)]; exact hx4
          · rw [hx8, setsOf_next, setCells_append, hid, hval]
            rfl
        · have hf2 : Fr (fun j => j = g ∨ w.heap.size ≤ j) w w2 := (hS2.fr.mono (fun _ _ e => .inl e)).trans ⟨hgr.os, hgr.tape, hgr.output, hgr.size, fun j hj hn => hgr.block j hj (fun e => hn (.inr (hS.apart e.symm)))⟩
          exact Fr.setB (hf2.mono (fun j hj e => by rcases e with e | e; exact e; omega)) _ _
  clear h hs hl hag hY h6 I1 I2 I3 I4 I5 hg
  go_enter Try.func78, Try.ntmps78
  go_wp2_with (fail)
  go_loopw [4] (fun x4 wr => ∃ (k qc : Nat) (qa : Option Addr), x4 = .int .i64 ((6 * k : Nat) : Int) ∧ 6 * k ≤ len ∧ Hid ((k = 0 → qa = none ∧ qc = 0) ∧ SSt w g f p cp b k qa qc wr)) (fun x4 _ => len - (intOf x4).toNat)
  case atStart => exact ⟨0, 0, none, rfl, by omega, fun _ => ⟨rfl, rfl⟩, S0.out⟩
  case round =>
    obtain ⟨k, qc, qa, rfl, hk, HS⟩ := hrel
    by_cases hin : 6 * k < len
    · have hk6 : 6 * k + 6 ≤ len := by have := H6.out; omega
      have hin2 : ((6 * k : Nat) : Int) < (len : Int) := by omega
      have KA := K1.out k wr hk6 HS.out.2.fr
      have HK6 : Hid (6 * k + 6 ≤ len) := hk6
      have e6 : ((6 * k : Nat) : Int) + 6 = ((6 * (k + 1) : Nat) : Int) := by omega
      obtain ⟨id, hid⟩ : ∃ id, ((num ((b.drop (6 * k)).take 2) : Nat) : Int) = id := ⟨_, rfl⟩
      obtain ⟨val, hval⟩ : ∃ val, num ((b.drop (6 * k + 2)).take 4) = val := ⟨_, rfl⟩
      have HID : Hid (id = ((num ((b.drop (6 * k)).take 2) : Nat) : Int) ∧ val = num ((b.drop (6 * k + 2)).take 4)) := ⟨hid.symm, hval.symm⟩
      have KB : Hid (∀ w', Fr (fun j => j = g) w w' → Calls Try.prog 86 #[.slice a len cap, .int .i64 ((6 * k + 2 : Nat) : Int)] w' fun e w2 => e = .returned (.tuple #[.int .u32 (val : Nat), .int .i64 ((6 * k + 6 : Nat) : Int), .int .i64 0]) ∧ Fr (fun _ => False) w' w2) := fun w' hf => by rw [← hval]; exact K2.out k w' HK6.out hf
      rw [hid] at KA
      clear hid hval
      obtain ⟨n6, hn6⟩ : ∃ n6 : Nat, 6 * k = n6 := ⟨_, rfl⟩
      obtain ⟨n8, hn8⟩ : ∃ n8 : Nat, 6 * k + 2 = n8 := ⟨_, rfl⟩
      obtain ⟨n9, hn9⟩ : ∃ n9 : Nat, 6 * (k + 1) = n9 := ⟨_, rfl⟩
      have HN9 : Hid (n9 = 6 * (k + 1) ∧ n6 = 6 * k) := ⟨hn9.symm, hn6.symm⟩
      rw [hn8] at KA KB
      rw [hn6] at KA hin2 e6 ⊢
      rw [hn9] at e6
      clear hn6 hn8 hn9 hin hk6 hk
      go_wp2_with (fail)
      refine KA.mono ?_
      rintro e w1 ⟨rfl, hf1⟩
      have S1 : Hid (SSt w g f p cp b k qa qc w1) := HS.out.2.later hf1
      clear hf1 KA
      go_wp2_with (fail)
      refine (KB.out _ S1.out.fr).mono ?_
      rintro e w2 ⟨rfl, hf2⟩
      have S2 : Hid (SSt w g f p cp b k qa qc w2) := S1.out.later hf2
      have hA := HA.out k qa qc w2 id val (by have := HK6.out; omega) HID.out.1 HID.out.2 S2.out
      have A1 : Hid _ := hA.1
      have A2 : Hid _ := hA.2.1
      have A3 : Hid _ := hA.2.2.1
      have A4 : Hid _ := hA.2.2.2
      have d11 : w2.cell? ⟨g, 11, none⟩ = some (.slice qa k qc) := cell_of_heap S2.out.at_ rfl
      have HK1 : Hid (k + 1 ≤ maxLen ∧ ((k + 1) + (k + 1) / 4 + 192) * 16 ≤ 281474976710656) := by
        have := HK6.out
        refine ⟨?_, ?_⟩
        · unfold maxLen; omega
        · omega
      clear hA hf2
      go_wp2_with (refine wpList_append_own_wide _ rfl (.tmp 35) (.tmp 39) 34 rfl w.heap.size 80 it iz 2 16 Try.underlying34 I.out.1 I.out.2.1 I.out.2.2.1 I.out.2.2.2.1 I.out.2.2.2.2 (by omega) (.slice qa k qc) k (setCells (setsOf k b)) (by go_simp) A2.out ⟨w2.heap.size, 0, none⟩ 1 1 [.int .i64 id, .int .u32 (val : Nat)] (by go_simp) rfl A1.out (by simp [Value.oneCell']) HK1.out.1 HK1.out.2 A3.out ?_; intro v3 w3 Hrow Hgr Hiff; obtain ⟨qa3, qc3, rfl, d12, z12, hS3⟩ := A4.out v3 w3 Hrow Hgr; have S3 : Hid (SSt w g f p cp b (k + 1) qa3 qc3 (w3.setCell ⟨g, 11, none⟩ (.slice qa3 (k + 1) qc3))) := hS3; clear Hrow Hgr Hiff hS3)
      go_roundw
      case rel =>
        refine ⟨k + 1, qc3, qa3, ?_, ?_, fun h => by omega, S3.out⟩
        · rw [← HN9.out.1]
        · have := HK6.out; omega
      case measure =>
        have h1 := HN9.out
        have h2 := HK6.out
        simp [intOf]
        omega
    · have hin2 : ¬ ((6 * k : Nat) : Int) < (len : Int) := by omega
      have hk2 : 6 * k = len := by omega
      have hE := HEND.out k qa qc wr hk2 HS.out.1 HS.out.2
      go_wp2_with (fail)
      go_end0
      exact hE
end Go.Proofs.Ytikaefjhmgcidaa
