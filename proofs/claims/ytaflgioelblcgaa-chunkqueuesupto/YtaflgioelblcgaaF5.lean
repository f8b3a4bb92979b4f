/- Contracts of the document's Queue (aqueductref01): Take's walk. -/
import Derived.Test.YtaflgioelblcgaaF4
import Derived.LoopN
namespace Go.Proofs.Ytaflgioelblcgaa
open Go.RowKit
set_option linter.unusedVariables false

/-- What Take leaves. -/
def RTook (w : World) (b : Nat) (own : Option Nat) (L : List (List UInt8)) (N : Nat) (e : Ending) (w' : World) : Prop :=
  ∃ a' n' c', e = .returned (.slice a' n' c') ∧ OwnAt w' 5 (.slice a' n' c') (bv (L.flatten.take N)) ∧ (∀ k, (Value.slice a' n' c').ownBlock = some k → w.heap.size ≤ k) ∧
      ∃ v', RefQ w' b v' (restL L N) ∧ v'.ownBlock = own ∧ Fr (fun k => k = b ∨ own = some k) w w'

set_option maxRecDepth 100000 in
set_option maxHeartbeats 2000000 in
theorem rtake_pos (b : Nat) (v : Value) (L : List (List UInt8)) (N : Nat) (w : World) (hq : RefQ w b v L) (hN : 0 < N) (hN2 : N ≤ 9223372036854775807) (htot : total L ≤ 1073741824) :
    Calls Try.prog 22 #[.pointer (some ⟨b, 0, none⟩), .int .i64 N] w fun e w' => RTook w b v.ownBlock L N e w' := by
  obtain ⟨own, hown⟩ : ∃ own, own = v.ownBlock := ⟨_, rfl⟩
  rw [← hown]
  have hob : own ≠ some b := by obtain ⟨xs, h1, h2, h3, -⟩ := hq; rw [hown]; exact h3
  have hbs : b < w.heap.size := by obtain ⟨xs, h1, -⟩ := hq; exact lt_of_heap h1
  have hos : ∀ k, own = some k → k < w.heap.size := by obtain ⟨xs, h1, h2, -⟩ := hq; intro k e; exact h2.lt k (by rw [← hown]; exact e)
  have HS0 : Hid (RSt w w b own L N N none 0 0 v L []) := ⟨by rw [hown]; exact hq.toRQ, Fr.refl _ _, OwnAt.nil _ _, fun k e => by simp [Value.ownBlock] at e, rfl, rfl, by simp⟩
  have HOB : Hid (own ≠ some b) := hob
  have HOS : Hid (∀ k, own = some k → k < w.heap.size) := hos
  obtain ⟨i, hi1, hi2, hi3, hi4⟩ := info5
  have J1 : Hid (Try.prog.info? 5 = some i) := hi1
  have J2 : Hid (i.zero = some (.int .u8 0)) := hi2
  have J3 : Hid (i.size = 1) := hi3
  have J4 : Hid (i.bytes = 1) := hi4
  clear hi1 hi2 hi3 hi4 hq hown hob hos
  go_enter Try.func22, Try.ntmps22
  go_wp2_with fail
  go_loopg [1, 5] (L.length + 1) (fun gk v1 v5 wr => ∃ (nn : Nat) (ao : Option Addr) (no co : Nat) (v' : Value) (L' : List (List UInt8)) (out : List UInt8), v1 = .int .i64 nn ∧ v5 = .slice ao no co ∧ RSt w wr b own L N nn ao no co v' L' out ∧ gk = L'.length + (if nn = 0 then 0 else 1) ∧ nn ≤ N)
  case atStart => exact ⟨N, _, _, _, _, _, _, rfl, rfl, HS0.out, by rw [if_neg (by omega)], Nat.le_refl _⟩
  case round =>
    obtain ⟨nn, ao, no, co, v', L', out, rfl, rfl, hst, hgk, hnn⟩ := hrel
    have HST : Hid (RSt w wr b own L N nn ao no co v' L' out) := hst
    have HGK : Hid (gk = L'.length + (if nn = 0 then 0 else 1)) := hgk
    clear hst hgk HS0
    by_cases h0 : nn = 0
    · subst h0
      go_wp2
      go_ret
      have h := HST.out
      have hr : restL L' 0 = L' := by
        cases L' with
        | nil => rfl
        | cons c r => rw [restL, if_pos (by obtain ⟨xs, _, _, _, _, _, h6⟩ := h.q; obtain ⟨u, _, hc⟩ := h6 0 c rfl; exact hc.1)]; rfl
      refine ⟨ao, no, co, rfl, by have := h.e; rw [List.take_zero, List.append_nil] at this; rw [← this]; exact h.o, h.d, v', ?_, ?_, h.f⟩
      · rw [← h.r, hr]; exact h.q.toRef HOB.out h.f
      · obtain ⟨xs, _, _, h3, _⟩ := h.q; exact h3
    · have hpi : (0 : Int) < (nn : Int) := by omega
      have hnni : (nn : Int) ≤ 9223372036854775807 := by omega
      cases L' with
      | nil =>
        obtain ⟨a', cap', hv', hc0⟩ : ∃ a' cap', v' = .slice a' 0 cap' ∧ wr.cell? ⟨b, 0, none⟩ = some (.slice a' 0 cap') := by
          obtain ⟨xs, h1, h2, h3, h4, _⟩ := HST.out.q
          obtain ⟨a, cap, hv, -⟩ := h2.form
          rw [h4] at hv
          exact ⟨a, cap, hv, by rw [cell1 h1, hv]; rfl⟩
        go_wp2
        go_ret
        have h := HST.out
        refine ⟨ao, no, co, rfl, by have := h.e; rw [List.flatten_nil, List.take_nil, List.append_nil] at this; rw [← this]; exact h.o, h.d, v', ?_, ?_, h.f⟩
        · rw [← h.r]; exact h.q.toRef HOB.out h.f
        · obtain ⟨xs, _, _, h3, _⟩ := h.q; exact h3
      | cons c r =>
        obtain ⟨g, off, cap, g', o, cap', hv', hrc, hog, hgb, hc0, hcc, hsr, hg1, hg2, hg3, hsw, y0, z0, y1, z1⟩ := HST.out.q.first HOB.out HST.out.f
        have hcl : total (c :: r) ≤ total L := by have := HST.out.t; omega
        rw [total_cons] at hcl
        have hclen : (c.length : Int) ≤ 1073741824 := by omega
        have hrl : r.length + 1 ≤ 4096 := by obtain ⟨xs, _, _, _, _, h5, _⟩ := HST.out.q; simpa using h5
        have hrli : (0 : Int) < ((r.length + 1 : Nat) : Int) := by omega
        subst hv'
        have HHK : Hid (∀ (X : List UInt8) a4 n4 c4 w4, OwnAt w4 5 (.slice a4 n4 c4) (bv (out ++ X)) → Fr (fun k => (Value.slice ao no co).ownBlock = some k) wr w4 → ((Value.slice a4 n4 c4).ownBlock = (Value.slice ao no co).ownBlock ∨ ∃ k, (Value.slice a4 n4 c4).ownBlock = some k ∧ wr.heap.size ≤ k) →
            Hid (RQ w w4 b own (.slice (some ⟨g, off, none⟩) (r.length + 1) cap) (c :: r) ∧ Fr (fun k => k = b ∨ own = some k) w w4 ∧ (∀ k, (Value.slice a4 n4 c4).ownBlock = some k → w.heap.size ≤ k)) ∧ w4.cell? ⟨b, 0, none⟩ = some (.slice (some ⟨g, off, none⟩) (r.length + 1) cap) ∧ w4.frozen? ⟨b, 0, none⟩ = false ∧ w4.cell? ⟨g, off, none⟩ = some (.slice (some ⟨g', o, none⟩) c.length cap') ∧ w4.frozen? ⟨g, off, none⟩ = false) := by
          intro X a4 n4 c4 w4 O4 hf4 hk4
          have h := HST.out.step hbs HOS.out hf4 O4 hk4
          obtain ⟨g_, off_, cap_, g_', o_, cap_', hv_, -, hog_, -, -, -, -, -, -, -, -, x0, x1, x2, x3⟩ := h.1.first HOB.out h.2.1
          have hgw : g < w.heap.size := HOS.out g hog
          have hfg : ¬ ((Value.slice ao no co).ownBlock = some g) := fun e => by have := HST.out.d g e; omega
          have hfb : ¬ ((Value.slice ao no co).ownBlock = some b) := fun e => by have := HST.out.d b e; omega
          have hgr : w4.cell? ⟨g, off, none⟩ = wr.cell? ⟨g, off, none⟩ := hf4.cell (p := ⟨g, off, none⟩) (by have := HST.out.f.size; show g < _; omega) hfg
          simp only [Value.slice.injEq, Option.some.injEq, Addr.mk.injEq, and_true] at hv_
          obtain ⟨⟨rfl, rfl⟩, -, rfl⟩ := hv_
          exact ⟨h, x0, x1, by rw [hgr, y1], x3⟩
        have HBY : Hid (∀ k, k ≤ c.length → out.length + k ≤ 140737488355328) := by intro k hk; have h1 := HST.out.t; rw [total_cons] at h1; omega
        have HOUT : Hid (OwnAt wr 5 (.slice ao no co) (bv out)) := HST.out.o
        by_cases hlt : nn < c.length
        · have hk1 : ¬ (c.length < nn) := by omega
          have hk2 : (nn : Int) < (c.length : Int) := by omega
          have hk3 : ¬ ((c.length : Int) < (nn : Int)) := by omega
          have hcut := cut_to Try.prog 31 5 Try.underlying31 (by kernel_rfl) (some ⟨g', o, none⟩) c.length cap' nn .i64 (by omega)
          have hcut2 := cut_from_lt Try.prog 31 5 Try.underlying31 (by kernel_rfl) g' o c.length cap' nn .i64 (by omega) (by omega)
          have hsr' := hsr.take nn
          have HXL : Hid ((c.take nn).length = nn) := by show _ = _; rw [List.length_take]; omega
          have HBY2 : Hid (out.length + nn ≤ 140737488355328) := HBY.out nn (by omega)
          clear hsr hsw HBY
          go_wp2_with (at_builtin; refine wpList_append_bytes rfl (.tmp 26) (.tmp 34) 31 31 rfl 5 i Try.underlying31 Try.underlying31 J1.out J2.out J3.out J4.out (.slice ao no co) out (by go_simp) HOUT.out (some ⟨g', o, none⟩) nn cap' (by go_simp) (c.take nn) hsr' HXL.out HBY2.out ?_; intro a4 n4 c4 w4 Hn4 O4 hf4 hk4; obtain ⟨H4, s0, s1, s2, s3⟩ := HHK.out _ a4 n4 c4 w4 O4 hf4.out hk4.out)
          have HQ5 : Hid (RQ w (w4.setCell ⟨g, off, none⟩ (.slice (some ⟨g', o + nn, none⟩) (c.length - nn) (cap' - nn))).drew b own (.slice (some ⟨g, off, none⟩) (r.length + 1) cap) (c.drop nn :: r)) := by
            have h := H4.out.1
            rw [hog] at h ⊢
            exact (h.cut hgb s2 hlt).fr (S := fun _ => False) (Fr.refl _ _).drew id (fun _ _ => id)
          have HF5 : Hid (Fr (fun k => k = b ∨ own = some k) w (w4.setCell ⟨g, off, none⟩ (.slice (some ⟨g', o + nn, none⟩) (c.length - nn) (cap' - nn))).drew) := Fr.drew (Fr.setS H4.out.2.1 (.inr hog) _ _)
          have HO5 : Hid (OwnAt (w4.setCell ⟨g, off, none⟩ (.slice (some ⟨g', o + nn, none⟩) (c.length - nn) (cap' - nn))).drew 5 (.slice a4 n4 c4) (bv (out ++ c.take nn))) := by
            refine O4.fr (S := fun k => k = g) (Fr.drew (Fr.setB (Fr.refl _ _) _ _)) (fun k hk e => ?_)
            have h1 := H4.out.2.2 k hk
            have h2 := HOS.out g hog
            omega
          clear HHK
          go_region
          all_goals
            clear s0 s1 s2 s3
            go_wp2
            go_roundg (r.length + 1)
            case measure => have := HGK.out; rw [if_neg h0] at this; simp at this; omega
            case rel =>
              have h := HST.out
              have hfl : (c :: r).flatten.take nn = c.take nn := by rw [List.flatten_cons, List.take_append_of_le_length (by omega)]
              refine ⟨0, a4, n4, c4, _, c.drop nn :: r, out ++ c.take nn, by go_num, rfl, ⟨HQ5.out, HF5.out, HO5.out, H4.out.2.2, ?_, ?_, ?_⟩, by simp, by omega⟩
              · rw [List.take_zero, List.append_nil, ← hfl]; exact h.e
              · rw [← h.r, restL, restL, if_pos (by rw [List.length_drop]; omega), if_pos hlt]; rfl
              · have := h.t; rw [total_cons] at this; rw [total_cons, List.length_append, List.length_drop, HXL.out]; omega
        · have hq1 : (if (c.length : Int) < (nn : Int) then (c.length : Int) else (nn : Int)) = (c.length : Int) := by split <;> omega
          have hq2 : (if c.length < nn then (c.length : Int) else (nn : Int)) = (c.length : Int) := by split <;> omega
          have hk2 : ¬ ((c.length : Int) < (c.length : Int)) := by omega
          have hcut := cut_to Try.prog 31 5 Try.underlying31 (by kernel_rfl) (some ⟨g', o, none⟩) c.length cap' c.length .i64 (by omega)
          obtain ⟨off', hcut2, ho1, ho2⟩ := cut_own Try.prog 39 31 Try.underlying39 (by kernel_rfl) g off (r.length + 1) cap 1 .i64 (by omega) hrc
          have hcut2' : ∀ w, (Instr.slice 39 (.slice (some ⟨g, off, none⟩) (r.length + 1) cap) (some (.int .i64 1)) none none).run Try.prog w = .ok (.slice (some ⟨g, off', none⟩) (r.length + 1 - 1) (cap - 1)) w := hcut2
          have HBY2 : Hid (out.length + c.length ≤ 140737488355328) := HBY.out c.length (by omega)
          have HO12 : Hid ((1 < cap → off' = off + 1) ∧ (1 = cap → off' = off)) := ⟨ho1, ho2⟩
          have hnk : (c.length : Int) ≤ (nn : Int) := by omega
          clear hsw HBY hcut2 ho1 ho2
          go_wp2_with (at_builtin; refine wpList_append_bytes rfl (.tmp 26) (.tmp 34) 31 31 rfl 5 i Try.underlying31 Try.underlying31 J1.out J2.out J3.out J4.out (.slice ao no co) out (by go_simp) HOUT.out (some ⟨g', o, none⟩) c.length cap' (by go_simp) c hsr rfl HBY2.out ?_; intro a4 n4 c4 w4 Hn4 O4 hf4 hk4; obtain ⟨H4, s0, s1, s2, s3⟩ := HHK.out _ a4 n4 c4 w4 O4 hf4.out hk4.out)
          have HQ5 : Hid (RQ w (w4.setCell ⟨b, 0, none⟩ (.slice (some ⟨g, off', none⟩) (r.length + 1 - 1) (cap - 1))) b own (.slice (some ⟨g, off', none⟩) (r.length + 1 - 1) (cap - 1)) r) := by
            have h := H4.out.1
            rw [hog] at h ⊢
            exact h.shift hgb HO12.out.1 HO12.out.2
          have HF5 : Hid (Fr (fun k => k = b ∨ own = some k) w (w4.setCell ⟨b, 0, none⟩ (.slice (some ⟨g, off', none⟩) (r.length + 1 - 1) (cap - 1)))) := Fr.setS H4.out.2.1 (.inl rfl) _ _
          have HO5 : Hid (OwnAt (w4.setCell ⟨b, 0, none⟩ (.slice (some ⟨g, off', none⟩) (r.length + 1 - 1) (cap - 1))) 5 (.slice a4 n4 c4) (bv (out ++ c))) := by
            refine O4.fr (S := fun k => k = b) (Fr.setB (Fr.refl _ _) _ _) (fun k hk e => ?_)
            have h1 := H4.out.2.2 k hk
            omega
          go_roundg (r.length + (if nn - c.length = 0 then 0 else 1))
          case measure => have := HGK.out; rw [if_neg h0] at this; simp at this; split <;> omega
          case rel =>
            have h := HST.out
            refine ⟨nn - c.length, a4, n4, c4, _, r, out ++ c, by go_num, rfl, ⟨HQ5.out, HF5.out, HO5.out, H4.out.2.2, ?_, ?_, ?_⟩, rfl, by omega⟩
            · have := h.e; rw [List.flatten_cons, List.take_append, List.take_of_length_le (by omega), ← List.append_assoc] at this; exact this
            · rw [← h.r]; exact (by rw [restL, if_neg hlt])
            · have := h.t; rw [total_cons] at this; rw [List.length_append]; omega

theorem RefQ.rest0 {w : World} {b : Nat} {v : Value} {L : List (List UInt8)} (h : RefQ w b v L) : restL L 0 = L := by
  cases L with
  | nil => rfl
  | cons c r => rw [restL, if_pos (by obtain ⟨xs, _, _, _, _, _, h6⟩ := h; obtain ⟨u, _, hc⟩ := h6 0 c rfl; exact hc.1)]; rfl

set_option maxRecDepth 100000 in
theorem rtake_any (b : Nat) (v : Value) (L : List (List UInt8)) (n : Int) (m : Nat) (w : World) (hq : RefQ w b v L) (hm : (m : Int) = max 0 (min n (total L))) (hn : n ≤ 9223372036854775807) (htot : total L ≤ 1073741824) :
    Calls Try.prog 22 #[.pointer (some ⟨b, 0, none⟩), .int .i64 n] w fun e w' => RTook w b v.ownBlock L m e w' := by
  by_cases h0 : n ≤ 0
  · obtain rfl : m = 0 := by omega
    have hneg : ¬ (0 < n) := by omega
    have HQ : Hid (RefQ w b v L) := hq
    clear hq hm
    go_enter Try.func22, Try.ntmps22
    go_wp2_with fail
    refine wp_loop_rounds 1 ?_
    rw [rounds_succ]
    go_wp2
    go_ret
    refine ⟨none, 0, 0, rfl, by rw [List.take_zero]; exact OwnAt.nil _ _, fun k e => by simp [Value.ownBlock] at e, v, by rw [HQ.out.rest0]; exact HQ.out, rfl, Fr.refl _ _⟩
  · obtain ⟨N, rfl⟩ : ∃ N : Nat, n = N := ⟨n.toNat, by omega⟩
    refine (rtake_pos b v L N w hq (by omega) (by omega) htot).mono ?_
    intro e w' h
    by_cases hle : N ≤ total L
    · obtain rfl : m = N := by omega
      exact h
    · obtain rfl : m = total L := by omega
      have e1 : L.flatten.take N = L.flatten.take (total L) := by rw [List.take_of_length_le (by rw [flatten_length]; omega), List.take_of_length_le (by rw [flatten_length]; exact Nat.le_refl _)]
      have e2 : restL L N = restL L (total L) := by rw [restL_all L N (by omega), restL_all L _ (Nat.le_refl _)]
      unfold RTook at h ⊢
      rw [e1, e2] at h
      exact h

end Go.Proofs.Ytaflgioelblcgaa
