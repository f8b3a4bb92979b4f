/- The walk of ReaderChunks. -/
import Derived.Test.YtikaefjhmgcidaaZTn
import Derived.Test.YtikaefjhmgcidaaZMXp
import Derived.BigQuiet
namespace Go.Proofs.Ytikaefjhmgcidaa
open Go.RowKit
set_option linter.unusedVariables false
set_option maxRecDepth 100000
set_option maxHeartbeats 4000000

theorem flat_at {α β : Type} (f : α → List β) (s : Nat) (hs : ∀ z, (f z).length = s) : ∀ (l : List α) (r : Nat) (z : α), l[r]? = some z → ∀ j u, (f z)[j]? = some u → ((l.map f).flatten)[r * s + j]? = some u := by
  intro l
  induction l with
  | nil => intro r z h; simp at h
  | cons a l ih =>
    intro r z h j u hu
    rw [List.map_cons, List.flatten_cons]
    cases r with
    | zero =>
      simp at h
      subst h
      have hj := (List.getElem?_eq_some_iff.1 hu).1
      rw [Nat.zero_mul, Nat.zero_add, List.getElem?_append_left hj]
      exact hu
    | succ r =>
      rw [List.getElem?_append_right (by rw [hs, Nat.succ_mul]; omega), hs, show (r + 1) * s + j - s = r * s + j by rw [Nat.succ_mul]; omega]
      exact ih r z (by simpa using h) j u hu
theorem row_at {w : World} {e : TypeId} {s n : Nat} {a : Option Addr} {m c : Nat} {xs : List Value} (h : w.ownsRow 0 e s (.slice a m c) n xs) : m = n ∧ (0 < n → ∃ g, a = some ⟨g, 0, none⟩ ∧ ∀ (j : Nat) u, xs[j]? = some u → w.cell? ⟨g, j, none⟩ = some u) := by
  rcases h.2 with ⟨e1, e2⟩ | ⟨g, cap, cur, e1, h3, h4, h5, h6, h7, h8⟩
  · cases e1
    exact ⟨e2.symm, fun hn => by omega⟩
  · cases e1
    refine ⟨rfl, fun _ => ⟨g, rfl, fun j u hj => cell_of_heap h4 ?_⟩⟩
    rw [← h8, List.getElem?_take] at hj
    split at hj
    · simpa using hj
    · cases hj
theorem frow_at {w : World} {a : Option Addr} {m c : Nat} {ls : List FM} (h : w.ownsRow 0 36 12 (.slice a m c) ls.length (frows ls)) {r : Nat} {f : Fra} {p : Option Addr × Nat × Option Addr × Nat} (hr : ls[r]? = some (f, p)) : ∃ g, a = some ⟨g, 0, none⟩ ∧ w.cell? ⟨g, r * 12, none⟩ = some (.int .i64 f.k) ∧ w.cell? ⟨g, r * 12 + 1, none⟩ = some (.int .i64 f.fl) ∧ w.cell? ⟨g, r * 12 + 2, none⟩ = some (.int .i64 f.st) ∧ w.cell? ⟨g, r * 12 + 3, none⟩ = some (.slice p.1 f.X.length p.2.1) ∧ w.cell? ⟨g, r * 12 + 4, none⟩ = some (.int .i64 f.pad) ∧ w.cell? ⟨g, r * 12 + 5, none⟩ = some (.int .u32 f.code) ∧ w.cell? ⟨g, r * 12 + 6, none⟩ = some (.int .i64 f.last) ∧ w.cell? ⟨g, r * 12 + 7, none⟩ = some (.int .i64 f.inc) ∧ w.cell? ⟨g, r * 12 + 8, none⟩ = some (.int .i64 f.dep) ∧ w.cell? ⟨g, r * 12 + 9, none⟩ = some (.bool f.only) ∧ w.cell? ⟨g, r * 12 + 10, none⟩ = some (.int .i64 f.wt) ∧ w.cell? ⟨g, r * 12 + 11, none⟩ = some (.slice p.2.2.1 f.Y.length p.2.2.2) := by
  have hl := (List.getElem?_eq_some_iff.1 hr).1
  obtain ⟨g, e, hc⟩ := (row_at h).2 (by omega)
  have hf : ∀ j u, (fcl (f, p))[j]? = some u → w.cell? ⟨g, r * 12 + j, none⟩ = some u := fun j u hu => hc _ u (flat_at fcl 12 (fun z => rfl) ls r (f, p) hr j u hu)
  exact ⟨g, e, hf 0 _ rfl, hf 1 _ rfl, hf 2 _ rfl, hf 3 _ rfl, hf 4 _ rfl, hf 5 _ rfl, hf 6 _ rfl, hf 7 _ rfl, hf 8 _ rfl, hf 9 _ rfl, hf 10 _ rfl, hf 11 _ rfl⟩
theorem xrow_at {w : World} {a : Option Addr} {m c : Nat} {xs : List Flt} (h : w.ownsRow 0 38 3 (.slice a m c) xs.length (xrows xs)) {r : Nat} {x : Flt} (hr : xs[r]? = some x) : ∃ g, a = some ⟨g, 0, none⟩ ∧ w.cell? ⟨g, r * 3, none⟩ = some (.bool x.is) ∧ w.cell? ⟨g, r * 3 + 1, none⟩ = some (.int .i64 x.st) ∧ w.cell? ⟨g, r * 3 + 2, none⟩ = some (.int .i64 x.code) := by
  have hl := (List.getElem?_eq_some_iff.1 hr).1
  obtain ⟨g, e, hc⟩ := (row_at h).2 (by omega)
  have hf : ∀ j u, (xcl x)[j]? = some u → w.cell? ⟨g, r * 3 + j, none⟩ = some u := fun j u hu => hc _ u (flat_at xcl 3 (fun z => rfl) xs r x hr j u hu)
  exact ⟨g, e, hf 0 _ rfl, hf 1 _ rfl, hf 2 _ rfl⟩
theorem AllR.later {w w' w2 : World} {v vx : Value} {T : List Fra × List Flt} (h : AllR w w' v vx T) (hf : Fr (fun _ => False) w' w2) : AllR w w2 v vx T := by
  obtain ⟨ls, xs, h1, h2, h3, h4, h5⟩ := h
  exact ⟨ls, xs, h1, row_fr h2 hf (fun _ _ => id), row_fr h3 hf (fun _ _ => id), fun z hz => ⟨(h4 z hz).1.next hf (fun _ _ h => h), (h4 z hz).2⟩, h5.trans hf⟩
theorem AllR.lens {w w' : World} {a ax : Option Addr} {n c nx cx : Nat} {T : List Fra × List Flt} (h : AllR w w' (.slice a n c) (.slice ax nx cx) T) : n = T.1.length ∧ nx = T.2.length := by
  obtain ⟨ls, xs, h1, h2, h3, h4, h5⟩ := h
  rw [← h1]
  exact ⟨by rw [(row_at h2).1]; simp, (row_at h3).1⟩
/-- The frame at a place. -/
theorem AllR.frame {w w' : World} {a ax : Option Addr} {n c nx cx : Nat} {T : List Fra × List Flt} (h : AllR w w' (.slice a n c) (.slice ax nx cx) T) {r : Nat} {f : Fra} (hr : T.1[r]? = some f) : ∃ (p : Option Addr × Nat × Option Addr × Nat) (g : Nat), a = some ⟨g, 0, none⟩ ∧ (w'.cell? ⟨g, r * 12, none⟩ = some (.int .i64 f.k) ∧ w'.cell? ⟨g, r * 12 + 1, none⟩ = some (.int .i64 f.fl) ∧ w'.cell? ⟨g, r * 12 + 2, none⟩ = some (.int .i64 f.st) ∧ w'.cell? ⟨g, r * 12 + 3, none⟩ = some (.slice p.1 f.X.length p.2.1) ∧ w'.cell? ⟨g, r * 12 + 4, none⟩ = some (.int .i64 f.pad) ∧ w'.cell? ⟨g, r * 12 + 5, none⟩ = some (.int .u32 f.code) ∧ w'.cell? ⟨g, r * 12 + 6, none⟩ = some (.int .i64 f.last) ∧ w'.cell? ⟨g, r * 12 + 7, none⟩ = some (.int .i64 f.inc) ∧ w'.cell? ⟨g, r * 12 + 8, none⟩ = some (.int .i64 f.dep) ∧ w'.cell? ⟨g, r * 12 + 9, none⟩ = some (.bool f.only) ∧ w'.cell? ⟨g, r * 12 + 10, none⟩ = some (.int .i64 f.wt) ∧ w'.cell? ⟨g, r * 12 + 11, none⟩ = some (.slice p.2.2.1 f.Y.length p.2.2.2)) ∧ SrcAt w' p.1 f.X ∧ SetsAt w' p.2.2.1 p.2.2.2 f.Y ∧ Nums f := by
  obtain ⟨ls, xs, h1, h2, h3, h4, h5⟩ := h
  rw [← h1] at hr
  simp only [List.getElem?_map, Option.map_eq_some_iff] at hr
  obtain ⟨⟨f', p⟩, hr, rfl⟩ := hr
  obtain ⟨g, e, hc⟩ := frow_at h2 hr
  have hz := h4 _ (List.mem_of_getElem? hr)
  exact ⟨p, g, e, hc, hz.1.1, hz.1.2.1, hz.2⟩
theorem AllR.fault {w w' : World} {a ax : Option Addr} {n c nx cx : Nat} {T : List Fra × List Flt} (h : AllR w w' (.slice a n c) (.slice ax nx cx) T) {r : Nat} {x : Flt} (hr : T.2[r]? = some x) : ∃ g, ax = some ⟨g, 0, none⟩ ∧ w'.cell? ⟨g, r * 3, none⟩ = some (.bool x.is) ∧ w'.cell? ⟨g, r * 3 + 1, none⟩ = some (.int .i64 x.st) ∧ w'.cell? ⟨g, r * 3 + 2, none⟩ = some (.int .i64 x.code) := by
  obtain ⟨ls, xs, h1, h2, h3, h4, h5⟩ := h
  rw [← h1] at hr
  exact xrow_at h3 hr

theorem chunks_walk (a0 : Option Addr) (len0 cap0 : Nat) (a1 : Option Addr) (len1 cap1 : Nat) (a2 : Option Addr) (len2 cap2 : Nat) (X0 X1 X2 : List UInt8) (w : World) (h0 : SrcAt w a0 X0) (hl0 : X0.length = len0) (hb0 : len0 ≤ 1048576) (hc0 : len0 ≤ cap0) (h1 : SrcAt w a1 X1) (hl1 : X1.length = len1) (hb1 : len1 ≤ 1048576) (hc1 : len1 ≤ cap1) (h2 : SrcAt w a2 X2) (hl2 : X2.length = len2) (hb2 : len2 ≤ 1048576) (hc2 : len2 ≤ cap2) :
    Calls Try.prog 4 #[.slice a0 len0 cap0, .slice a1 len1 cap1, .slice a2 len2 cap2] w fun e w' => e = .returned (.bool true) ∧ Below w.heap.size w w' := by
  by_cases hbig : 4000 < len0
  case pos =>
    have hbi : (4000 : Int) < (len0 : Int) := by omega
    go_enter Try.func4, Try.ntmps4
    go_wp2_with (go_at_call 17; refine (nawake_in _).mono ?_; rintro e w' ⟨rfl, hf⟩)
    go_ret
    exact ⟨rfl, hf.below (fun _ _ => id)⟩
  case neg =>
    have hbi : ¬ (4000 : Int) < (len0 : Int) := by omega
    obtain ⟨T, hT⟩ : ∃ T, runO 16384 (cutL X0 X1) [] ⟨false, 0, 0⟩ = T := ⟨_, rfl⟩
    have HT1 : Hid (runO 16384 (cutL X0 X1) [] ⟨false, 0, 0⟩ = T) := hT
    have HT2 : Hid (runO 16384 (cutL X0 X2) [] ⟨false, 0, 0⟩ = T) := by show _ = _; rw [← hT]; exact run_same 16384 (by omega) _ _ (by rw [cutL_flat, cutL_flat])
    have K1 : Hid (Calls Try.prog 19 #[.slice a0 len0 cap0, .slice a1 len1 cap1] w fun e w' => ∃ q n c, e = .returned (.slice q n c) ∧ Pcs w w' (.slice q n c) (cutL X0 X1)) := cut_in a0 len0 cap0 X0 a1 len1 cap1 X1 w h0 hl0 hc0 (by omega) h1 hl1 hb1
    have K2 : Hid (∀ w2, Fr (fun _ => False) w w2 → Calls Try.prog 19 #[.slice a0 len0 cap0, .slice a2 len2 cap2] w2 fun e w' => ∃ q n c, e = .returned (.slice q n c) ∧ Pcs w2 w' (.slice q n c) (cutL X0 X2)) := fun w2 hf => cut_in a0 len0 cap0 X0 a2 len2 cap2 X2 w2 (h0.oldF hf) hl0 hc0 (by omega) (h2.oldF hf) hl2 hb2
    have KA1 : Hid (∀ q n c w2 w', Pcs w2 w' (.slice q n c) (cutL X0 X1) → Calls Try.prog 18 #[.slice q n c] w' fun e w3 => ∃ a n c ax nx cx, e = .returned (.tuple #[.slice a n c, .slice ax nx cx, .bool true]) ∧ AllR w' w3 (.slice a n c) (.slice ax nx cx) T) := fun q n c w2 w' hp => by
      obtain ⟨hc, hn⟩ := hp.chunks
      rw [← HT1.out, hn]
      exact all_in q c (cutL X0 X1) w' hc (by rw [cutL_flat]; omega) (by rw [cutL_len]; omega)
    have KA2 : Hid (∀ q n c w2 w', Pcs w2 w' (.slice q n c) (cutL X0 X2) → Calls Try.prog 18 #[.slice q n c] w' fun e w3 => ∃ a n c ax nx cx, e = .returned (.tuple #[.slice a n c, .slice ax nx cx, .bool true]) ∧ AllR w' w3 (.slice a n c) (.slice ax nx cx) T) := fun q n c w2 w' hp => by
      obtain ⟨hc, hn⟩ := hp.chunks
      rw [← HT2.out, hn]
      exact all_in q c (cutL X0 X2) w' hc (by rw [cutL_flat]; omega) (by rw [cutL_len]; omega)
    have HTN : Hid (T.1.length ≤ 4000 ∧ T.2.length ≤ 4000) := by
      have hr : runO 16384 [X0] [] ⟨false, 0, 0⟩ = T := by rw [← hT]; exact run_same 16384 (by omega) _ _ (by rw [cutL_flat]; simp)
      have hd := drain_few 16384 (X0.length + 1) X0 ⟨false, 0, 0⟩ (by omega) rfl
      have hx : T.1.length = (drainR 16384 X0 ⟨false, 0, 0⟩).1.1.length ∧ T.2.length = (drainR 16384 X0 ⟨false, 0, 0⟩).1.2.length := by rw [← hr]; simp [runO]
      show _ ∧ _
      omega
    clear hT h0 h1 h2 hl0 hl1 hl2 HT1 HT2
    go_enter Try.func4, Try.ntmps4
    go_wp2_with (fail)
    refine K1.out.mono ?_
    rintro e w1 ⟨q1, n1, c1, rfl, hp1⟩
    have F1 : Hid (Fr (fun _ => False) w w1) := by obtain ⟨vs, -, -, h3, -⟩ := hp1; exact h3
    have A1 : Hid (Calls _ _ _ _ _) := KA1.out q1 n1 c1 w w1 hp1
    clear hp1
    go_wp2_with (fail)
    refine A1.out.mono ?_
    rintro e w2 ⟨a, n, c, ax, nx, cx, rfl, r2⟩
    have R2 : Hid (AllR w1 w2 (.slice a n c) (.slice ax nx cx) T) := r2
    have F2 : Hid (Fr (fun _ => False) w w2) := by obtain ⟨ls, xs, -, -, -, -, h5⟩ := r2; exact F1.out.trans h5
    clear r2 A1
    go_wp2_with (fail)
    refine (K2.out w2 F2.out).mono ?_
    rintro e w3 ⟨q3, n3, c3, rfl, hp3⟩
    have F3 : Hid (Fr (fun _ => False) w2 w3) := by obtain ⟨vs, -, -, h3, -⟩ := hp3; exact h3
    have A3 : Hid (Calls _ _ _ _ _) := KA2.out q3 n3 c3 w2 w3 hp3
    clear hp3
    go_wp2_with (fail)
    refine A3.out.mono ?_
    rintro e w4 ⟨b, m, d, bx, mx, dx, rfl, r4⟩
    have R4 : Hid (AllR w3 w4 (.slice b m d) (.slice bx mx dx) T) := r4
    have F4 : Hid (Fr (fun _ => False) w3 w4) := by obtain ⟨ls, xs, -, -, -, -, h5⟩ := r4; exact h5
    clear r4 A3
    have R5 : Hid (AllR w1 w4 (.slice a n c) (.slice ax nx cx) T) := R2.out.later (F3.out.trans F4.out)
    have FW : Hid (Fr (fun _ => False) w w4) := F2.out.trans (F3.out.trans F4.out)
    obtain ⟨N, hN⟩ : ∃ N, T.1.length = N := ⟨_, rfl⟩
    obtain ⟨M, hM⟩ : ∃ M, T.2.length = M := ⟨_, rfl⟩
    have hl := R5.out.lens
    have hl2 := R4.out.lens
    rw [hN, hM] at hl hl2
    obtain rfl : N = n := hl.1.symm
    obtain rfl : M = nx := hl.2.symm
    obtain rfl : N = m := hl2.1.symm
    obtain rfl : M = mx := hl2.2.symm
    clear hl hl2
    have HN : Hid (T.1.length = N ∧ T.2.length = M) := ⟨hN, hM⟩
    have hNs : N ≤ 4000 ∧ M ≤ 4000 := by have := HTN.out; omega
    clear hN hM
    go_wp2_with (fail)
    go_loopw [13] (fun v13 wr => ∃ i : Nat, v13 = .int .i64 (i : Int) ∧ i ≤ N ∧ Hid (Fr (fun _ => False) w4 wr)) (fun v13 _ => N - (intOf v13).toNat)
    case atStart => exact ⟨0, rfl, by omega, Fr.refl _ _⟩
    case round =>
      obtain ⟨i, rfl, hi, HF⟩ := hrel
      by_cases hlt : i < N
      case pos =>
        have hlti : (i : Int) < (N : Int) := by omega
        obtain ⟨f, hf⟩ : ∃ f, T.1[i]? = some f := ⟨_, List.getElem?_eq_getElem (by rw [HN.out.1]; exact hlt)⟩
        obtain ⟨⟨p, cp, q, cq⟩, g, rfl, ⟨k0, k1, k2, k3, k4, k5, k6, k7, k8, k9, k10, k11⟩, s1, s2, nu⟩ := (R5.out.later HF.out).frame hf
        obtain ⟨⟨p', cp', q', cq'⟩, g', rfl, ⟨l0, l1, l2, l3, l4, l5, l6, l7, l8, l9, l10, l11⟩, s3, s4, -⟩ := (R4.out.later HF.out).frame hf
        have HS : Hid (SrcAt wr p f.X ∧ SetsAt wr q cq f.Y ∧ SrcAt wr p' f.X ∧ SetsAt wr q' cq' f.Y ∧ Nums f) := ⟨s1, s2, s3, s4, nu⟩
        clear hf s1 s2 s3 s4 nu
        go_wp2_with (fail)
        refine wp_region_cut 8 2 #[true, true, true, true, true, true, true, true, false, false] (by kernel_rfl) (by kernel_rfl) rfl rfl ?_
        simp only [List.take_succ_cons, List.take_zero]
        repeat (go_big_quiet_step (fail))
        refine wpQuiet_nil ?_
        rintro _ ⟨nq, rfl⟩ mm
        refine wpAny_ready (rs := [8]) (by kernel_rfl) (by simp) ?_
        refine AllReady.cons rfl (fun K hK => ?_) AllReady.nil
        go_simp
        have hd : Fr (fun _ => False) wr (wr.drewN nq) := (Fr.refl _ _).drewN nq
        refine (nsame_in f p q p' q' cp cq cp' cq' _ HS.out.2.2.2.2 (HS.out.1.oldF hd) (HS.out.2.2.1.oldF hd) (HS.out.2.1.later hd) (HS.out.2.2.2.1.later hd)).mono ?_
        rintro e u1 ⟨rfl, fu⟩
        refine hK _ _ ?_
        clear hK K
        have FU : Hid (Fr (fun _ => False) w4 u1) := HF.out.trans (hd.trans fu)
        clear hd fu k0 k1 k2 k3 k4 k5 k6 k7 k8 k9 k10 k11 l0 l1 l2 l3 l4 l5 l6 l7 l8 l9 l10 l11
        refine wpAny_of_held (S := fun _ => True) _ _ _ _ ?_
        refine wpAnyH_take (i := 9) (oi := _) (v := .bool false) rfl (by kernel_rfl) (by kernel_rfl) (by kernel_rfl) (fun _ _ _ h => h) (Or.inl ⟨by kernel_rfl, fun w2 hw => by go_simp⟩) trivial ?_
        simp only [Act.put, List.getElem_toArray, List.getElem_cons_succ, List.getElem_cons_zero, List.setIfInBounds_toArray, List.set_cons_zero, List.set_cons_succ]
        refine wpAnyH_done (by kernel_rfl) ?_ _
        go_wp2_with (fail)
        go_roundw
        case rel => exact ⟨i + 1, by go_num, by omega, FU.out⟩
        case measure => simp [intOf]; omega
      case neg =>
        have hlti : ¬ (i : Int) < (N : Int) := by omega
        have HFo : Hid (Fr (fun _ => False) w4 wr) := HF.out
        go_wp2_with (fail)
        rename World => wo
        go_loopw [14] (fun v14 wr => ∃ i : Nat, v14 = .int .i64 (i : Int) ∧ i ≤ M ∧ Hid (Fr (fun _ => False) w4 wr)) (fun v14 _ => M - (intOf v14).toNat)
        case atStart => exact ⟨0, rfl, by omega, HFo.out⟩
        case round =>
          obtain ⟨j, rfl, hj, HJ⟩ := hrel
          by_cases hlt2 : j < M
          case pos =>
            have hltj : (j : Int) < (M : Int) := by omega
            obtain ⟨⟨fi, fs, fcd⟩, hx⟩ : ∃ x, T.2[j]? = some x := ⟨_, List.getElem?_eq_getElem (by rw [HN.out.2]; exact hlt2)⟩
            obtain ⟨g, rfl, k0, k1, k2⟩ := (R5.out.later HJ.out).fault hx
            obtain ⟨g', rfl, l0, l1, l2⟩ := (R4.out.later HJ.out).fault hx
            clear hx
            go_wp2_with (fail)
            go_quiet (fail)
            go_wp2_with (fail)
            go_roundw
            case rel => exact ⟨j + 1, by go_num, by omega, HJ.out.drewN _⟩
            case measure => simp [intOf]; omega
          case neg =>
            have hltj : ¬ (j : Int) < (M : Int) := by omega
            go_wp2_with (go_at_call 17; refine (nawake_in _).mono ?_; rintro e w' ⟨rfl, hf⟩)
            go_ret
            exact ⟨rfl, ((FW.out.trans HJ.out).trans hf).below (fun _ _ => id)⟩
end Go.Proofs.Ytikaefjhmgcidaa
