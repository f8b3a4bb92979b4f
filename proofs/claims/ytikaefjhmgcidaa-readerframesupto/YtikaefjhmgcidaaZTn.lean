/- Contract of the law's own all. -/
import Derived.Test.YtikaefjhmgcidaaZTm
namespace Go.Proofs.Ytikaefjhmgcidaa
open Go.RowKit
set_option linter.unusedVariables false
set_option maxRecDepth 100000
set_option maxHeartbeats 4000000

/-- Chunks in memory. -/
def ChunksP (w : World) (lq : Option Addr) (L : List (List UInt8)) : Prop := ∀ r C, L[r]? = some C → ∃ g o p d, lq = some ⟨g, o, none⟩ ∧ g < w.heap.size ∧ w.cell? ⟨g, o + r, none⟩ = some (.slice p C.length d) ∧ SrcAt w p C
theorem Pcs.chunks {w0 w : World} {a : Option Addr} {n c : Nat} {Xs : List (List UInt8)} (h : Pcs w0 w (.slice a n c) Xs) : ChunksP w a Xs ∧ n = Xs.length := by
  obtain ⟨vs, h1, h2, h3, h4, h5⟩ := h
  have hn : n = vs.length := by obtain ⟨a', cap, e, -⟩ := h1.form; cases e; rfl
  refine ⟨fun r C hr => ?_, by rw [hn, h4]⟩
  obtain ⟨q, d, e1, e2, -⟩ := h5 r C hr
  obtain ⟨g, off, cap, e3, e4, -⟩ := h1.cells r _ e1
  cases e3
  exact ⟨g, off, q, d, rfl, World.block_lt_of_cell? _ _ e4, e4, e2⟩
theorem infoF : ∃ i, Try.prog.info? 36 = some i ∧ i.zero = some (.agg #[.int .i64 0, .int .i64 0, .int .i64 0, .slice none 0 0, .int .i64 0, .int .u32 0, .int .i64 0, .int .i64 0, .int .i64 0, .bool false, .int .i64 0, .slice none 0 0]) ∧ i.size = 12 ∧ i.bytes = 128 :=
  ⟨(Try.prog.info? 36).get (by kernel_rfl), by kernel_rfl, by kernel_rfl, by kernel_rfl, by kernel_rfl⟩
theorem infoX : ∃ i, Try.prog.info? 38 = some i ∧ i.zero = some (.agg #[.bool false, .int .i64 0, .int .i64 0]) ∧ i.size = 3 ∧ i.bytes = 24 :=
  ⟨(Try.prog.info? 38).get (by kernel_rfl), by kernel_rfl, by kernel_rfl, by kernel_rfl, by kernel_rfl⟩
/-- What all answers. -/
def AllR (w w' : World) (v vx : Value) (T : List Fra × List Flt) : Prop :=
  ∃ (ls : List FM) (xs : List Flt), (ls.map Prod.fst, xs) = T ∧ w'.ownsRow 0 36 12 v ls.length (frows ls) ∧ w'.ownsRow 0 38 3 vx xs.length (xrows xs) ∧ (∀ z ∈ ls, FOk w' (fun _ => False) z ∧ Nums z.1) ∧ Fr (fun _ => False) w w'
theorem drain_told_frame {most : Int} {B B' : List UInt8} {X X' : Flt} {gf : Fra} {bad : Flt} (hX : X.is = false) (hr : nextR most B X = ((gf, true, bad), B', X')) : X' = X ∧ drainR most B X = ((gf :: (drainR most B' X').1.1, (drainR most B' X').1.2), (drainR most B' X').2) := by
  have h := (told_less (most := most) (B := B) hX (by rw [hr]; exact .inl rfl)).2
  rw [hr] at h
  have h : X' = X := h
  refine ⟨h, ?_⟩
  rw [drainR_eq most B X hX, hr, if_pos rfl, h]
theorem drain_told_fault {most : Int} {B B' : List UInt8} {X X' : Flt} {gf : Fra} {bad : Flt} (hX : X.is = false) (hb : bad.is = true ∧ bad.st ≠ 0) (hr : nextR most B X = ((gf, false, bad), B', X')) : X' = X ∧ drainR most B X = (((drainR most B' X').1.1, bad :: (drainR most B' X').1.2), (drainR most B' X').2) := by
  have h := (told_less (most := most) (B := B) hX (by rw [hr]; exact .inr hb)).2
  rw [hr] at h
  have h : X' = X := h
  refine ⟨h, ?_⟩
  rw [drainR_eq most B X hX, hr, if_neg (by simp), if_pos hb, h]
theorem drain_untold {most : Int} {B B' : List UInt8} {X X' : Flt} {gf : Fra} {is : Bool} {bad : Flt} (hz : X.is = true → X.st = 0) (hr : nextR most B X = ((gf, is, bad), B', X')) (ht : ¬ told ((gf, is, bad), B', X')) : drainR most B X = (([], []), B', X') := by
  cases hX : X.is
  · rw [drainR_eq most B X hX, hr, if_neg (fun h => ht (.inl h)), if_neg (fun h => ht (.inr h))]
  · rw [nextR_eq, if_pos hX] at hr
    cases hr
    exact drain_failed most B X hX (hz hX)
theorem untold_st {most : Int} {B B' : List UInt8} {X X' : Flt} {gf : Fra} {is : Bool} {bad : Flt} (hz : X.is = true → X.st = 0) (hr : nextR most B X = ((gf, is, bad), B', X')) (ht : ¬ told ((gf, is, bad), B', X')) : X'.is = true → X'.st = 0 := by
  have h := untold (most := most) (B := B) (X := X) (by rw [hr]; exact ht) hz
  rw [hr] at h
  intro hx
  rcases h with h | h
  · exact h.2
  · rw [show X'.is = false from h.1] at hx; cases hx
theorem told_frame_not_failed {most : Int} {B B' : List UInt8} {X X' : Flt} {gf : Fra} {is : Bool} {bad : Flt} (hz : X.is = true → X.st = 0) (hr : nextR most B X = ((gf, is, bad), B', X')) (ht : told ((gf, is, bad), B', X')) : X.is = false := by
  cases hX : X.is
  · rfl
  · rw [nextR_eq, if_pos hX] at hr
    cases hr
    rcases ht with h | h
    · simp at h
    · exact absurd (hz hX) h.2

theorem mute_none {gf : Fra} {fs fcd : Int} {B : List UInt8} {X : Flt} : ¬ told ((gf, false, ⟨false, fs, fcd⟩), B, X) := fun h => by
  rcases h with h | h
  · simp at h
  · simp at h
theorem mute_fault {gf : Fra} {fs fcd : Int} {B : List UInt8} {X : Flt} (h : (fs == 0) = true) : ¬ told ((gf, false, ⟨true, fs, fcd⟩), B, X) := fun h' => by
  rcases h' with h' | h'
  · simp at h'
  · exact h'.2 (by simpa using h)
theorem all_in (lq : Option Addr) (lc : Nat) (L : List (List UInt8)) (w : World) (hP : ChunksP w lq L) (hflat : L.flatten.length ≤ 4000) (hLn : L.length ≤ 1048577) :
    Calls Try.prog 18 #[.slice lq L.length lc] w fun e w' => ∃ a n c ax nx cx, e = .returned (.tuple #[.slice a n c, .slice ax nx cx, .bool true]) ∧ AllR w w' (.slice a n c) (.slice ax nx cx) (runO 16384 L [] ⟨false, 0, 0⟩) := by
  obtain ⟨T, hT⟩ : ∃ T, runO 16384 L [] ⟨false, 0, 0⟩ = T := ⟨_, rfl⟩
  have HT : Hid (runO 16384 L [] ⟨false, 0, 0⟩ = T) := hT
  have HP : Hid (ChunksP w lq L) := hP
  rw [hT]
  obtain ⟨fi0, f1, f2, f3, f4⟩ := infoF
  have IF : Hid (Try.prog.info? 36 = some fi0 ∧ fi0.zero = some (.agg #[.int .i64 0, .int .i64 0, .int .i64 0, .slice none 0 0, .int .i64 0, .int .u32 0, .int .i64 0, .int .i64 0, .int .i64 0, .bool false, .int .i64 0, .slice none 0 0]) ∧ fi0.size = 12 ∧ fi0.bytes = 128) := ⟨f1, f2, f3, f4⟩
  obtain ⟨xi0, x1, x2, x3, x4⟩ := infoX
  have IX : Hid (Try.prog.info? 38 = some xi0 ∧ xi0.zero = some (.agg #[.bool false, .int .i64 0, .int .i64 0]) ∧ xi0.size = 3 ∧ xi0.bytes = 24) := ⟨x1, x2, x3, x4⟩
  clear hP hT f1 f2 f3 f4 x1 x2 x3 x4
  go_enter Try.func18, Try.ntmps18
  go_wp2_with (go_at_call 8; refine (New_rdr 16384 _ (by omega) (by omega)).mono ?_; rintro e w1 ⟨rfl, r1, f1⟩; have R1 : Hid (Rdr w1 w.heap.size 16384 [] ⟨false, 0, 0⟩ none 0 ∧ Fr (fun _ => False) w w1) := ⟨r1, f1⟩; clear r1 f1)
  have S1 : Hid (AllS w 16384 [] ⟨false, 0, 0⟩ none 8000 (.slice none 0 0) [] (.slice none 0 0) [] w1) := by
    refine ⟨R1.out.1.mono (by omega), ⟨rfl, .inl ⟨rfl, rfl⟩⟩, ⟨rfl, .inl ⟨rfl, rfl⟩⟩, fun z hz => by simp at hz, fun z hz => by simp at hz, fun k hk => ?_, R1.out.2⟩
    rcases hk with e | e | e | e
    · exact Nat.le_of_eq e.symm
    · cases e
    · simp [Value.ownBlock] at e
    · simp [Value.ownBlock] at e
  clear R1
  go_loopw [7, 8, 9] (fun v7 v8 v9 wr => ∃ (i : Nat) (B : List UInt8) (X : Flt) (ob : Option Nat) (a : Option Addr) (n c : Nat) (ls : List FM) (ax : Option Addr) (nx cx : Nat) (xs : List Flt), v7 = .slice a n c ∧ v8 = .slice ax nx cx ∧ v9 = .int .i64 (i : Int) ∧ i ≤ L.length ∧ Hid (AllS w 16384 B X ob 8000 (.slice a n c) ls (.slice ax nx cx) xs wr ∧ (X.is = true → X.st = 0) ∧ 9 * (ls.length + xs.length) + B.length + (L.drop i).flatten.length ≤ 4000 ∧ T = (ls.map Prod.fst ++ (runO 16384 (L.drop i) B X).1, xs ++ (runO 16384 (L.drop i) B X).2))) (fun _ _ v9 _ => L.length - (intOf v9).toNat)
  case atStart => exact ⟨0, [], ⟨false, 0, 0⟩, none, none, 0, 0, [], none, 0, 0, [], rfl, rfl, rfl, by omega, S1.out, fun h => (by cases h), by simpa using hflat, by simp [HT.out]⟩
  case round =>
    rename World => wo
    obtain ⟨i, B, X, ob, a, n, c, ls, ax, nx, cx, xs, rfl, rfl, rfl, hi, HR⟩ := hrel
    by_cases hlt : i < L.length
    case neg =>
      have hlti : ¬ (i : Int) < (L.length : Int) := by omega
      go_wp2_with (fail)
      go_ret3
      refine ⟨a, n, c, ax, nx, cx, rfl, ls, xs, ?_, HR.out.1.fl, HR.out.1.xl, fun z hz => ⟨(HR.out.1.fo z hz).mono (fun _ e => e.elim), HR.out.1.nu z hz⟩, HR.out.1.fr⟩
      have h1 := HR.out.2.2.2
      rw [List.drop_of_length_le (by omega)] at h1
      rw [h1]
      simp [runO]
    case pos =>
      have hlti : (i : Int) < (L.length : Int) := by omega
      obtain ⟨C, hC⟩ : ∃ C, L[i]? = some C := ⟨_, List.getElem?_eq_getElem hlt⟩
      obtain ⟨lb, lo, cp0, cd, rfl, hlb, hcell, hsrc⟩ := HP.out i C hC
      have hdrop : L.drop i = C :: L.drop (i + 1) := by
        rw [List.drop_eq_getElem_cons hlt]
        congr 1
        have := List.getElem?_eq_getElem (l := L) (i := i) hlt
        rw [hC] at this
        exact (Option.some.inj this).symm
      have c0 : wo.cell? ⟨lb, lo + i, none⟩ = some (.slice cp0 C.length cd) := (HR.out.1.fr.cell (p := ⟨lb, lo + i, none⟩) hlb id).trans hcell
      obtain ⟨cs, hcs⟩ : ∃ cs, L.drop (i + 1) = cs := ⟨_, rfl⟩
      have HCS : Hid (L.drop (i + 1) = cs) := hcs
      rw [hcs] at hdrop
      have hsum := HR.out.2.2.1
      rw [hdrop, List.flatten_cons, List.length_append] at hsum
      have HSUM : Hid (9 * (ls.length + xs.length) + B.length + (C.length + cs.flatten.length) ≤ 4000) := hsum
      have HTT : Hid (T = (ls.map Prod.fst ++ ((drainR 16384 (if X.is = true then B else B ++ C) X).1.1 ++ (runO 16384 cs (drainR 16384 (if X.is = true then B else B ++ C) X).2.1 (drainR 16384 (if X.is = true then B else B ++ C) X).2.2).1), xs ++ ((drainR 16384 (if X.is = true then B else B ++ C) X).1.2 ++ (runO 16384 cs (drainR 16384 (if X.is = true then B else B ++ C) X).2.1 (drainR 16384 (if X.is = true then B else B ++ C) X).2.2).2))) := by
        have h1 := HR.out.2.2.2
        rw [hdrop, runO] at h1
        exact h1
      obtain ⟨m, hm⟩ : ∃ m, C.length = m := ⟨_, rfl⟩
      have KF : Hid (Calls Try.prog 10 #[.pointer (some ⟨w.heap.size, 0, none⟩), .slice cp0 m cd] wo fun e w2 => ∃ (er : Int) (ob1 : Option Nat), e = .returned (.int .i64 er) ∧ AllS w 16384 (if X.is = true then B else B ++ C) X ob1 12000 (.slice a n c) ls (.slice ax nx cx) xs w2) := by
        cases hX : X.is
        · refine (Feed_rdr w.heap.size 16384 B X ob 8000 cp0 m cd C wo HR.out.1.rd (by omega) hX (hsrc.oldF HR.out.1.fr) hm (by omega)).mono ?_
          rintro e w2 ⟨rfl, ob1, r1, g1, o1⟩
          exact ⟨0, ob1, rfl, by rw [if_neg (by simp)]; exact HR.out.1.step (r1.mono (by omega)) g1 o1⟩
        · refine (Feed_rdr_failed w.heap.size 16384 B X ob 8000 _ wo HR.out.1.rd (by omega) hX).mono ?_
          rintro e w2 ⟨rfl, rfl⟩
          exact ⟨5, ob, rfl, by rw [if_pos rfl]; exact { HR.out.1 with rd := HR.out.1.rd.mono (by omega) }⟩
      have HBL : Hid ((if X.is = true then B else B ++ C).length ≤ B.length + C.length) := by show _ ≤ _; split <;> simp
      have HST : Hid (X.is = true → X.st = 0) := HR.out.2.1
      obtain ⟨B1, hB1⟩ : ∃ B1, (if X.is = true then B else B ++ C) = B1 := ⟨_, rfl⟩
      rw [hB1] at KF HTT HBL
      rw [hm] at c0
      clear hC hcell hsrc hdrop hcs hsum hB1 hm
      go_wp2_with (go_at_call 10; refine KF.out.mono ?_; rintro e w2 ⟨er, ob1, rfl, s1⟩; have S2 : Hid (AllS w 16384 B1 X ob1 12000 (.slice a n c) ls (.slice ax nx cx) xs w2) := s1; clear s1)
      clear c0
      go_loopw [7, 8, 10] (fun v7 v8 v10 wr => ∃ (k : Nat) (B2 : List UInt8) (X2 : Flt) (o2 : Option Nat) (a2 : Option Addr) (n2 c2 : Nat) (ls2 : List FM) (ax2 : Option Addr) (nx2 cx2 : Nat) (xs2 : List Flt), v7 = .slice a2 n2 c2 ∧ v8 = .slice ax2 nx2 cx2 ∧ v10 = .int .i64 (k : Int) ∧ Hid (k ≤ ls2.length + xs2.length ∧ AllS w 16384 B2 X2 o2 12000 (.slice a2 n2 c2) ls2 (.slice ax2 nx2 cx2) xs2 wr ∧ (X2.is = true → X2.st = 0) ∧ 9 * (ls2.length + xs2.length) + B2.length + cs.flatten.length ≤ 4000 ∧ T = (ls2.map Prod.fst ++ ((drainR 16384 B2 X2).1.1 ++ (runO 16384 cs (drainR 16384 B2 X2).2.1 (drainR 16384 B2 X2).2.2).1), xs2 ++ ((drainR 16384 B2 X2).1.2 ++ (runO 16384 cs (drainR 16384 B2 X2).2.1 (drainR 16384 B2 X2).2.2).2)))) (fun _ _ v10 _ => 10000 - (intOf v10).toNat)
      case atStart => exact ⟨0, B1, X, ob1, a, n, c, ls, ax, nx, cx, xs, rfl, rfl, rfl, by omega, S2.out, HST.out, by have := HSUM.out; have := HBL.out; omega, HTT.out⟩
      case round =>
        obtain ⟨k, B2, X2, o2, a2, n2, c2, ls2, ax2, nx2, cx2, xs2, rfl, rfl, rfl, HK⟩ := hrel
        have hk : k < 10000 := by have := HK.out.1; have := HK.out.2.2.2.1; omega
        have hki : (k : Int) < 10000 := by omega
        have KN := Next_in w.heap.size 16384 B2 X2 o2 12000 wr HK.out.2.1.rd (by omega) (by omega) (by decide)
        have HNU : Hid (Nums (nextR 16384 B2 X2).1.1) := next_nums 16384 (B2.length + 1) B2 X2 (by omega)
        have HLE : Hid ((nextR 16384 B2 X2).2.1.length ≤ B2.length) := by
          show _ ≤ _
          cases hX : X2.is
          · exact (next_less 16384 (B2.length + 1) B2 X2 (by omega) hX).1
          · rw [nextR_eq, if_pos hX]; exact Nat.le_refl _
        have HTL : Hid (X2.is = false → told (nextR 16384 B2 X2) → (nextR 16384 B2 X2).2.1.length + 9 ≤ B2.length) := fun hX ht => (told_less hX ht).1
        obtain ⟨⟨⟨gf, is, ⟨fi, fs, fcd⟩⟩, B', X'⟩, hr⟩ : ∃ r, nextR 16384 B2 X2 = r := ⟨_, rfl⟩
        have HRR : Hid (nextR 16384 B2 X2 = ((gf, is, ⟨fi, fs, fcd⟩), B', X')) := hr
        rw [hr] at KN HNU HLE HTL
        clear hr
        go_upto_region 14 with (first
          | (go_at_call 12; refine KN.mono ?_; clear KN; rintro e y1 ⟨p, cp, q, cq, o1, rfl, hs1, hy1, hp1, hq1, r1, g1, n1⟩; have T1 : Hid (AllS w 16384 B' X' o1 (min 12000 (2 * B'.length)) (.slice a2 n2 c2) ls2 (.slice ax2 nx2 cx2) xs2 y1) := HK.out.2.1.step r1 (g1.mono (fun _ _ e => .inl e)) n1; have P1 : Hid (SrcAt y1 p gf.X ∧ SetsAt y1 q cq gf.Y ∧ (∀ ad, p = some ad → 0 < gf.X.length → wr.heap.size ≤ ad.block ∧ o1 ≠ some ad.block) ∧ (∀ ad, q = some ad → 0 < gf.Y.length → wr.heap.size ≤ ad.block ∧ o1 ≠ some ad.block)) := ⟨hs1, hy1, hp1, hq1⟩; clear hs1 hy1 hp1 hq1 r1 g1 n1)
          | (refine wpList_storeB rfl 36 (.tmp 11) (.tmp 39) rfl y1.heap.size #[.int .i64 0, .int .i64 0, .int .i64 0, .slice none 0 0, .int .i64 0, .int .u32 0, .int .i64 0, .int .i64 0, .int .i64 0, .bool false, .int .i64 0, .slice none 0 0] #[.int .i64 gf.k, .int .i64 gf.fl, .int .i64 gf.st, .slice p gf.X.length cp, .int .i64 gf.pad, .int .u32 gf.code, .int .i64 gf.last, .int .i64 gf.inc, .int .i64 gf.dep, .bool gf.only, .int .i64 gf.wt, .slice q gf.Y.length cq] 36 rfl rfl (past_at _ (heap_alloc_new y1 _)) rfl (by kernel_rfl) (by simp [Value.oneCell']) ?_; intro y2 H2 G2)
          | (refine wpList_storeB rfl 38 (.tmp 13) (.tmp 41) rfl (y1.heap.size + 1) #[.bool false, .int .i64 0, .int .i64 0] #[.bool fi, .int .i64 fs, .int .i64 fcd] 38 rfl rfl ((G2.out.block _ (by simp) (by omega)).trans (last_at _ (by simp))) rfl (by kernel_rfl) (by simp [Value.oneCell']) ?_; intro y3 H3 G3))
        have FF3 : Hid (Fr (fun _ => False) y1 y3) := ((((Fr.refl (fun k => k = y1.heap.size ∨ k = y1.heap.size + 1) _).alloc _).alloc _).trans ((G2.out.mono (fun _ _ e => .inl e)).trans (G3.out.mono (fun _ _ e => .inr e)))).mono (fun k hk e => by omega)
        have A3 : Hid (FAt y3 y1.heap.size gf p cp q cq) := (G3.out.block _ (lt_of_heap H2.out) (by omega)).trans H2.out
        have B3 : Hid (y3.heap[y1.heap.size + 1]? = some (.cells #[.bool fi, .int .i64 fs, .int .i64 fcd] 38 (0, 0))) := H3.out
        have T3 : Hid (AllS w 16384 B' X' o1 (min 12000 (2 * B'.length)) (.slice a2 n2 c2) ls2 (.slice ax2 nx2 cx2) xs2 y3) := T1.out.later FF3.out
        have P3 : Hid (FOk y3 (Live w.heap.size o1 (.slice a2 n2 c2) (.slice ax2 nx2 cx2)) (gf, p, cp, q, cq)) := by
          have hg := HK.out.2.1.rd.lt.1
          have hv := fun k hk => (row_lt HK.out.2.1.fl k hk).1
          have hx := fun k hk => (row_lt HK.out.2.1.xl k hk).1
          have hno : ∀ ad : Addr, wr.heap.size ≤ ad.block → o1 ≠ some ad.block → ¬ Live w.heap.size o1 (.slice a2 n2 c2) (.slice ax2 nx2 cx2) ad.block := fun ad h1 h2 e => by
            rcases e with e | e | e | e
            · omega
            · exact h2 e
            · have := hv _ e; omega
            · have := hx _ e; omega
          exact ⟨P1.out.1.oldF FF3.out, P1.out.2.1.later FF3.out, fun ad e hl => hno ad (P1.out.2.2.1 ad e hl).1 (P1.out.2.2.1 ad e hl).2, fun ad e hl => hno ad (P1.out.2.2.2 ad e hl).1 (P1.out.2.2.2 ad e hl).2⟩
        clear H2 G2 H3 G3
        obtain ⟨d0, d1, d2⟩ := cells3 B3.out
        obtain ⟨g0, g1, g2, g3, g4, g5, g6, g7, g8, g9, g10, g11⟩ := fcells A3.out
        have HN2 : Hid (ls2.length ≤ 444 ∧ xs2.length ≤ 444) := by have h1 := HK.out.2.2.2.1; show _ ∧ _; omega
        cases is
        case true =>
          have HF : Hid (X2.is = false) := told_frame_not_failed HK.out.2.2.1 HRR.out (.inl rfl)
          have hdr := drain_told_frame HF.out HRR.out
          have HDR : Hid (X' = X2 ∧ drainR 16384 B2 X2 = ((gf :: (drainR 16384 B' X').1.1, (drainR 16384 B' X').1.2), (drainR 16384 B' X').2)) := hdr
          clear hdr
          obtain ⟨y4, hy4⟩ : ∃ y4, y4 = y3.alloc (.cells #[.int .i64 gf.k, .int .i64 gf.fl, .int .i64 gf.st, .slice p gf.X.length cp, .int .i64 gf.pad, .int .u32 gf.code, .int .i64 gf.last, .int .i64 gf.inc, .int .i64 gf.dep, .bool gf.only, .int .i64 gf.wt, .slice q gf.Y.length cq] 36) := ⟨_, rfl⟩
          have B4 : Hid (y4.heap[y3.heap.size]? = some (.cells #[.int .i64 gf.k, .int .i64 gf.fl, .int .i64 gf.st, .slice p gf.X.length cp, .int .i64 gf.pad, .int .u32 gf.code, .int .i64 gf.last, .int .i64 gf.inc, .int .i64 gf.dep, .bool gf.only, .int .i64 gf.wt, .slice q gf.Y.length cq] 36 (0, 0)) ∧ Fr (fun _ => False) y3 y4) := by rw [hy4]; exact ⟨heap_alloc_new y3 _, (Fr.refl _ _).alloc _⟩
          have HNW : Hid (∀ (j : Nat) u, (fcl (gf, p, cp, q, cq))[j]? = some u → y4.cell? ((⟨y3.heap.size, 0, none⟩ : Addr).add j) = some u) := fun j u hj => by
            rw [add_none, Nat.zero_add]; exact cell_of_heap B4.out.1 (by simpa [fcl] using hj)
          have T4 : Hid (AllS w 16384 B' X' o1 (min 12000 (2 * B'.length)) (.slice a2 n2 c2) ls2 (.slice ax2 nx2 cx2) xs2 y4) := T3.out.later B4.out.2
          have HBY : Hid (ls2.length + 1 ≤ maxLen ∧ ((ls2.length + 1) + (ls2.length + 1) / 4 + 192) * 128 ≤ 281474976710656) := by have := HN2.out; refine ⟨?_, ?_⟩; unfold maxLen; omega; omega
          go_wp2_with (first
            | (rw [← hy4]; refine wpList_append_wide2 rfl (.tmp 43) (.tmp 45) 47 rfl 36 fi0 (.agg #[.int .i64 0, .int .i64 0, .int .i64 0, .slice none 0 0, .int .i64 0, .int .u32 0, .int .i64 0, .int .i64 0, .int .i64 0, .bool false, .int .i64 0, .slice none 0 0]) 12 128 Try.underlying47 IF.out.1 IF.out.2.1 IF.out.2.2.1 IF.out.2.2.2 rfl (by omega) (.slice a2 n2 c2) ls2.length (frows ls2) (by go_simp) T4.out.fl ⟨y3.heap.size, 0, none⟩ 1 1 (fcl (gf, p, cp, q, cq)) (by go_simp) (by omega) rfl HNW.out (fcl_one _) HBY.out.1 HBY.out.2 ?_; intro a3 n3 c3 y5 N5 H5 F5 O5))
          have T5 : Hid (AllS w 16384 B' X' o1 (min 12000 (2 * B'.length)) (.slice a3 n3 c3) (ls2 ++ [(gf, p, cp, q, cq)]) (.slice ax2 nx2 cx2) xs2 y5) := T4.out.addF (P3.out.next (B4.out.2.mono (fun _ _ e => e.elim)) (fun _ _ h => h)) HNU.out H5.out F5.out (by rcases O5.out with e | e; exact .inl e; exact .inr ⟨_, e, Nat.le_refl _⟩)
          go_roundw
          case rel =>
            have h1 := HK.out.2.2.2.1
            have h2 : B'.length + 9 ≤ B2.length := HTL.out HF.out (.inl rfl)
            refine ⟨k + 1, B', X', o1, a3, n3, c3, ls2 ++ [(gf, p, cp, q, cq)], ax2, nx2, cx2, xs2, rfl, rfl, by go_num, by have := HK.out.1; rw [List.length_append]; show _ ≤ _ + 1 + _; omega, { T5.out with rd := T5.out.rd.mono (Nat.min_le_left _ _) }, fun h => (by rw [HDR.out.1, HF.out] at h; cases h), by rw [List.length_append]; show 9 * (_ + 1 + _) + _ + _ ≤ _; omega, ?_⟩
            rw [HK.out.2.2.2.2, HDR.out.2]
            simp
          case measure => simp [intOf]; omega
        case false =>
          cases fi
          case false =>
            have HUT : Hid (¬ told ((gf, false, ⟨false, fs, fcd⟩), B', X')) := mute_none
            have HDU : Hid (drainR 16384 B2 X2 = (([], []), B', X')) := drain_untold HK.out.2.2.1 HRR.out HUT.out
            have HZ : Hid (X'.is = true → X'.st = 0) := untold_st HK.out.2.2.1 HRR.out HUT.out
            have hle : B'.length ≤ B2.length := HLE.out
            go_wp2_with (fail)
            go_roundw
            case rel =>
              have h1 := HK.out.2.2.2.1
              refine ⟨i + 1, B', X', o1, a2, n2, c2, ls2, ax2, nx2, cx2, xs2, rfl, rfl, by go_num, by omega, { T3.out with rd := T3.out.rd.mono (by omega) }, HZ.out, by rw [HCS.out]; omega, ?_⟩
              rw [HCS.out, HK.out.2.2.2.2, HDU.out]
              simp
            case measure => simp [intOf]; omega
          case true =>
            cases hs : (fs == 0)
            case true =>
              have HUT : Hid (¬ told ((gf, false, ⟨true, fs, fcd⟩), B', X')) := mute_fault hs
              have HDU : Hid (drainR 16384 B2 X2 = (([], []), B', X')) := drain_untold HK.out.2.2.1 HRR.out HUT.out
              have HZ : Hid (X'.is = true → X'.st = 0) := untold_st HK.out.2.2.1 HRR.out HUT.out
              have hle : B'.length ≤ B2.length := HLE.out
              go_wp2_with (fail)
              go_roundw
              case rel =>
                have h1 := HK.out.2.2.2.1
                refine ⟨i + 1, B', X', o1, a2, n2, c2, ls2, ax2, nx2, cx2, xs2, rfl, rfl, by go_num, by omega, { T3.out with rd := T3.out.rd.mono (by omega) }, HZ.out, by rw [HCS.out]; omega, ?_⟩
                rw [HCS.out, HK.out.2.2.2.2, HDU.out]
                simp
              case measure => simp [intOf]; omega
            case false =>
              have hfs : ¬ fs = 0 := by simpa using hs
              have HF : Hid (X2.is = false) := told_frame_not_failed HK.out.2.2.1 HRR.out (.inr ⟨rfl, hfs⟩)
              have hdr := drain_told_fault (bad := ⟨true, fs, fcd⟩) HF.out ⟨rfl, hfs⟩ HRR.out
              have HDR : Hid (X' = X2 ∧ drainR 16384 B2 X2 = (((drainR 16384 B' X').1.1, ⟨true, fs, fcd⟩ :: (drainR 16384 B' X').1.2), (drainR 16384 B' X').2)) := hdr
              have HTD : Hid (told ((gf, false, ⟨true, fs, fcd⟩), B', X')) := .inr ⟨rfl, hfs⟩
              clear hdr hfs
              obtain ⟨y4, hy4⟩ : ∃ y4, y4 = y3.alloc (.cells #[.bool true, .int .i64 fs, .int .i64 fcd] 38) := ⟨_, rfl⟩
              have B4 : Hid (y4.heap[y3.heap.size]? = some (.cells #[.bool true, .int .i64 fs, .int .i64 fcd] 38 (0, 0)) ∧ Fr (fun _ => False) y3 y4) := by rw [hy4]; exact ⟨heap_alloc_new y3 _, (Fr.refl _ _).alloc _⟩
              have HNW : Hid (∀ (j : Nat) u, (xcl ⟨true, fs, fcd⟩)[j]? = some u → y4.cell? ((⟨y3.heap.size, 0, none⟩ : Addr).add j) = some u) := fun j u hj => by
                rw [add_none, Nat.zero_add]; exact cell_of_heap B4.out.1 (by simpa [xcl] using hj)
              have T4 : Hid (AllS w 16384 B' X' o1 (min 12000 (2 * B'.length)) (.slice a2 n2 c2) ls2 (.slice ax2 nx2 cx2) xs2 y4) := T3.out.later B4.out.2
              have HBY : Hid (xs2.length + 1 ≤ maxLen ∧ ((xs2.length + 1) + (xs2.length + 1) / 4 + 192) * 24 ≤ 281474976710656) := by have := HN2.out; refine ⟨?_, ?_⟩; unfold maxLen; omega; omega
              go_wp2_with (first
                | (rw [← hy4]; refine wpList_append_wide2 rfl (.tmp 54) (.tmp 56) 48 rfl 38 xi0 (.agg #[.bool false, .int .i64 0, .int .i64 0]) 3 24 Try.underlying48 IX.out.1 IX.out.2.1 IX.out.2.2.1 IX.out.2.2.2 rfl (by omega) (.slice ax2 nx2 cx2) xs2.length (xrows xs2) (by go_simp) T4.out.xl ⟨y3.heap.size, 0, none⟩ 1 1 (xcl ⟨true, fs, fcd⟩) (by go_simp) (by omega) rfl HNW.out (xcl_one _) HBY.out.1 HBY.out.2 ?_; intro a3 n3 c3 y5 N5 H5 F5 O5))
              have T5 : Hid (AllS w 16384 B' X' o1 (min 12000 (2 * B'.length)) (.slice a2 n2 c2) ls2 (.slice a3 n3 c3) (xs2 ++ [⟨true, fs, fcd⟩]) y5) := T4.out.addX H5.out F5.out (by rcases O5.out with e | e; exact .inl e; exact .inr ⟨_, e, Nat.le_refl _⟩)
              go_roundw
              case rel =>
                have h1 := HK.out.2.2.2.1
                have h2 : B'.length + 9 ≤ B2.length := HTL.out HF.out HTD.out
                refine ⟨k + 1, B', X', o1, a2, n2, c2, ls2, a3, n3, c3, xs2 ++ [⟨true, fs, fcd⟩], rfl, rfl, by go_num, by have := HK.out.1; rw [List.length_append]; show _ ≤ _ + (_ + 1); omega, { T5.out with rd := T5.out.rd.mono (Nat.min_le_left _ _) }, fun h => (by rw [HDR.out.1, HF.out] at h; cases h), by rw [List.length_append]; show 9 * (_ + (_ + 1)) + _ + _ ≤ _; omega, ?_⟩
                rw [HK.out.2.2.2.2, HDR.out.2]
                simp
              case measure => simp [intOf]; omega
end Go.Proofs.Ytikaefjhmgcidaa
