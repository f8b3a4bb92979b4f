/- All entries of a table, told one behind the other. -/
import Derived.Test.YtkipeifkfgbkeaaX2
import Derived.Test.YtkipeifkfgbkeaaX1
import Derived.Shelf.RegionOpen
namespace Go.Proofs.Ytkipeifkfgbkeaa
open Go.RowKit Go.Shelf Go.BigFrame
set_option maxRecDepth 100000
set_option maxHeartbeats 8000000
set_option linter.unusedVariables false
attribute [local go_sem] Oper.semAt_some

/-- The entry with index k + 1, the newest of the table's own first. -/
def entAt (E : List (ByteArray × ByteArray)) (k : Nat) : ByteArray × ByteArray := if k < 61 then (sName k, sValue k) else E.getD (E.length - 1 - (k - 61)) (⟨#[]⟩, ⟨#[]⟩)
def allEnc (E : List (ByteArray × ByteArray)) (k : Nat) : Array Value := #[.int .i64 ((k : Int) + 1), .agg #[.string (entAt E k).1, .string (entAt E k).2, .bool false]]
theorem allEnc_stat {E : List (ByteArray × ByteArray)} {k : Nat} (hk : k < 61) : allEnc E k = statEnc k := by simp [allEnc, entAt, statEnc, hk]
theorem Fr.of_belowN {n₀ : Nat} {w w' : World} (h : Below n₀ w w') : Fr (fun k => n₀ ≤ k) w w' := ⟨h.os, h.tape, h.output, h.size, fun k hk hs => h.block k (by omega)⟩
theorem OwnFrom.later {β : Type} {B B' : Nat} {J : β → World → Prop} (h : OwnFrom B J) (hB : B ≤ B') : OwnFrom B' J := fun s X Y row hs hg hr => h s X Y row hs hg (fun r e => ⟨Nat.le_trans hB (hr r e).1, (hr r e).2⟩)

theorem wrap_lo {x : Int} (h0 : 0 ≤ x) (h : x ≤ 100000) : wrap64 x = x := by unfold wrap64; omega
theorem kind_lo {x : Int} (h0 : 0 ≤ x) (h : x ≤ 100000) : IntKind.i64.wrap x = x := by rw [IntWalk.i64_left]; exact wrap_lo h0 h
structure AgeFacts (L a j : Nat) : Prop where
  d1 : (a : Int) ≤ (L : Int)
  d2 : (L : Int) - (a : Int) = (j : Int)
  d2u : wrap64 (j : Int) = (j : Int)
  d2w : wrap64 ((L : Int) - (a : Int)) = (j : Int)
  d2v : IntKind.i64.wrap ((L : Int) - (a : Int)) = (j : Int)
  d3w : wrap64 (61 + (a : Int)) = 61 + (a : Int)
  d3v : IntKind.i64.wrap (61 + (a : Int)) = 61 + (a : Int)
  d4 : j < L
  d5 : (j : Int) < (L : Int)
theorem age_facts {L a j : Nat} (ha1 : 1 ≤ a) (ha : a ≤ L) (hL : L ≤ 2048) (hj : L - a = j) : AgeFacts L a j := by
  have d2 : (L : Int) - (a : Int) = (j : Int) := by omega
  exact ⟨by omega, d2, wrap_lo (by omega) (by omega), by rw [d2]; exact wrap_lo (by omega) (by omega), by rw [d2]; exact kind_lo (by omega) (by omega), wrap_lo (by omega) (by omega), kind_lo (by omega) (by omega), by omega, by omega⟩
theorem age_end {s d L a e : Nat} (hD : s ≤ d) (hs : s = e + 1) (haL : a ≤ L) : s ≤ d ∧ e + 1 = s ∧ 60 + (a + 1) ≤ 61 + L ∧ a + 1 ≤ L + 1 := by omega
theorem age_low {s d e : Nat} (h : s ≤ d) (h2 : e + 1 = s) : e ≤ d := by omega
theorem age_last {a L : Nat} (h : a ≤ L) : 60 + (a + 1) ≤ 61 + L := by omega
theorem age_next {a L : Nat} {Z : Nat → Prop} (hz : Z (60 + (a + 1))) (h : a ≤ L) (hL : L ≤ 2048) : (∃ b : Nat, Value.int .i64 (wrap64 ((a : Int) + 1)) = .int .i64 (b : Int) ∧ 1 ≤ b ∧ b ≤ L + 1 ∧ Z (60 + b)) ∧
    L + 1 - (intOf (Value.int .i64 (wrap64 ((a : Int) + 1)))).toNat < L + 1 - (intOf (Value.int .i64 (a : Int))).toNat := by
  have e : wrap64 ((a : Int) + 1) = ((a + 1 : Nat) : Int) := by unfold wrap64; omega
  rw [e]
  exact ⟨⟨a + 1, rfl, by omega, by omega, hz⟩, by simp only [intOf]; omega⟩
theorem Below.of_drewN {n₀ n : Nat} {W W' : World} (h : Below n₀ (W.drewN n) W') : Below n₀ W W' := ⟨h.os, h.tape, h.output, h.size, h.block⟩
theorem mixed : Try.prog.follows .mixedOrders = true := by kernel_rfl
theorem all_tells (t m : Nat) (v : Value) (E : List (ByteArray × ByteArray)) (n₀ : Nat) (w0 : World) (h : TabIs w0 t v m E) (hn0 : n₀ ≤ w0.heap.size) (ht : ∀ k, (k = t ∨ v.ownBlock = some k) → k < n₀) (hL : E.length ≤ 2048) :
    Tells2 Try.prog 41 #[.pointer (some ⟨t, 0, none⟩)] #[] (61 + E.length) (allEnc E) n₀ w0 := by
  intro l J Jx W hW hJ hJx hY h0
  show CallsIn Fence.wide 0 Try.prog 41 #[.pointer (some ⟨t, 0, none⟩), .func (.yield l) #[] #[]] W _
  have hnW : n₀ ≤ W.heap.size := Nat.le_trans hn0 hW.size
  have HTW : Hid (∀ W', Below n₀ W W' → TabIs W' t v m E) := fun W' b => by
    refine h.kept (Fr.of_belowN ((hW.mono hn0).trans b)) (fun k hk => ?_)
    have := ht k hk
    omega
  refine callsIn_of_wp_marks Try.func41 rfl trivial ?_ rfl
  simp only [Try.ntmps41, List.size_toArray, List.length_cons, List.length_nil, Nat.reduceAdd, Nat.reduceSub, Array.replicate_succ, Array.replicate_zero, List.push_toArray, List.append_toArray, List.nil_append, List.cons_append]
  gi_wp2
  have g3 : (W.alloc (.cells #[.func (.yield l) #[] #[]] 84)).heap[W.heap.size]? = some (.cells #[.func (.yield l) #[] #[]] 84) := heap_alloc_new _ _
  have hb1 : Below n₀ W (W.alloc (.cells #[.func (.yield l) #[] #[]] 84)) := (Below.refl _ W).alloc hnW _
  have hsz : (W.alloc (.cells #[.func (.yield l) #[] #[]] 84)).heap.size = W.heap.size + 1 := by simp
  have hJ1 : J 0 (W.alloc (.cells #[.func (.yield l) #[] #[]] 84)) := hJ.alloc _ h0
  generalize W.alloc (.cells #[.func (.yield l) #[] #[]] 84) = W1 at g3 hb1 hsz hJ1 ⊢
  refine range_law2 (gf := 47) (fs := #[]) (lb := #[]) rfl (enters_of Try.func47 (by kernel_rfl) rfl) (static_tells2 n₀ W1) (by omega) (Below.refl _ _) (fun _ => rfl)
    (fun k W' => (J k W' ∧ W'.heap[W.heap.size]? = some (.cells #[.func (.yield l) #[] #[]] 84)) ∧ Below n₀ W1 W')
    (fun c k W' => c = .ret ∧ Jx k W')
    (OwnFrom.and (OwnFrom.and (OwnFrom.later hJ (by omega)) (own_cells _ _ _ (fun _ => rfl))) (ownFrom_below (by omega) (by omega)))
    (fun c => OwnFrom.and (ownFrom_pure _ _) (OwnFrom.later hJx (by omega)))
    ⟨⟨hJ1, g3⟩, Below.refl _ _⟩
    (fun k a' W' => ∃ Bx, (W1.heap.size ≤ Bx ∧ W'.heap[Bx]? = some (.cells #[.string (sName k), .string (sValue k), .bool false] 59)) ∧ a' = { tmps := #[.pointer (some ⟨t, 0, none⟩), .func (.yield l) #[] #[], undef, .pointer (some ⟨W.heap.size, 0, none⟩), .int .i64 ((k : Int) + 1), .pointer (some ⟨Bx, 0, none⟩), undef, .int .i64 ((k : Int) + 1), .agg #[.string (sName k), .string (sValue k), .bool false], undef, undef, undef, undef, undef, undef, undef, undef, undef, undef, undef, undef, undef, undef, undef, undef, undef, undef, undef, undef, undef, undef, undef, undef, undef, undef, undef, undef, undef, undef, undef, undef], defers := [] })
    (fun k a' _ X Y row hs hg hr => by
      obtain ⟨Bx, ⟨e1, e2⟩, e3⟩ := hs
      exact ⟨Bx, ⟨e1, own_cells (β := Unit) W1.heap.size Bx (fun _ => .cells #[.string (sName k), .string (sValue k), .bool false] 59) (fun _ => rfl) () X Y row e2 hg hr⟩, e3⟩)
    ?assign ?body ?done ?stop
  case assign =>
    rintro l1 k W2 K hk ⟨⟨hj, f3⟩, hB⟩ hK
    dsimp only [statEnc]
    gi_wp2
    exact hK _ _ (AllFrom.alloc _ _ _) ((Below.refl _ W2).alloc (by have := hB.size; omega) _) ⟨⟨hJ.alloc _ hj, heap_of_alloc f3 _⟩, hB.alloc (by have := hB.size; omega) _⟩ ⟨W2.heap.size, ⟨hB.size, heap_alloc_new W2 _⟩, rfl⟩
  case body =>
    rintro l1 k a' W2 hl1 hk ⟨⟨hj, f3⟩, hB⟩ ⟨Bx, ⟨hBx, fx⟩, rfl⟩
    have q3 : W2.cell? ⟨W.heap.size, 0, none⟩ = some (.func (.yield l) #[] #[]) := cell_of_heap f3 rfl
    have qx0 : W2.cell? ⟨Bx, 0, none⟩ = some (.string (sName k)) := cell_of_heap fx rfl
    have qx1 : W2.cell? ⟨Bx, 1, none⟩ = some (.string (sValue k)) := cell_of_heap fx rfl
    have qx2 : W2.cell? ⟨Bx, 2, none⟩ = some (.bool false) := cell_of_heap fx rfl
    obtain ⟨fn, tmps, assign, body, hy, hRd⟩ := hY k W2 hj (by omega)
    rw [allEnc_stat hk] at hy
    dsimp only [statEnc] at hy
    gi_wp2
    have hRd2 : RoundIn (Fence.wide.inRound l1) 0 Try.prog l fn tmps assign body W2 _ := hRd
    refine ⟨rfl, hRd2.mono ?_⟩
    rintro e W3 (⟨rfl, hJ3, hk3⟩ | ⟨rfl, hJx3, ha3⟩)
    · gi_wp2
      exact ⟨hk3.all.mono (by omega), hk3.below, ⟨hJ3, hk3.all.same _ _ (Nat.le_refl _) f3⟩, hB.trans hk3.below⟩
    · gi_wp2
      exact ⟨ha3.mono (by omega), rfl, hJx3⟩
  case done =>
    rintro D W2 hD ⟨⟨hj, f3⟩, hB⟩ hK
    gi_wp2
    gi_loopw [6] (fun x6 wr => ∃ a : Nat, x6 = .int .i64 (a : Int) ∧ 1 ≤ a ∧ a ≤ E.length + 1 ∧ J (60 + a) wr ∧ wr.heap[W.heap.size]? = some (.cells #[.func (.yield l) #[] #[]] 84) ∧ Below n₀ W1 wr ∧ wr.heap[D]? = some (.deferred (some [])))
      (fun x6 wr => E.length + 1 - (intOf x6).toNat)
    case atStart => exact ⟨1, rfl, by omega, by omega, hj, f3, hB, hK⟩
    case round =>
      obtain ⟨a, rfl, ha1, ha, hja, fa, hBa, hKa⟩ := hrel
      have hTab := HTW.out wr (hb1.trans hBa)
      have q3 : wr.cell? ⟨W.heap.size, 0, none⟩ = some (.func (.yield l) #[] #[]) := cell_of_heap fa rfl
      by_cases haL : a ≤ E.length
      · rcases hTab.row.2 with ⟨rfl, hz⟩ | ⟨g, cap, cur, rfl, r1, r2, r3, r4, r5, r6⟩
        · omega
        · have c3 := hTab.at_.c3
          obtain ⟨e, he⟩ : ∃ e, E[E.length - a]? = some e := ⟨E[E.length - a]'(by omega), List.getElem?_eq_getElem _⟩
          obtain ⟨k0, k1, k2⟩ := row_cells (n := 0) (cap := 0) r2 r6 he
          have hent : entAt E (60 + a) = e := by
            simp only [entAt, show ¬ 60 + a < 61 by omega, if_false, show E.length - 1 - (60 + a - 61) = E.length - a by omega, List.getD_eq_getElem?_getD, he, Option.getD_some]
          have HR : Hid (∀ nq, ∃ fn tmps assign body, (Instr.yield l #[.int .i64 (61 + (a : Int)), .agg #[.string e.1, .string e.2, .bool false]]).run Try.prog (wr.drewN nq) = .ok (.round l fn tmps assign body) (wr.drewN nq) ∧
              RoundIn Fence.wide 0 Try.prog l fn tmps assign body (wr.drewN nq) fun ee W' => (ee = .returned (.bool true) ∧ (J (60 + (a + 1)) W' ∧ W'.heap[W.heap.size]? = some (.cells #[.func (.yield l) #[] #[]] 84) ∧ Below n₀ W1 W' ∧ W'.heap[D]? = some (.deferred (some [])))) ∨ (ee = .returned (.bool false) ∧ (Jx (60 + (a + 1)) W' ∧ W'.heap[D]? = some (.deferred (some []))))) := by
            intro nq
            have hjd : J (60 + a) (wr.drewN nq) := hJ (60 + a) wr (wr.drewN nq) none hja ⟨rfl, rfl, rfl, Nat.le_refl _, fun _ _ _ => rfl⟩ (fun r e => by cases e)
            obtain ⟨fn, tmps, assign, body, hy, hRd⟩ := hY (60 + a) (wr.drewN nq) hjd (by omega)
            simp only [allEnc, hent] at hy
            rw [show ((60 + a : Nat) : Int) + 1 = 61 + (a : Int) by omega] at hy
            refine ⟨fn, tmps, assign, body, hy, hRd.mono ?_⟩
            rintro ee W' (⟨rfl, z1, z2⟩ | ⟨rfl, z1, z2⟩)
            · exact .inl ⟨rfl, z1, z2.all.same _ _ (Nat.le_refl _) fa, hBa.trans (Below.of_drewN z2.below), z2.all.same _ _ (by omega) hKa⟩
            · exact .inr ⟨rfl, z1, z2.same _ _ (by omega) hKa⟩
          obtain ⟨L, hLe⟩ : ∃ L, E.length = L := ⟨_, rfl⟩
          rw [hLe] at k0 k1 k2 c3 haL hL
          obtain ⟨j, hj2⟩ : ∃ j, L - a = j := ⟨_, rfl⟩
          rw [hj2] at k0 k1 k2
          obtain ⟨d1, d2, d2u, d2w, d2v, d3w, d3v, d4, d5⟩ := age_facts ha1 haL hL hj2
          have HJx : Hid (OwnFrom W.heap.size Jx) := hJx
          have HD : Hid (W1.heap.size ≤ D ∧ W.heap.size + 1 = W1.heap.size ∧ 60 + (a + 1) ≤ 61 + L ∧ a + 1 ≤ L + 1) := age_end hD hsz haL
          have HE : Hid (a ≤ E.length ∧ E.length ≤ 2048) := ⟨hLe ▸ haL, hLe ▸ hL⟩
          clear hY hJ hJx h ht hW hnW hj f3 hB hK hja fa hBa hKa hTab r1 r2 r3 r4 r5 r6 he hent hLe hj2 hJ1 g3 hb1 hsz h0 HTW hD ha hL
          gi_wp2
          refine wpIn_region_cut 16 2 #[true, true, true, true, true, true, true, true, true, true, true, true, true, true, true, true, false, false] rfl mixed (by kernel_rfl) rfl rfl ?_
          simp only [List.take_succ_cons, List.take_zero]
          repeat (gi_big_quiet_step (fail))
          refine wpQuietIn_nil ?_
          rintro _ ⟨nq, rfl⟩ mm
          obtain ⟨fn, tmps, assign, body, hy, hRd⟩ := HR.out nq
          have hRd2 : Hid _ := hRd
          clear hRd
          refine wpAnyIn_ready (rs := [16]) (by kernel_rfl) (by simp) ?_
          refine AllReadyIn.cons rfl (fun K hK => ?_) AllReadyIn.nil
          go_simp
          refine ⟨?_, RoundIn.mono hRd2.out ?_⟩
          · rfl
          clear hy hRd2 HR
          rintro ee W3 (⟨rfl, hp⟩ | ⟨rfl, hp⟩)
          · have HP : Hid _ := hp
            clear hp
            refine hK _ _ ?_
            clear hK K
            refine wpAnyIn_ready (rs := [17]) (by kernel_rfl) (by simp) ?_
            refine AllReadyIn.cons rfl (fun K hK => ?_) AllReadyIn.nil
            go_simp
            refine hK _ _ ?_
            clear hK K
            refine wpAnyIn_done (by kernel_rfl) ?_ _
            gi_wp2
            exact age_next (Z := fun b => J b W3 ∧ W3.heap[W.heap.size]? = some (.cells #[.func (.yield l) #[] #[]] 84) ∧ Below n₀ W1 W3 ∧ W3.heap[D]? = some (.deferred (some []))) HP.out HE.out.1 HE.out.2
          · have HP : Hid _ := hp
            clear hp
            refine hK _ _ ?_
            clear hK K
            refine wpAnyIn_ready (rs := [17]) (by kernel_rfl) (by simp) ?_
            refine AllReadyIn.cons rfl (fun K hK => ?_) AllReadyIn.nil
            go_simp
            refine hK _ _ ?_
            clear hK K
            refine wpAnyIn_done (by kernel_rfl) ?_ _
            gi_wp2
            refine ⟨by simp, .inl ⟨_, _, rfl, run_takeDeferred HP.out.2, ?_⟩⟩
            exact ⟨_, results_none rfl _ _ _, ⟨_, rfl⟩, .inr ⟨60 + (a + 1), age_last HE.out.1, HJx.out.putObj _ HP.out.1 (age_low HD.out.1 HD.out.2.1) HP.out.2 rfl⟩⟩
      · obtain rfl : a = E.length + 1 := by omega
        obtain ⟨q, cap, rfl⟩ := hTab.form
        have c3 := hTab.at_.c3
        have d1 : ¬ (((E.length + 1 : Nat) : Int) ≤ (E.length : Int)) := by omega
        rw [show 60 + (E.length + 1) = 61 + E.length by omega] at hja
        gi_wp2
        refine ⟨by simp, .inl ⟨_, _, rfl, run_takeDeferred hKa, ?_⟩⟩
        exact ⟨_, results_none rfl _ _ _, ⟨_, rfl⟩, .inl (hJ.putObj _ hja (by omega) hKa rfl)⟩
  case stop =>
    rintro D c k W2 hD hk ⟨rfl, hj⟩ hK
    gi_wp2
    refine ⟨by simp, .inl ⟨_, _, rfl, run_takeDeferred hK, ?_⟩⟩
    exact ⟨_, results_none rfl _ _ _, ⟨_, rfl⟩, .inr ⟨k, by omega, hJx.putObj _ hj (by omega) hK rfl⟩⟩
end Go.Proofs.Ytkipeifkfgbkeaa
