/- The program's lines of a script. -/
import Derived.Test.YtfehmlopndklcaaDoorMScbc
namespace Go.Proofs.YtfehmlopndklcaaDoor
open Go.RowKit
set_option maxRecDepth 100000
set_option maxHeartbeats 16000000
set_option linter.unusedVariables false
attribute [local go_sem] Oper.semAt_some

theorem skip_of {p : List UInt8} (h : p = []) : isSkip p = true := by subst h; rfl
theorem skip_hash {p : List UInt8} (h : p.head? = some 35) : isSkip p = true := by unfold isSkip; rw [h]; simp
theorem skip_not {p : List UInt8} (h : ¬ p = []) (h2 : ¬ p.head? = some 35) : ¬ isSkip p = true := by
  unfold isSkip
  simp [h, h2]
theorem readScript_in (s : ByteArray) (w : World) : Calls Tryd.prog 19 #[.string s] w (RSAs s w) := by
  by_cases hs : 65536 < s.size
  · have hsi : (65536 : Int) < (s.size : Int) := by omega
    have HS : Hid (65536 < s.size) := hs
    clear hs
    go_enter Tryd.func19, Tryd.ntmps19
    go_wp2
    refine bodyPost_ret (v := .tuple #[.slice none 0 0, errAt 0 2]) (by simp [errAt, results, Tryd.results19, go_sem]) rfl ?_
    exact ⟨((Fr.refl _ _).alloc _).alloc _, .inl ⟨HS.out, _, .inl rfl, rfl⟩⟩
  · have hsi : ¬ (65536 : Int) < (s.size : Int) := by omega
    have HS : Hid (s.size ≤ 65536) := by show _ ≤ _; omega
    have HT := pieces_tells (w.heap.size + 4) (w.heap.size + 5) s 10 (by decide) (by omega)
    clear hs
    refine (callsIn_wide (n := 0)).1 ?_
    refine callsIn_of_wp_marks Tryd.func19 rfl trivial ?_ rfl
    simp only [Tryd.ntmps19, List.size_toArray, List.length_cons, List.length_nil, Nat.reduceAdd, Nat.reduceSub, Array.replicate_succ, Array.replicate_zero, List.push_toArray, List.append_toArray, List.nil_append, List.cons_append]
    gi_wp2
    refine ⟨trivial, rfl, (callsIn_wide.2 (pieces_in s 10 _)).mono ?_⟩
    rintro e W0 ⟨rfl, hW0⟩
    have H0 : Hid (SI s w 0 W0) := by
      subst hW0
      refine ⟨.slice none 0 0, [], ⟨?_, ?_, ?_, ?_, ?_, ?_, .nil _, fun j hj => (by simp [Value.ownBlock] at hj), rfl, by simp, ((((((Fr.refl _ _).alloc _).alloc _).alloc _).alloc _).alloc _).alloc _⟩⟩
      · exact past_at _ (past_at _ (past_at _ (last_at _ (by simp))))
      · exact past_at _ (past_at _ (last_at _ (by simp)))
      · exact past_at _ (past_at _ (past_at _ (past_at _ (past_at _ (last_at _ rfl)))))
      · exact past_at _ (past_at _ (past_at _ (past_at _ (last_at _ (by simp)))))
      · exact past_at _ (last_at _ (by simp))
      · exact last_at _ (by simp)
    have hsz : w.heap.size + 6 = W0.heap.size := by rw [← hW0]; simp
    have HSZ : Hid (w.heap.size + 6 = W0.heap.size) := hsz
    simp only [World.size_alloc]
    clear hW0 hsz
    gi_wp2
    refine range_law4 (gf := 33) (fs := #[]) (lb := #[.pointer (some ⟨w.heap.size + 4, 0, none⟩), .pointer (some ⟨w.heap.size + 5, 0, none⟩)]) rfl (enters_of Tryd.func33 (by kernel_rfl) rfl) HT (fun k args W h => by obtain ⟨p, -, rfl⟩ := h; rfl)
      (fun k W => SI s w k W) (fun c _ W => c = .ret ∧ SX s w W) (SI.own s w (by have := HSZ.out; omega)) (fun c => SX.own s w c (by have := HSZ.out; omega)) (fun k W h => by obtain ⟨v, E, h⟩ := h; exact ⟨⟨_, h.b0⟩, ⟨_, h.b1⟩⟩) H0.out
      (fun k a' W => ∃ p, (cuts 10 (tx s))[k]? = some p ∧ a' = { tmps := #[.string s, undef, .pointer (some ⟨w.heap.size, 0, none⟩), .pointer (some ⟨w.heap.size + 1, 0, none⟩), .pointer (some ⟨w.heap.size + 1 + 1, 0, none⟩), .pointer (some ⟨w.heap.size + 1 + 1 + 1, 0, none⟩), undef, .string ⟨p.toArray⟩, undef, undef, .string s, .int .i64 (s.size : Int), .bool false, undef, undef, undef, .string s, .func (.func 33) #[] #[.pointer (some ⟨w.heap.size + 4, 0, none⟩), .pointer (some ⟨w.heap.size + 5, 0, none⟩)], .int .i64 (cutAt (cuts 10 (tx s)) k : Int), .string ⟨p.toArray⟩, undef, undef, undef, undef, undef, undef, undef, undef, undef, undef, undef, undef, undef, undef, undef, undef, undef, undef, undef, undef, undef, undef, undef, undef, undef, undef, undef, undef, undef, undef, undef, undef], defers := [] })
      (fun k a' _ X Y row hs hg hr => hs) ?assign ?body ?done ?stop
    case assign =>
      rintro ll k W args K hk hI ⟨p, hp, rfl⟩ hK
      gi_wp2
      exact hK _ _ (KeepsFrom.refl _ _) hI ⟨p, hp, rfl⟩
    case body =>
      rintro ll k a' W hl hk hI ⟨p, hp, rfl⟩
      obtain ⟨v, E, hJ⟩ := hI
      have HJ : Hid (SJ s w k k v E W) := hJ
      have HP : Hid ((cuts 10 (tx s))[k]? = some p) := hp
      obtain ⟨u, hu⟩ : ∃ u : ByteArray, (⟨p.toArray⟩ : ByteArray) = u := ⟨_, rfl⟩
      have HU : Hid (tx u = p) := by show _ = _; rw [← hu]; exact tx_mk p
      have hus : u.size ≤ 65536 := by
        have h1 := cuts_len 10 (tx s) p (List.mem_of_getElem? hp)
        rw [← HU.out, tx_len, tx_len] at h1
        have := HS.out
        omega
      have HUS : Hid (u.size ≤ 65536) := hus
      have hkl : (k : Int) < 70000 := by
        have h1 := cuts_count 10 (tx s)
        rw [tx_len] at h1
        have := HS.out
        omega
      have hk0 : (0 : Int) ≤ (k : Int) := by omega
      have c3 : W.cell? ⟨w.heap.size + 1 + 1 + 1, 0, none⟩ = some (.int .i64 (k : Int)) := cell_of_heap hJ.cnt rfl
      have z3 : W.frozen? ⟨w.heap.size + 1 + 1 + 1, 0, none⟩ = false := frozen_of_heap hJ.cnt
      obtain ⟨pat, hpat⟩ : ∃ pat, cutAt (cuts 10 (tx s)) k = pat := ⟨_, rfl⟩
      obtain ⟨W1, hW1⟩ : ∃ W1, W.setCell ⟨w.heap.size + 1 + 1 + 1, 0, none⟩ (.int .i64 ((k : Int) + 1)) = W1 := ⟨_, rfl⟩
      have HN1 : Hid (SJ s w k (k + 1) v E W1) := by show SJ _ _ _ _ _ _ _; rw [← hW1]; exact hJ.count
      have HK1 : Hid (KeepsFrom W0.heap.size W W1) := by
        show KeepsFrom _ _ _
        rw [← hW1]
        exact keeps4 ((Fr.refl _ _).setB _ _) (fun j o e ho => by
          have e' : j = w.heap.size + 3 := e
          subst e'
          rw [HJ.out.cnt] at ho
          cases ho
          rfl)
      rw [hu]
      clear hp hu hus hpat hk hl H0 HT hJ
      by_cases h0 : u.size = 0
      · have he : u = ⟨#[]⟩ := by
          refine tx_ext ?_
          have := tx_len u
          rw [h0] at this
          rw [List.eq_nil_of_length_eq_zero this]
          rfl
        have HN : Hid (SI s w (k + 1) W1) := ⟨v, E, HN1.out.skip HP.out (skip_of (by rw [← HU.out, he]; rfl))⟩
        subst he
        clear HU h0 HUS
        gi_wp2
        refine ⟨trivial, ?_⟩
        gi_wp2
        exact ⟨HK1.out, HN.out⟩
      · have h0' : 0 < u.size := by omega
        have hnn : ¬ tx u = [] := fun e => by
          have := tx_len u
          rw [e] at this
          simp at this
          omega
        have HNN : Hid (¬ p = []) := by show ¬ _; rw [← HU.out]; exact hnn
        have hne : (u.toList == []) = false := by
          rw [tx_toList]
          cases hx : tx u with
          | nil => exact absurd hx hnn
          | cons a r => rfl
        have hne2 : u.toList.isEmpty = false := by
          rw [tx_toList]
          cases hx : tx u with
          | nil => exact absurd hx hnn
          | cons a r => rfl
        have KP := hasP_in u W1
        clear hnn h0 h0'
        by_cases h35 : (tx u).head? = some 35
        · rw [decide_eq_true h35] at KP
          have HN : Hid (SI s w (k + 1) W1) := ⟨v, E, HN1.out.skip HP.out (skip_hash (by rw [← HU.out]; exact h35))⟩
          clear h35
          gi_wp2
          refine ⟨trivial, rfl, (callsIn_wide.2 KP).mono ?_⟩
          clear KP
          rintro e w' ⟨rfl, rfl⟩
          gi_wp2
          exact ⟨HK1.out, HN.out⟩
        · rw [decide_eq_false h35] at KP
          have HSK : Hid (¬ isSkip p = true) := skip_not HNN.out (by rw [← HU.out]; exact h35)
          have KL := readLine_in u W1
          clear h35
          gi_wp2
          refine ⟨trivial, rfl, (callsIn_wide.2 KP).mono ?_⟩
          clear KP
          rintro e w' ⟨rfl, rfl⟩
          gi_wp2
          refine ⟨trivial, rfl, (callsIn_wide.2 KL).mono ?_⟩
          clear KL
          rintro e W2 ⟨hf2, h2⟩
          rcases h2 with ⟨hbad, -⟩ | ⟨-, ⟨q, hq, rfl⟩ | ⟨x, vv, hq, rfl, hb⟩⟩
          · exact absurd hbad (by have := HUS.out; omega)
          · have HJ2 : Hid (SJ s w k (k + 1) v E W2) := HN1.out.old hf2
            have HX2 : Hid (scriptO (tx s) = .inr (k + 1, 4)) := HJ2.out.bad HP.out HSK.out (by rw [← HU.out]; exact hq)
            have HK2 : Hid (KeepsFrom W0.heap.size W W2) := HK1.out.trans (keeps4 hf2 (fun _ _ e _ => e.elim))
            clear hf2 hq HN1 HK1
            unfold zeroIn errAt
            obtain ⟨W3, hW3⟩ : ∃ W3, W2.alloc (.cells #[.int .i64 0, .int .i64 0, .int .i64 0, .int .i64 0, .slice none 0 0] 24) = W3 := ⟨_, rfl⟩
            have hf3 : Fr (fun _ => False) W2 W3 := by rw [← hW3]; exact (Fr.refl _ _).alloc _
            have HJ3 : Hid (SJ s w k (k + 1) v E W3) := HJ2.out.old hf3
            have HK3 : Hid (KeepsFrom W0.heap.size W W3) := HK2.out.trans (keeps4 hf3 (fun _ _ e _ => e.elim))
            have c0 : W3.cell? ⟨w.heap.size, 0, none⟩ = some (.slice none 0 0) := cell_of_heap HJ3.out.r0 rfl
            have c1 : W3.cell? ⟨w.heap.size + 1, 0, none⟩ = some .nilIface := cell_of_heap HJ3.out.r1 rfl
            have c3 : W3.cell? ⟨w.heap.size + 1 + 1 + 1, 0, none⟩ = some (.int .i64 ((k : Int) + 1)) := cell_of_heap HJ3.out.cnt rfl
            have z0 : W3.frozen? ⟨w.heap.size, 0, none⟩ = false := frozen_of_heap HJ3.out.r0
            have z1 : W3.frozen? ⟨w.heap.size + 1, 0, none⟩ = false := frozen_of_heap HJ3.out.r1
            have HT5 := HJ3.out.told HX2.out (u := .iface 61 (.agg #[.int .i64 ((k : Int) + 1), .iface 61 (.agg #[.int .i64 (q : Int), .iface 25 (.int .i64 4)])])) (.inr ⟨_, rfl⟩) (B0 := W0.heap.size)
            have HX5 : Hid (SX s w (((W3.setCell ⟨w.heap.size, 0, none⟩ (.slice none 0 0)).setCell ⟨w.heap.size + 1, 0, none⟩ (.iface 61 (.agg #[.int .i64 ((k : Int) + 1), .iface 61 (.agg #[.int .i64 (q : Int), .iface 25 (.int .i64 4)])]))).drew)) := HT5.1.drew
            have HK5 : Hid (KeepsFrom W0.heap.size W (((W3.setCell ⟨w.heap.size, 0, none⟩ (.slice none 0 0)).setCell ⟨w.heap.size + 1, 0, none⟩ (.iface 61 (.agg #[.int .i64 ((k : Int) + 1), .iface 61 (.agg #[.int .i64 (q : Int), .iface 25 (.int .i64 4)])]))).drew)) := KeepsFrom.drew4 (HK3.out.trans HT5.2)
            clear hf3 HT5
            subst hW3
            gi_wp2
            gi_region
            all_goals
              gi_wp2
              exact ⟨HK5.out, rfl, HX5.out⟩
          · have HJ2 : Hid (SJ s w k (k + 1) v E W2) := HN1.out.old hf2
            have HK2 : Hid (KeepsFrom W0.heap.size W W2) := HK1.out.trans (keeps4 hf2 (fun _ _ e _ => e.elim))
            obtain ⟨qb, cb, rfl, -⟩ := id hb
            obtain ⟨qv, cv, hv⟩ := HJ2.out.evs.form
            obtain ⟨el, hel⟩ : ∃ el, E.length = el := ⟨_, rfl⟩
            rw [hel] at hv
            subst hv
            have HEL : Hid (E.length = el) := hel
            clear hel
            have HQ : Hid (lineO p = .inl x) := by show _ = _; rw [← HU.out]; exact hq
            have HB : Hid (BAt W2 (.slice qb x.dat.length cb) x.dat) := hb
            clear hf2 hq HN1 HK1 hb
            unfold inV
            obtain ⟨W3, hW3⟩ : ∃ W3, W2.alloc (.cells #[.int .i64 x.what, .int .i64 x.a, .int .i64 x.b, .int .i64 x.d, .slice qb x.dat.length cb] 24) = W3 := ⟨_, rfl⟩
            have hf3 : Fr (fun _ => False) W2 W3 := by rw [← hW3]; exact (Fr.refl _ _).alloc _
            have HJ3 : Hid (SJ s w k (k + 1) (.slice qv el cv) E W3) := HJ2.out.old hf3
            have HB3 : Hid (BAt W3 (.slice qb x.dat.length cb) x.dat) := HB.out.old hf3
            have HK3 : Hid (KeepsFrom W0.heap.size W W3) := HK2.out.trans (keeps4 hf3 (fun _ _ e _ => e.elim))
            have g0 : W3.heap[W2.heap.size]? = some (.cells #[.int .i64 x.what, .int .i64 x.a, .int .i64 x.b, .int .i64 x.d, .slice qb x.dat.length cb] 24 (0, 0)) := by rw [← hW3]; exact heap_last _ _ rfl
            have e0 : W3.cell? ⟨W2.heap.size, 0, none⟩ = some (.int .i64 x.what) := cell_of_heap g0 rfl
            have e1 : W3.cell? ⟨W2.heap.size, 1, none⟩ = some (.int .i64 x.a) := cell_of_heap g0 rfl
            have e2 : W3.cell? ⟨W2.heap.size, 2, none⟩ = some (.int .i64 x.b) := cell_of_heap g0 rfl
            have e3 : W3.cell? ⟨W2.heap.size, 3, none⟩ = some (.int .i64 x.d) := cell_of_heap g0 rfl
            have e4 : W3.cell? ⟨W2.heap.size, 4, none⟩ = some (.slice qb x.dat.length cb) := cell_of_heap g0 rfl
            have c2 : W3.cell? ⟨w.heap.size + 1 + 1, 0, none⟩ = some (.slice qv el cv) := cell_of_heap HJ3.out.box rfl
            by_cases hE : el = 4096
            · have HX2 : Hid (scriptO (tx s) = .inr (k + 1, 2)) := HJ2.out.full HP.out HSK.out HQ.out (by rw [HEL.out]; exact hE)
              rw [hE] at c2
              have c0 : W3.cell? ⟨w.heap.size, 0, none⟩ = some (.slice none 0 0) := cell_of_heap HJ3.out.r0 rfl
              have c1 : W3.cell? ⟨w.heap.size + 1, 0, none⟩ = some .nilIface := cell_of_heap HJ3.out.r1 rfl
              have c3 : W3.cell? ⟨w.heap.size + 1 + 1 + 1, 0, none⟩ = some (.int .i64 ((k : Int) + 1)) := cell_of_heap HJ3.out.cnt rfl
              have z0 : W3.frozen? ⟨w.heap.size, 0, none⟩ = false := frozen_of_heap HJ3.out.r0
              have z1 : W3.frozen? ⟨w.heap.size + 1, 0, none⟩ = false := frozen_of_heap HJ3.out.r1
              have HT5 := HJ3.out.told HX2.out (u := .iface 61 (.agg #[.int .i64 ((k : Int) + 1), .iface 25 (.int .i64 2)])) (.inl rfl) (B0 := W0.heap.size)
              have HX5 : Hid (SX s w (((W3.setCell ⟨w.heap.size, 0, none⟩ (.slice none 0 0)).setCell ⟨w.heap.size + 1, 0, none⟩ (.iface 61 (.agg #[.int .i64 ((k : Int) + 1), .iface 25 (.int .i64 2)]))).drew)) := HT5.1.drew
              have HK5 : Hid (KeepsFrom W0.heap.size W (((W3.setCell ⟨w.heap.size, 0, none⟩ (.slice none 0 0)).setCell ⟨w.heap.size + 1, 0, none⟩ (.iface 61 (.agg #[.int .i64 ((k : Int) + 1), .iface 25 (.int .i64 2)]))).drew)) := KeepsFrom.drew4 (HK3.out.trans HT5.2)
              clear hf3 HT5 g0 hE
              subst hW3
              gi_wp2
              gi_region
              all_goals
                gi_wp2
                exact ⟨HK5.out, rfl, HX5.out⟩
            · have hEb : ((el : Int) == 4096) = false := beq_false_of_ne (fun e => hE (by omega))
              have HEE : Hid (¬ E.length = 4096) := by show ¬ _; rw [HEL.out]; exact hE
              clear g0 hf3 hE
              subst hW3
              gi_wp2_with (refine wpListIn_addE rfl (.tmp 47) (.tmp 49) rfl (.slice qv el cv) E (x, .slice qb x.dat.length cb) (by go_simp) rfl HJ3.out.evs.row (by go_simp) (by have := HJ3.out.few; omega) ?_; intro a6 n6 c6 w6 N6 O6 F6 K6; obtain ⟨B6, G6, P6⟩ := HJ3.out.add HP.out HSK.out HQ.out HEE.out HB3.out O6.out F6.out K6.out (B0 := W0.heap.size); have HG6 : Hid (SI s w (k + 1) (w6.setCell ⟨w.heap.size + 2, 0, none⟩ (.slice a6 n6 c6)) ∧ KeepsFrom W0.heap.size W (w6.setCell ⟨w.heap.size + 2, 0, none⟩ (.slice a6 n6 c6))) := ⟨⟨_, _, G6⟩, HK3.out.trans P6⟩; have z6 : w6.frozen? ⟨w.heap.size + 1 + 1, 0, none⟩ = false := frozen_of_heap B6; have d6 : w6.cell? ⟨w.heap.size + 1 + 1, 0, none⟩ = some (.slice qv el cv) := cell_of_heap B6 rfl; clear O6 F6 K6 B6 G6 P6 e0 e1 e2 e3 e4)
              exact ⟨HG6.out.2, HG6.out.1⟩
    case done =>
      rintro D W hD ⟨v, E, hI⟩ hK
      have hx := hI.line
      rw [List.drop_length] at hx
      have HX : Hid (scriptO (tx s) = .inl (E.map (·.1))) := hx
      obtain ⟨q, c, hv⟩ := hI.evs.form
      subst hv
      have HI : Hid (SJ s w _ _ (.slice q E.length c) E W) := hI
      have HDK : Hid (W.heap[D]? = some (.deferred (some [])) ∧ W0.heap.size ≤ D) := ⟨hK, hD⟩
      clear hI hx hK hD H0 HT
      have c0 : W.cell? ⟨w.heap.size, 0, none⟩ = some (.slice none 0 0) := cell_of_heap HI.out.r0 rfl
      have c1 : W.cell? ⟨w.heap.size + 1, 0, none⟩ = some .nilIface := cell_of_heap HI.out.r1 rfl
      have c2 : W.cell? ⟨w.heap.size + 1 + 1, 0, none⟩ = some (.slice q E.length c) := cell_of_heap HI.out.box rfl
      have z0 : W.frozen? ⟨w.heap.size, 0, none⟩ = false := frozen_of_heap HI.out.r0
      have z1 : W.frozen? ⟨w.heap.size + 1, 0, none⟩ = false := frozen_of_heap HI.out.r1
      obtain ⟨W5, hW5⟩ : ∃ W5, (W.setCell ⟨w.heap.size, 0, none⟩ (.slice q E.length c)).setCell ⟨w.heap.size + 1, 0, none⟩ .nilIface = W5 := ⟨_, rfl⟩
      have qf : Fr (fun j => j = w.heap.size) W (W.setCell ⟨w.heap.size, 0, none⟩ (.slice q E.length c)) := (Fr.refl _ _).setB _ _
      have q0 : (W.setCell ⟨w.heap.size, 0, none⟩ (.slice q E.length c)).heap[w.heap.size]? = some (.cells #[.slice q E.length c] 33 (0, 0)) := by
        have := set_at (j := 0) (.slice q E.length c) HI.out.r0
        simpa using this
      have q1 := (qf.block _ (lt_of_heap HI.out.r1) (fun e => by have e' : w.heap.size + 1 = w.heap.size := e; omega)).trans HI.out.r1
      have F5 : Hid (Fr (fun j => j = w.heap.size ∨ j = w.heap.size + 1) W W5) := by
        show Fr _ _ _
        rw [← hW5]
        exact (qf.mono (fun _ _ e => .inl e)).trans ((Fr.setB (Fr.refl _ _) 0 _).mono (fun _ _ e => .inr e))
      have r0 : W5.heap[w.heap.size]? = some (.cells #[.slice q E.length c] 33 (0, 0)) := by
        rw [← hW5]; exact ((Fr.setB (Fr.refl _ _) 0 _).block _ (lt_of_heap q0) (fun e => by have e' : w.heap.size = w.heap.size + 1 := e; omega)).trans q0
      have r1 : W5.heap[w.heap.size + 1]? = some (.cells #[.nilIface] 42 (0, 0)) := by rw [← hW5]; exact set_at _ q1
      have HR : Hid (W5.heap[w.heap.size]? = some (.cells #[.slice q E.length c] 33 (0, 0)) ∧ W5.heap[w.heap.size + 1]? = some (.cells #[.nilIface] 42 (0, 0))) := ⟨r0, r1⟩
      clear q0 qf q1 r0 r1
      gi_wp2
      have hd5 : W5.heap[D]? = some (.deferred (some [])) := by
        refine (F5.out.block _ (lt_of_heap HDK.out.1) (fun e => ?_)).trans HDK.out.1
        have h1 := HDK.out.2
        have h2 := HSZ.out
        rcases e with e | e <;> omega
      have hfp := fr_put4 W5 D (.deferred none)
      have hne : w.heap.size ≠ D ∧ w.heap.size + 1 ≠ D := by have h1 := HDK.out.2; have h2 := HSZ.out; omega
      have p0 := (hfp.block _ (lt_of_heap HR.out.1) hne.1).trans HR.out.1
      have p1 := (hfp.block _ (lt_of_heap HR.out.2) hne.2).trans HR.out.2
      have g0 : (W5.putObj D (.deferred none)).cell? ⟨w.heap.size, 0, none⟩ = some (.slice q E.length c) := cell_of_heap p0 rfl
      have g5 : (W5.putObj D (.deferred none)).cell? ⟨w.heap.size + 1, 0, none⟩ = some .nilIface := cell_of_heap p1 rfl
      refine ⟨by simp, .inl ⟨_, _, rfl, run_takeDeferred hd5, ?_⟩⟩
      refine ⟨.tuple #[.slice q E.length c, .nilIface], by simp [results, Tryd.f19, go_sem, g0, g5], ?_⟩
      refine ⟨fr_new (fr_new HI.out.fr F5.out (fun j hj e => by rcases e with e | e <;> omega)) hfp (fun j hj e => ?_), .inr ⟨HS.out, .inr ⟨E, q, c, HX.out, rfl, ?_⟩⟩⟩
      · have e' : j = D := e
        have h1 := HDK.out.2
        have h2 := HSZ.out
        omega
      · refine (HI.out.evs.fr F5.out (fun j hj e => ?_) (fun j cs fr hj e => ?_)).fr hfp (fun j hj e => ?_) (fun j cs fr hj e => ?_)
        · have := HI.out.own j hj
          rcases e with e | e <;> omega
        · rcases e with e | e
          · rw [e, HI.out.r0] at hj; cases hj
          · rw [e, HI.out.r1] at hj; cases hj
        · have e' : j = D := e
          obtain ⟨-, cur, hc⟩ := rowE_lt HI.out.evs.row j hj
          rw [e', HDK.out.1] at hc
          cases hc
        · have e' : j = D := e
          rw [e', hd5] at hj
          cases hj
    case stop =>
      rintro D c k W hD hk ⟨rfl, hX⟩ hK
      have HX : Hid (SX s w W) := hX
      obtain ⟨kk, n, v, hp, hv, h1⟩ := hX.d
      have HP : Hid (scriptO (tx s) = .inr (kk, n) ∧ ErrIs v kk n) := ⟨hp, hv⟩
      have HDK : Hid (W.heap[D]? = some (.deferred (some [])) ∧ W0.heap.size ≤ D) := ⟨hK, hD⟩
      have hfp := fr_put4 W D (.deferred none)
      have hne : w.heap.size ≠ D ∧ w.heap.size + 1 ≠ D := by have h1 := HDK.out.2; have h2 := HSZ.out; omega
      have p0 := (hfp.block _ (lt_of_heap HX.out.r0) hne.1).trans HX.out.r0
      have p1 := (hfp.block _ (lt_of_heap h1) hne.2).trans h1
      have g0 : (W.putObj D (.deferred none)).cell? ⟨w.heap.size, 0, none⟩ = some (.slice none 0 0) := cell_of_heap p0 rfl
      have g5 : (W.putObj D (.deferred none)).cell? ⟨w.heap.size + 1, 0, none⟩ = some v := cell_of_heap p1 rfl
      have HF : Hid (Fr (fun j => j = D) W (W.putObj D (.deferred none))) := hfp
      clear hX hp hv h1 p0 p1 hk hfp
      gi_wp2
      refine ⟨by simp, .inl ⟨_, _, rfl, run_takeDeferred hK, ?_⟩⟩
      refine ⟨.tuple #[.slice none 0 0, v], by simp [results, Tryd.f19, go_sem, g0, g5], ?_⟩
      refine ⟨fr_new HX.out.fr HF.out (fun j hj e => ?_), .inr ⟨HS.out, .inl ⟨kk, n, v, HP.out.1, HP.out.2, rfl⟩⟩⟩
      have e' : j = D := e
      have h1 := HDK.out.2
      have h2 := HSZ.out
      omega
end Go.Proofs.YtfehmlopndklcaaDoor
