/- A word is added to an event: names, numbers, bytes. -/
import Derived.Test.YtfehmlopndklcaaDoorSck
namespace Go.Proofs.YtfehmlopndklcaaDoor
open Go.RowKit
set_option maxRecDepth 100000
set_option maxHeartbeats 4000000
set_option linter.unusedVariables false

theorem ta8585 (v : Value) (w : World) : (Instr.typeAssert (.iface 85 v) 68 85 true).run Tryd.prog w = .ok (.tuple #[v, .bool true]) w := by kernel_rfl
theorem ta8685 (v : Value) (w : World) : (Instr.typeAssert (.iface 86 v) 68 85 true).run Tryd.prog w = .ok (.tuple #[.string ⟨#[]⟩, .bool false]) w := by kernel_rfl
theorem ta8785 (v : Value) (w : World) : (Instr.typeAssert (.iface 87 v) 68 85 true).run Tryd.prog w = .ok (.tuple #[.string ⟨#[]⟩, .bool false]) w := by kernel_rfl
theorem ta8686 (v : Value) (w : World) : (Instr.typeAssert (.iface 86 v) 68 86 true).run Tryd.prog w = .ok (.tuple #[v, .bool true]) w := by kernel_rfl
theorem ta8786 (v : Value) (w : World) : (Instr.typeAssert (.iface 87 v) 68 86 true).run Tryd.prog w = .ok (.tuple #[.int .i64 0, .bool false]) w := by kernel_rfl
theorem ta8787 (v : Value) (w : World) : (Instr.typeAssert (.iface 87 v) 68 87 true).run Tryd.prog w = .ok (.tuple #[v, .bool true]) w := by kernel_rfl
theorem DAt.keep {W W' : World} {db : Nat} {x : Dr} {v : Value} (h : DAt W db x v) (hf : Fr (fun _ => False) W W') : DAt W' db x v :=
  ⟨(hf.block _ (lt_of_heap h.at_) id).trans h.at_, h.dat.old hf, h.nx⟩
theorem set_at {w : World} {g j : Nat} {cs : Array Value} {t : TypeId} (v : Value) (h : w.heap[g]? = some (.cells cs t (0, 0))) : (w.setCell ⟨g, j, none⟩ v).heap[g]? = some (.cells (cs.setIfInBounds j v) t (0, 0)) := by
  have hl := lt_of_heap h
  simp [World.setCell]
  rw [Array.getElem?_eq_getElem hl] at h
  simp at h
  simp [Array.modify, Array.modifyM, hl, h]
theorem BAt.set {W : World} {v u : Value} {X : List UInt8} {db j : Nat} {cs : Array Value} (h : BAt W v X) (hd : W.heap[db]? = some (.cells cs 63 (0, 0))) : BAt (W.setCell ⟨db, j, none⟩ u) v X := by
  refine h.fr (S := fun k => k = db) (Fr.setB (Fr.refl _ _) j u) (fun k cs' fr hk e => ?_)
  have e' : k = db := e
  subst e'
  rw [hd] at hk
  cases hk
theorem add_name (W : World) (db : Nat) (x : Dr) (l : List UInt8) (v : Value) (h : DAt W db x v) : Calls Tryd.prog 25 #[.pointer (some ⟨db, 0, none⟩), .iface 85 (.string ⟨l.toArray⟩)] W (AddAs W db x (.inl l) v) := by
  have KK := kinds_in W
  obtain ⟨W1, hW1⟩ : ∃ W1, W.alloc (.cells (namesS.map Value.string).toArray 9) = W1 := ⟨_, rfl⟩
  have hf1 : Fr (fun _ => False) W W1 := by rw [← hW1]; exact (Fr.refl _ _).alloc _
  have hb1 : W1.heap[W.heap.size]? = some (.cells (namesS.map Value.string).toArray 9 (0, 0)) := by rw [← hW1]; exact heap_alloc_new W _
  have KI := index_in W.heap.size ⟨l.toArray⟩ W1 hb1
  rw [tx_mk] at KI
  rw [hW1] at KK
  have H1 : Hid (DAt W1 db x v) := h.keep hf1
  have HF1 : Hid (Fr (fun _ => False) W W1) := hf1
  have c5 : W1.cell? ⟨db, 5, none⟩ = some (.int .i64 (x.nx : Int)) := cell_of_heap H1.out.at_ rfl
  have t1 := ta8585 (.string ⟨l.toArray⟩)
  have HA : Hid (addW x (.inl l) = if 0 ≤ kindI l ∧ x.nx = 0 then some { x with what := kindI l, nx := 1 } else none) := rfl
  obtain ⟨u, hu⟩ : ∃ u : ByteArray, (⟨l.toArray⟩ : ByteArray) = u := ⟨_, rfl⟩
  rw [hu] at KI t1 ⊢
  obtain ⟨k, hk⟩ : ∃ k, kindI l = k := ⟨_, rfl⟩
  rw [hk] at KI HA
  obtain ⟨n, hn⟩ : ∃ n, x.nx = n := ⟨_, rfl⟩
  rw [hn] at c5 HA
  clear h hf1 hb1 hW1 hu hk
  by_cases h0 : 0 ≤ k
  · have h0n : ¬ k < 0 := by omega
    by_cases hz : n = 0
    · subst hz
      have HN : Hid (addW x (.inl l) = some { x with what := k, nx := 1 }) := by show _ = _; rw [HA.out, if_pos ⟨h0, rfl⟩]
      have c0 : W1.cell? ⟨db, 0, none⟩ = some (.int .i64 x.what) := cell_of_heap H1.out.at_ rfl
      have z0 : W1.frozen? ⟨db, 0, none⟩ = false := frozen_of_heap H1.out.at_
      have z5 : W1.frozen? ⟨db, 5, none⟩ = false := frozen_of_heap H1.out.at_
      have q0 := set_at (j := 0) (.int .i64 k) H1.out.at_
      have c5b : (W1.setCell ⟨db, 0, none⟩ (.int .i64 k)).cell? ⟨db, 5, none⟩ = some (.int .i64 (x.nx : Int)) := cell_of_heap q0 rfl
      have z5b : (W1.setCell ⟨db, 0, none⟩ (.int .i64 k)).frozen? ⟨db, 5, none⟩ = false := frozen_of_heap q0
      have q5 := set_at (j := 5) (.int .i64 1) q0
      have HQ : Hid (DAt ((W1.setCell ⟨db, 0, none⟩ (.int .i64 k)).setCell ⟨db, 5, none⟩ (.int .i64 1)) db { x with what := k, nx := 1 } v) := ⟨q5, (H1.out.dat.set H1.out.at_).set q0, by simp⟩
      have HR : Hid (Fr (fun k => k = db) W ((W1.setCell ⟨db, 0, none⟩ (.int .i64 k)).setCell ⟨db, 5, none⟩ (.int .i64 1))) := ((HF1.out.mono (fun _ _ e => e.elim)).setB 0 _).setB 5 _
      clear q0 q5 hn
      go_enter Tryd.func25, Tryd.ntmps25
      go_wp2_with (fail)
      refine KK.mono ?_
      rintro e w' ⟨rfl, rfl⟩
      go_wp2_with (fail)
      refine KI.mono ?_
      rintro e w' ⟨rfl, rfl⟩
      go_wp2_with (fail)
      go_ret
      exact ⟨HR.out, .inr ⟨_, _, HN.out, rfl, HQ.out⟩⟩
    · have hz2 : ¬ (n : Int) = 0 := by omega
      have hz3 : ((n : Int) != 0) = true := bne_iff_ne.2 hz2
      have HN : Hid (addW x (.inl l) = none) := by show _ = _; rw [HA.out, if_neg (fun e => hz e.2)]
      clear hz hn
      go_enter Tryd.func25, Tryd.ntmps25
      go_wp2_with (fail)
      refine KK.mono ?_
      rintro e w' ⟨rfl, rfl⟩
      go_wp2_with (fail)
      refine KI.mono ?_
      rintro e w' ⟨rfl, rfl⟩
      go_wp2_with (fail)
      go_ret
      exact ⟨HF1.out.mono (fun _ _ e => e.elim), .inl ⟨HN.out, rfl, H1.out⟩⟩
  · have h0n : k < 0 := by omega
    have HN : Hid (addW x (.inl l) = none) := by show _ = _; rw [HA.out, if_neg (fun e => h0 e.1)]
    clear h0
    go_enter Tryd.func25, Tryd.ntmps25
    go_wp2_with (fail)
    refine KK.mono ?_
    rintro e w' ⟨rfl, rfl⟩
    go_wp2_with (fail)
    refine KI.mono ?_
    rintro e w' ⟨rfl, rfl⟩
    go_wp2_with (fail)
    go_ret
    exact ⟨HF1.out.mono (fun _ _ e => e.elim), .inl ⟨HN.out, rfl, H1.out⟩⟩
theorem add_num (W : World) (db : Nat) (x : Dr) (m : Nat) (v : Value) (h : DAt W db x v) : Calls Tryd.prog 25 #[.pointer (some ⟨db, 0, none⟩), .iface 86 (.int .i64 (m : Int))] W (AddAs W db x (.inr (.inl m)) v) := by
  have H1 : Hid (DAt W db x v) := h
  have c5 : W.cell? ⟨db, 5, none⟩ = some (.int .i64 (x.nx : Int)) := cell_of_heap H1.out.at_ rfl
  have t1 := ta8685 (.int .i64 (m : Int))
  have t2 := ta8686 (.int .i64 (m : Int))
  have HA : Hid (addW x (.inr (.inl m)) = if 1 ≤ x.nx ∧ x.nx < 4 then some (putN x m) else none) := rfl
  obtain ⟨n, hn⟩ : ∃ n, x.nx = n := ⟨_, rfl⟩
  have HNX : Hid (x.nx = n) := hn
  rw [hn] at c5 HA
  clear h hn
  by_cases h1 : 1 ≤ n
  · have h1n : ¬ (n : Int) < 1 := by omega
    by_cases h4 : n < 4
    · have h4n : ¬ (4 : Int) ≤ (n : Int) := by omega
      have HN : Hid (addW x (.inr (.inl m)) = some (putN x m)) := by show _ = _; rw [HA.out, if_pos ⟨h1, h4⟩]
      have KN : Hid (Calls Tryd.prog 39 #[.pointer (some ⟨db, 0, none⟩)] W fun e w' => e = .returned (.pointer (some ⟨db, n, none⟩)) ∧ DAt w' db x v ∧ Fr (fun _ => False) W w') := (number_in db n W h1 h4 c5).mono fun e w' h => ⟨h.1, H1.out.keep h.2, h.2⟩
      have HB : Hid (1 ≤ n ∧ n < 4) := ⟨h1, h4⟩
      clear h1 h4 HA
      go_enter Tryd.func25, Tryd.ntmps25
      go_wp2_with (fail)
      refine KN.out.mono ?_
      rintro e w1 ⟨rfl, hD, hf⟩
      obtain ⟨old, ho⟩ : ∃ old, (#[.int .i64 x.what, .int .i64 x.a, .int .i64 x.b, .int .i64 x.d, v, .int .i64 (x.nx : Int)] : Array Value)[n]? = some old := by
        have := HB.out
        rcases (by omega : n = 1 ∨ n = 2 ∨ n = 3) with rfl | rfl | rfl <;> exact ⟨_, rfl⟩
      have cn : w1.cell? ⟨db, n, none⟩ = some old := cell_of_heap hD.at_ ho
      have zn : w1.frozen? ⟨db, n, none⟩ = false := frozen_of_heap hD.at_
      have q0 := set_at (j := n) (.int .i64 (m : Int)) hD.at_
      have cs5 : (#[.int .i64 x.what, .int .i64 x.a, .int .i64 x.b, .int .i64 x.d, v, .int .i64 (x.nx : Int)] : Array Value).setIfInBounds n (.int .i64 (m : Int)) = #[.int .i64 (putN x m).what, .int .i64 (putN x m).a, .int .i64 (putN x m).b, .int .i64 (putN x m).d, v, .int .i64 (n : Int)] ∧ (putN x m).nx = n + 1 ∧ (putN x m).dat = x.dat := by
        have h1 := HB.out
        have h2 := HNX.out
        rcases (by omega : n = 1 ∨ n = 2 ∨ n = 3) with rfl | rfl | rfl <;> simp [putN, h2]
      rw [cs5.1] at q0
      have cm : (w1.setCell ⟨db, n, none⟩ (.int .i64 (m : Int))).cell? ⟨db, 5, none⟩ = some (.int .i64 (n : Int)) := cell_of_heap q0 rfl
      have zm : (w1.setCell ⟨db, n, none⟩ (.int .i64 (m : Int))).frozen? ⟨db, 5, none⟩ = false := frozen_of_heap q0
      have hw1 : wrap64 ((n : Int) + 1) = ((n + 1 : Nat) : Int) := by have := HB.out; unfold wrap64; omega
      have q5 := set_at (j := 5) (.int .i64 ((n + 1 : Nat) : Int)) q0
      have HQ : Hid (DAt ((w1.setCell ⟨db, n, none⟩ (.int .i64 (m : Int))).setCell ⟨db, 5, none⟩ (.int .i64 ((n + 1 : Nat) : Int))) db (putN x m) v) := by
        refine ⟨?_, ?_, by rw [cs5.2.1]; have := HB.out; omega⟩
        · rw [cs5.2.1]; exact q5
        · rw [cs5.2.2]; exact (hD.dat.set hD.at_).set q0
      have HR : Hid (Fr (fun k => k = db) W ((w1.setCell ⟨db, n, none⟩ (.int .i64 (m : Int))).setCell ⟨db, 5, none⟩ (.int .i64 ((n + 1 : Nat) : Int)))) := ((hf.mono (fun _ _ e => e.elim)).setB n _).setB 5 _
      clear q0 q5 hD hf cs5 ho
      go_wp2_with (fail)
      have e1 : (n : Int) + 1 = ((n + 1 : Nat) : Int) := by omega
      rw [e1]
      go_ret
      exact ⟨HR.out, .inr ⟨_, _, HN.out, rfl, HQ.out⟩⟩
    · have h4n : (4 : Int) ≤ (n : Int) := by omega
      have HN : Hid (addW x (.inr (.inl m)) = none) := by show _ = _; rw [HA.out, if_neg (fun e => h4 e.2)]
      clear h1 h4 HA
      go_enter Tryd.func25, Tryd.ntmps25
      go_wp2_with (fail)
      go_ret
      exact ⟨Fr.refl _ _, .inl ⟨HN.out, rfl, H1.out⟩⟩
  · obtain rfl : n = 0 := by omega
    have HN : Hid (addW x (.inr (.inl m)) = none) := by show _ = _; rw [HA.out, if_neg (fun e => h1 e.1)]
    clear h1 HA
    go_enter Tryd.func25, Tryd.ntmps25
    go_wp2_with (fail)
    go_ret
    exact ⟨Fr.refl _ _, .inl ⟨HN.out, rfl, H1.out⟩⟩
theorem add_dat (W : World) (db : Nat) (x : Dr) (X : List UInt8) (v u : Value) (h : DAt W db x v) (hu : BAt W u X) : Calls Tryd.prog 25 #[.pointer (some ⟨db, 0, none⟩), .iface 87 u] W (AddAs W db x (.inr (.inr X)) v) := by
  have H1 : Hid (DAt W db x v) := h
  obtain ⟨uq, uc, hue, -⟩ := id hu
  subst hue
  have HU : Hid (BAt W (.slice uq X.length uc) X) := hu
  have c5 : W.cell? ⟨db, 5, none⟩ = some (.int .i64 (x.nx : Int)) := cell_of_heap H1.out.at_ rfl
  have t1 := ta8785 (.slice uq X.length uc)
  have t2 := ta8786 (.slice uq X.length uc)
  have t3 := ta8787 (.slice uq X.length uc)
  have HA : Hid (addW x (.inr (.inr X)) = if 1 ≤ x.nx ∧ x.nx ≤ 4 then some { x with dat := X, nx := 5 } else none) := rfl
  obtain ⟨n, hn⟩ : ∃ n, x.nx = n := ⟨_, rfl⟩
  rw [hn] at c5 HA
  clear h hn hu
  by_cases h1 : 1 ≤ n
  · have h1n : ¬ (n : Int) < 1 := by omega
    by_cases h4 : n ≤ 4
    · have h4n : ¬ (4 : Int) < (n : Int) := by omega
      have HN : Hid (addW x (.inr (.inr X)) = some { x with dat := X, nx := 5 }) := by show _ = _; rw [HA.out, if_pos ⟨h1, h4⟩]
      have c4 : W.cell? ⟨db, 4, none⟩ = some v := cell_of_heap H1.out.at_ rfl
      have z4 : W.frozen? ⟨db, 4, none⟩ = false := frozen_of_heap H1.out.at_
      have q0 := set_at (j := 4) (.slice uq X.length uc) H1.out.at_
      have c5b : (W.setCell ⟨db, 4, none⟩ (.slice uq X.length uc)).cell? ⟨db, 5, none⟩ = some (.int .i64 (x.nx : Int)) := cell_of_heap q0 rfl
      have z5b : (W.setCell ⟨db, 4, none⟩ (.slice uq X.length uc)).frozen? ⟨db, 5, none⟩ = false := frozen_of_heap q0
      have q5 := set_at (j := 5) (.int .i64 5) q0
      have HQ : Hid (DAt ((W.setCell ⟨db, 4, none⟩ (.slice uq X.length uc)).setCell ⟨db, 5, none⟩ (.int .i64 5)) db { x with dat := X, nx := 5 } (.slice uq X.length uc)) := ⟨q5, (HU.out.set H1.out.at_).set q0, by simp⟩
      have HR : Hid (Fr (fun k => k = db) W ((W.setCell ⟨db, 4, none⟩ (.slice uq X.length uc)).setCell ⟨db, 5, none⟩ (.int .i64 5))) := ((Fr.refl _ _).setB 4 _).setB 5 _
      clear h1 h4 HA q0 q5
      go_enter Tryd.func25, Tryd.ntmps25
      go_wp2_with (fail)
      go_ret
      exact ⟨HR.out, .inr ⟨_, _, HN.out, rfl, HQ.out⟩⟩
    · have h4n : (4 : Int) < (n : Int) := by omega
      have HN : Hid (addW x (.inr (.inr X)) = none) := by show _ = _; rw [HA.out, if_neg (fun e => h4 e.2)]
      clear h1 h4 HA
      go_enter Tryd.func25, Tryd.ntmps25
      go_wp2_with (fail)
      go_ret
      exact ⟨Fr.refl _ _, .inl ⟨HN.out, rfl, H1.out⟩⟩
  · obtain rfl : n = 0 := by omega
    have HN : Hid (addW x (.inr (.inr X)) = none) := by show _ = _; rw [HA.out, if_neg (fun e => h1 e.1)]
    clear h1 HA
    go_enter Tryd.func25, Tryd.ntmps25
    go_wp2_with (fail)
    go_ret
    exact ⟨Fr.refl _ _, .inl ⟨HN.out, rfl, H1.out⟩⟩
theorem add_in (W : World) (db : Nat) (x : Dr) (wd : Wd) (v wv : Value) (h : DAt W db x v) (hw : WAt W wv wd) : Calls Tryd.prog 25 #[.pointer (some ⟨db, 0, none⟩), wv] W (AddAs W db x wd v) := by
  rcases wd with l | m | X
  · have hw' : wv = .iface 85 (.string ⟨l.toArray⟩) := hw
    subst hw'
    exact add_name W db x l v h
  · have hw' : wv = .iface 86 (.int .i64 (m : Int)) := hw
    subst hw'
    exact add_num W db x m v h
  · obtain ⟨u, rfl, hu⟩ := hw
    exact add_dat W db x X v u h hu
end Go.Proofs.YtfehmlopndklcaaDoor
