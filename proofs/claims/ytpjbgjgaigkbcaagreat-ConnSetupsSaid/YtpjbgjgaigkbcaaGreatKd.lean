/- A connection that was just made: what it answers. -/
import Derived.Test.YtpjbgjgaigkbcaaGreatKc
import Derived.Test.YtpjbgjgaigkbcaaGreatYt
namespace Go.Proofs.YtpjbgjgaigkbcaaGreat
open Go.RowKit Go.Maps Go.Sort Go.Shelf
set_option linter.unusedVariables false
set_option maxRecDepth 100000
set_option maxHeartbeats 4000000

theorem ysorts (m : Nat) : AnyZI.SortsIn Tryz.prog ysortedA_ren Fence.wide m :=
  ⟨fun blk off cap ss W hH hblk hsz => callsIn_wide.2 (AnyM.slices_Sort_int ysortA blk off cap ss W hH hblk hsz),
   fun p cap W => callsIn_wide.2 (AnyM.slices_Sort_int_none ysortA p cap W)⟩
theorem map_none {w : World} {b n : Nat} (h : MapAt w b n (fun _ => none)) : ∃ D : DataW Value, w.ownsMap Tryz.prog 3 Raw b n D ∧ Maps.size D = 0 ∧ ([] : List Int).Perm (intKeys D) := by
  obtain ⟨D1, h1, hsz⟩ := h.size [] List.nodup_nil (fun k => by simp)
  obtain ⟨D, h, hM⟩ := h
  have e0 : D1 = D := by
    obtain ⟨es, clock, hb, F, hs, hD⟩ := id h
    obtain ⟨es', clock', hb', F', hs', hD'⟩ := h1
    rw [hb] at hb'
    cases hb'
    rw [hD, hD']
  subst e0
  refine ⟨D1, h, by rw [hsz]; simp, ?_⟩
  obtain ⟨E, rfl, hpw, hlit⟩ := h.entries keyI
  have hints : ∀ p ∈ E, ∃ x, p.1 = .int .i64 x := by
    obtain ⟨es, clock, hb, F, hs, hD⟩ := h
    have hE : E = (es.toList.map (Go.WideElems.rg Tryz.prog 3 Raw)).foldr DataW.insert [] := by cases hD; rfl
    intro p hp
    rw [hE] at hp
    obtain ⟨v, hv⟩ := fit_keys F p (mem_sorted.1 hp)
    obtain ⟨x, -, hx, -⟩ := Maps.keyOf_int_inv Tryz.underlying3 hv
    exact ⟨x, hx⟩
  refine perm_intKeys hpw hints List.nodup_nil fun x => ?_
  rw [(hM x).2]
  simp
theorem sorted_none (b : Nat) (w : World) (h : MapAt w b 0 (fun _ => none)) :
    Calls Tryz.prog 39 #[.func (.func 51) #[] #[.pointer (some ⟨w.heap.size, 0, none⟩)]] (w.alloc (.cells #[.map (some b)] 99)) fun e w' => e = .returned (.slice none 0 0) ∧ Fr (fun _ => False) w w' := by
  obtain ⟨D0, hown, hsz, hpm⟩ := map_none h
  have hbl := hown.lt
  have hseq : SeqGives Fence.wide 2 Tryz.prog 51 #[.pointer (some ⟨w.heap.size, 0, none⟩)] encZ (fun ss => ss.Perm (intKeys D0)) (Maps.size D0) (w.alloc (.cells #[.map (some b)] 99)) :=
    AnyZI.keys_gives (ρ := ykeysA_ren) { ykeysA with } Fence.wide _ trivial rfl (by omega) w.heap.size b _ D0 _ (by simp) (by simp) (by
      obtain ⟨es, clock, hb, Ft, hs, hD⟩ := hown
      exact ⟨es, clock, (Below.heap_alloc _ _ b hbl).trans hb, Ft, hs, hD⟩)
  have cS := AnyZI.sorted_in ysortedA Fence.wide 5 trivial trivial trivial trivial rfl (by omega) (ysorts _) (enters_of Tryz.func50 (by kernel_rfl) rfl) 51 #[.pointer (some ⟨w.heap.size, 0, none⟩)] trivial (enters_of Tryz.func51 (by kernel_rfl) rfl) _ _ (by rw [hsz]; unfold maxLen; omega) (by rw [hsz]; omega) _ hseq
  change CallsIn _ _ Tryz.prog 39 _ _ _ at cS
  refine (callsIn_wide.1 cS).mono ?_
  rintro e w' ⟨v, ss, rfl, hS, hrow, hnil, hb⟩
  have hss : ss = [] := List.Perm.eq_nil (hS.trans hpm.symm)
  exact ⟨by rw [hnil.2 hss], ((Fr.refl _ _).alloc _).trans (Fr.of_below hb)⟩
theorem kmap_ne (bm : Nat) (w : World) : (binOp .neq 99 (.map (some bm)) (.map none)).run Tryz.prog w = .ok (.bool true) w := by kernel_rfl
theorem ymade_yes (g mb : Nat) (w : World) (c0 : w.cell? ⟨g, 0, none⟩ = some (.map (some mb))) : Calls Tryz.prog 38 #[.pointer (some ⟨g, 0, none⟩)] w fun e w' => e = .returned (.bool true) ∧ w = w' := by
  have hn := kmap_ne mb
  go_enter Tryz.func38, Tryz.ntmps38
  go_wp2_with (fail)
  go_ret
  exact ⟨rfl, rfl⟩
theorem List_none (g mb : Nat) (w : World) (h : StrAt w g mb) : Calls Tryz.prog 28 #[.pointer (some ⟨g, 0, none⟩)] w fun e w' => e = .returned (.slice none 0 0) ∧ Fr (fun _ => False) w w' := by
  have c0 := h.cell
  have K := ymade_yes g mb w c0
  have KK : Calls Tryz.prog 40 #[.map (some mb)] w fun e w' => e = .returned (.func (.func 51) #[] #[.pointer (some ⟨w.heap.size, 0, none⟩)]) ∧ w' = w.alloc (.cells #[.map (some mb)] 99) := callsIn_wide.1 (AnyZI.keys_in ykeysA Fence.wide 5 trivial rfl (some mb) w)
  have KS := sorted_none mb w h.map
  clear h
  go_enter Tryz.func28, Tryz.ntmps28
  go_wp2_with (first | (go_at_call 38; refine K.mono ?_; clear K; rintro e w' ⟨rfl, rfl⟩) | (go_at_call 40; refine KK.mono ?_; clear KK; rintro e w' ⟨rfl, rfl⟩) | (go_at_call 39; refine KS.mono ?_; clear KS; rintro e w' ⟨rfl, a3⟩))
  go_ret
  exact ⟨rfl, a3⟩

/-- A connection that was just made, of which n bytes are written. -/
def ConnAt (w : World) (c n : Nat) : Prop :=
  ∃ (V : Array Value) (g mb mF : Nat) (a : Option Addr) (cc : Nat), ConnC w c V ∧ V[0]? = some (.bool true) ∧ V[8]? = some (.int .i64 (-1)) ∧ V[10]? = some (.bool false) ∧ V[19]? = some (.pointer (some ⟨g, 0, none⟩)) ∧ V[20]? = some (.map (some mF)) ∧ V[23]? = some (.slice a n cc) ∧ StrAt w g mb ∧ MapAt w mF 0 (fun _ => none)
theorem ConnAt.later {w w' : World} {c n : Nat} (h : ConnAt w c n) (hf : Fr (fun _ => False) w w') : ConnAt w' c n := by
  obtain ⟨V, g, mb, mF, a, cc, h1, h2, h3, h4, h5, h6, h7, h8, h9⟩ := h
  exact ⟨V, g, mb, mF, a, cc, h1.fr hf id, h2, h3, h4, h5, h6, h7, h8.fr hf id id, h9.fr hf id⟩
theorem isMade_in (c : Nat) (w : World) (c0 : w.cell? ⟨c, 0, none⟩ = some (.bool true)) : Calls Tryz.prog 29 #[.pointer (some ⟨c, 0, none⟩)] w fun e w' => e = .returned (.bool true) ∧ w = w' := by
  go_enter Tryz.func29, Tryz.ntmps29
  go_wp2_with (fail)
  go_ret
  exact ⟨rfl, rfl⟩
theorem works_in (c : Nat) (w : World) (c0 : w.cell? ⟨c, 0, none⟩ = some (.bool true)) (c8 : w.cell? ⟨c, 8, none⟩ = some (.int .i64 (-1))) : Calls Tryz.prog 24 #[.pointer (some ⟨c, 0, none⟩)] w fun e w' => e = .returned (.bool true) ∧ w = w' := by
  have K := isMade_in c w c0
  clear c0
  go_enter Tryz.func24, Tryz.ntmps24
  go_wp2_with (go_at_call 29; refine K.mono ?_; clear K; rintro e w' ⟨rfl, rfl⟩)
  go_ret
  exact ⟨rfl, rfl⟩
theorem ConnAt.cells {w : World} {c n : Nat} (h : ConnAt w c n) : w.cell? ⟨c, 0, none⟩ = some (.bool true) ∧ w.cell? ⟨c, 8, none⟩ = some (.int .i64 (-1)) ∧ w.cell? ⟨c, 10, none⟩ = some (.bool false) := by
  obtain ⟨V, g, mb, mF, a, cc, h1, h2, h3, h4, -⟩ := h
  exact ⟨cell_of_heap h1 h2, cell_of_heap h1 h3, cell_of_heap h1 h4⟩
theorem Ready_in (c n : Nat) (w : World) (h : ConnAt w c n) : Calls Tryz.prog 6 #[.pointer (some ⟨c, 0, none⟩)] w fun e w' => e = .returned (.bool false) ∧ w = w' := by
  obtain ⟨c0, c8, c10⟩ := h.cells
  have K := works_in c w c0 c8
  clear c0 c8 h
  go_enter Tryz.func6, Tryz.ntmps6
  go_wp2_with (go_at_call 24; refine K.mono ?_; clear K; rintro e w' ⟨rfl, rfl⟩)
  go_ret
  exact ⟨rfl, rfl⟩
theorem mayOpen_in (c n : Nat) (w : World) (h : ConnAt w c n) : Calls Tryz.prog 25 #[.pointer (some ⟨c, 0, none⟩)] w fun e w' => e = .returned (.bool false) ∧ w = w' := by
  have K := Ready_in c n w h
  clear h
  go_enter Tryz.func25, Tryz.ntmps25
  go_wp2_with (go_at_call 6; refine K.mono ?_; clear K; rintro e w' ⟨rfl, rfl⟩)
  go_ret
  exact ⟨rfl, rfl⟩
theorem Slots_in (c n : Nat) (w : World) (h : ConnAt w c n) : Calls Tryz.prog 7 #[.pointer (some ⟨c, 0, none⟩)] w fun e w' => e = .returned (.int .i64 0) ∧ w = w' := by
  have K := mayOpen_in c n w h
  clear h
  go_enter Tryz.func7, Tryz.ntmps7
  go_wp2_with (go_at_call 25; refine K.mono ?_; clear K; rintro e w' ⟨rfl, rfl⟩)
  go_ret
  exact ⟨rfl, rfl⟩
theorem Failed15_in (c n : Nat) (w : World) (h : ConnAt w c n) : Calls Tryz.prog 9 #[.pointer (some ⟨c, 0, none⟩)] w fun e w' => e = .returned (.int .i64 (-1)) ∧ w = w' := by
  obtain ⟨c0, c8, c10⟩ := h.cells
  have K := isMade_in c w c0
  clear c0 c10 h
  go_enter Tryz.func9, Tryz.ntmps9
  go_wp2_with (go_at_call 29; refine K.mono ?_; clear K; rintro e w' ⟨rfl, rfl⟩)
  go_ret
  exact ⟨rfl, rfl⟩
theorem Streams15_in (c n : Nat) (w : World) (h : ConnAt w c n) : Calls Tryz.prog 8 #[.pointer (some ⟨c, 0, none⟩)] w fun e w' => e = .returned (.slice none 0 0) ∧ Fr (fun _ => False) w w' := by
  obtain ⟨c0, c8, c10⟩ := h.cells
  have K := works_in c w c0 c8
  obtain ⟨V, g, mb, mF, a, cc, h1, h2, h3, h4, h5, h6, h7, h8, h9⟩ := h
  have c19 : w.cell? ⟨c, 19, none⟩ = some (.pointer (some ⟨g, 0, none⟩)) := cell_of_heap h1 h5
  have KL := List_none g mb w h8
  clear c0 c8 c10 h1 h2 h3 h4 h5 h6 h7 h8 h9
  go_enter Tryz.func8, Tryz.ntmps8
  go_wp2_with (first | (go_at_call 24; refine K.mono ?_; clear K; rintro e w' ⟨rfl, rfl⟩) | (go_at_call 28; refine KL.mono ?_; clear KL; rintro e w' ⟨rfl, hf⟩))
  go_ret
  exact ⟨rfl, hf⟩
theorem Waiting_in (c n : Nat) (w : World) (h : ConnAt w c n) (hn : n ≤ 100000000) : Calls Tryz.prog 23 #[.pointer (some ⟨c, 0, none⟩)] w fun e w' => e = .returned (.int .i64 (n : Int)) ∧ Fr (fun _ => False) w w' := by
  obtain ⟨c0, c8, c10⟩ := h.cells
  have K := isMade_in c w c0
  obtain ⟨V, g, mb, mF, a, cc, h1, h2, h3, h4, h5, h6, h7, h8, h9⟩ := h
  have c20 : w.cell? ⟨c, 20, none⟩ = some (.map (some mF)) := cell_of_heap h1 h6
  have c23 : w.cell? ⟨c, 23, none⟩ = some (.slice a n cc) := cell_of_heap h1 h7
  obtain ⟨D, hown, hD⟩ := reads_of h9
  have HD : Hid (Reads D (fun _ => none)) := hD
  clear c0 c8 c10 h1 h2 h3 h4 h5 h6 h7 h8 h9 hD
  go_enter Tryz.func23, Tryz.ntmps23
  go_wp2_with (first
    | (go_at_call 29; refine K.mono ?_; clear K; rintro e w1 ⟨rfl, rfl⟩)
    | (at_range; refine wpList_range_own _ rfl _ 33 rfl 3 118 keyI Tryz.underlying33 Raw mF 0 D rfl hown ?_; intro w2 hrg2 hg2 hs2)
    | go_in)
  go_frame
  have F2 : Fr (fun _ => False) w w2 := grown_fr0 hg2
  clear hown hg2 hs2
  go_loopw [3] (fun s3 wr => s3 = .int .i64 (n : Int) ∧ wr = w2) (fun _ wr => 0)
  case atStart => exact ⟨rfl, rfl⟩
  case round =>
    obtain ⟨rfl, rfl⟩ := hrel
    go_wp2_with (first
      | (at_next; refine wpList_next_map rfl _ rfl (fun _ => none) (fun _ => .pointer none) (fun x v h => nomatch h) mF w.heap.size 0 D HD.out _ _ rfl hrg2 ?_ ?_)
      | go_in)
    · intro hl
      go_wp2
      go_ret
      exact ⟨rfl, F2⟩
end Go.Proofs.YtpjbgjgaigkbcaaGreat
