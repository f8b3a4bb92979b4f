/- The program's streams: List. -/
import Derived.Test.YtahlhkpabkplfaaYk
import Derived.Test.YtahlhkpabkplfaaYt
import Derived.Test.YtahlhkpabkplfaaA1
namespace Go.Proofs.Ytahlhkpabkplfaa
open Go.RowKit Go.Maps Go.Sort Go.Shelf
set_option linter.unusedVariables false
set_option maxRecDepth 100000
set_option maxHeartbeats 4000000

/-- The numbers of those that are known, as values. -/
def listV (S : Stm) : List Value := (S.L.map (·.1)).map (Value.int .i64)
theorem ysorts (m : Nat) : AnyZI.SortsIn Try.prog ysortedA_ren Fence.wide m :=
  ⟨fun blk off cap ss W hH hblk hsz => callsIn_wide.2 (AnyM.slices_Sort_int ysortA blk off cap ss W hH hblk hsz),
   fun p cap W => callsIn_wide.2 (AnyM.slices_Sort_int_none ysortA p cap W)⟩
theorem map_keys {w : World} {b n : Nat} {L : List (Int × Int)} (h : MapAt w b n (mapL L)) (hr : L.Pairwise (fun x y => x.1 < y.1)) : ∃ D : DataW Value, w.ownsMap Try.prog 3 Raw b n D ∧ Maps.size D = L.length ∧ (L.map (·.1)).Perm (intKeys D) := by
  obtain ⟨D1, h1, hsz⟩ := h.size (L.map (·.1)) (keys_nodup hr) (mapL_some L)
  obtain ⟨D, h, hM⟩ := h
  have e0 : D1 = D := by
    obtain ⟨es, clock, hb, F, hs, hD⟩ := id h
    obtain ⟨es', clock', hb', F', hs', hD'⟩ := h1
    rw [hb] at hb'
    cases hb'
    rw [hD, hD']
  subst e0
  refine ⟨D1, h, by rw [hsz]; simp, ?_⟩
  obtain ⟨E, rfl, hpw, hlit⟩ := h.entries keyI
  have hints : ∀ p ∈ E, ∃ x, p.1 = .int .i64 x := by
    obtain ⟨es, clock, hb, F, hs, hD⟩ := h
    have hE : E = (es.toList.map (Go.WideElems.rg Try.prog 3 Raw)).foldr DataW.insert [] := by cases hD; rfl
    intro p hp
    rw [hE] at hp
    obtain ⟨v, hv⟩ := fit_keys F p (mem_sorted.1 hp)
    obtain ⟨x, -, hx, -⟩ := Maps.keyOf_int_inv Try.underlying3 hv
    exact ⟨x, hx⟩
  refine perm_intKeys hpw hints (keys_nodup hr) fun x => ?_
  rw [(hM x).2]
  exact (mapL_some L x).symm
theorem sorted_same {ss ks : List Int} (h : ss.Perm ks) (hk : ks.Pairwise (fun x y => x < y)) : ss.mergeSort (fun x y => decide (x ≤ y)) = ks := by
  have tr : ∀ a b c : Int, leI a b = true → leI b c = true → leI a c = true := fun a b c h1 h2 => by simp only [leI, decide_eq_true_eq] at *; exact Int.le_trans h1 h2
  have to : ∀ a b : Int, (leI a b || leI b a) = true := fun a b => by simp only [leI, Bool.or_eq_true, decide_eq_true_eq]; exact Int.le_total a b
  refine List.Perm.eq_of_pairwise (le := fun a b => leI a b = true) (fun a b _ _ h1 h2 => ?_) (List.pairwise_mergeSort tr to ss) (hk.imp (fun h => by simp only [leI, decide_eq_true_eq]; omega)) ((List.mergeSort_perm ss leI).trans h)
  simp only [leI, decide_eq_true_eq] at h1 h2
  exact Int.le_antisymm h1 h2
theorem ySorted_in (b : Nat) (L : List (Int × Int)) (w : World) (h : MapAt w b L.length (mapL L)) (hr : L.Pairwise (fun x y => x.1 < y.1)) (hl : L.length ≤ 2048) :
    Calls Try.prog 46 #[.func (.func 56) #[] #[.pointer (some ⟨w.heap.size, 0, none⟩)]] (w.alloc (.cells #[.map (some b)] 55)) fun e w' => ∃ v, e = .returned v ∧ OwnAt w' 3 v ((L.map (·.1)).map (Value.int .i64)) ∧ (∀ k, v.ownBlock = some k → w.heap.size ≤ k) ∧ Fr (fun _ => False) w w' := by
  obtain ⟨D0, hown, hsz, hpm⟩ := map_keys h hr
  have hbl := hown.lt
  have hseq : SeqGives Fence.wide 2 Try.prog 56 #[.pointer (some ⟨w.heap.size, 0, none⟩)] encZ (fun ss => ss.Perm (intKeys D0)) (Maps.size D0) (w.alloc (.cells #[.map (some b)] 55)) :=
    AnyZI.keys_gives (ρ := ykeysA_ren) { ykeysA with } Fence.wide _ trivial rfl (by omega) w.heap.size b _ D0 _ (by simp) (by simp) (by
      obtain ⟨es, clock, hb, Ft, hs, hD⟩ := hown
      exact ⟨es, clock, (Below.heap_alloc _ _ b hbl).trans hb, Ft, hs, hD⟩)
  have cS := AnyZI.sorted_in ysortedA Fence.wide 5 trivial trivial trivial trivial rfl (by omega) (ysorts _) (enters_of Try.func55 (by kernel_rfl) rfl) 56 #[.pointer (some ⟨w.heap.size, 0, none⟩)] trivial (enters_of Try.func56 (by kernel_rfl) rfl) _ _ (by rw [hsz]; unfold maxLen; omega) (by rw [hsz]; omega) _ hseq
  change CallsIn _ _ Try.prog 46 _ _ _ at cS
  refine (callsIn_wide.1 cS).mono ?_
  rintro e w' ⟨v, ss, rfl, hS, hrow, hnil, hb⟩
  have hks : (L.map (·.1)).Pairwise (fun x y => x < y) := List.pairwise_map.2 hr
  have e1 := sorted_same (hS.trans hpm.symm) hks
  rw [e1] at hrow
  have hlen : ss.length = (L.map (·.1)).length := (hS.trans hpm.symm).length_eq
  refine ⟨v, rfl, ?_, fun k hk => ?_, ((Fr.refl _ _).alloc _).trans (Fr.of_below hb)⟩
  · obtain ⟨h1, h2 | ⟨g, cap, cur, rfl, h3, h4, h5, h6, h7, h8⟩⟩ := hrow
    · obtain ⟨rfl, h2⟩ := h2
      refine .inl ⟨rfl, ?_⟩
      rw [h2] at hlen
      have : L.map (·.1) = [] := List.eq_nil_of_length_eq_zero hlen.symm
      rw [this]
      rfl
    · refine .inr ⟨g, 0, cap, cur, ?_, h4, by omega, ?_, h6, ?_⟩
      · rw [hlen]; simp
      · rw [hlen] at h5; simpa using h5
      · rw [List.drop_zero]
        rw [hlen] at h8
        simpa using h8
  · have := (hrow.lt k hk).1
    simp at this
    omega
theorem yList_in (g mb : Nat) (S : Stm) (w : World) (h : YAt w g mb S) : Calls Try.prog 24 #[.pointer (some ⟨g, 0, none⟩)] w fun e w' => ∃ v, e = .returned v ∧ OwnAt w' 3 v (listV S) ∧ (∀ k, v.ownBlock = some k → w.heap.size ≤ k) ∧ Fr (fun _ => False) w w' := by
  obtain ⟨rg, nx, h1, h2, h3, h4⟩ := h
  have K := ymade_in g _ w h1
  obtain ⟨c0, -⟩ := h1.cells
  dsimp only [ysOf] at c0
  have KK : Calls Try.prog 47 #[.map (some mb)] w fun e w' => e = .returned (.func (.func 56) #[] #[.pointer (some ⟨w.heap.size, 0, none⟩)]) ∧ w' = w.alloc (.cells #[.map (some mb)] 55) := callsIn_wide.1 (AnyZI.keys_in ykeysA Fence.wide 5 trivial rfl (some mb) w)
  have KS := ySorted_in mb S.L w h3 h4.rise (few_known h4)
  clear h1 h2 h3 h4
  go_enter Try.func24, Try.ntmps24
  go_wp2_with (first | (go_at_call 37; refine K.mono ?_; clear K; rintro e w' ⟨rfl, rfl⟩) | (go_at_call 47; refine KK.mono ?_; clear KK; rintro e w' ⟨rfl, rfl⟩) | (go_at_call 46; refine KS.mono ?_; clear KS; rintro e w' ⟨v, rfl, a1, a2, a3⟩))
  go_ret
  exact ⟨v, rfl, a1, a2, a3⟩
end Go.Proofs.Ytahlhkpabkplfaa
