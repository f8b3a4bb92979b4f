/- One known stream is changed, or goes: the rows of the document's. -/
import Derived.Test.YtahlhkpabkplfaaVd
namespace Go.Proofs.Ytahlhkpabkplfaa
open Go.RowKit
set_option linter.unusedVariables false
set_option maxRecDepth 100000
set_option maxHeartbeats 4000000

theorem set_at : ∀ {L : List (Int × Int)} {i : Nat} {y : Int × Int} {d : Int} (n : Int), L.Pairwise (fun x y => x.1 < y.1) → L[i]? = some y → y.1 = d → L.set i (y.1, n) = setL d n L
  | [], i, y, d, n, _, h, _ => by simp at h
  | x :: r, 0, y, d, n, hp, h, hd => by
    obtain ⟨h1, h2⟩ := List.pairwise_cons.1 hp
    simp at h
    subst h
    have e : r.map (fun z => if z.1 = d then (d, n) else z) = r := by
      conv => rhs; rw [← List.map_id r]
      refine List.map_congr_left fun z hz => ?_
      have := h1 z hz
      rw [if_neg (by omega)]
      rfl
    unfold setL
    rw [List.map_cons, if_pos hd, e, hd]
    rfl
  | x :: r, i + 1, y, d, n, hp, h, hd => by
    obtain ⟨h1, h2⟩ := List.pairwise_cons.1 hp
    have h' : r[i]? = some y := by simpa using h
    have := h1 y (List.mem_of_getElem? h')
    have ih := set_at n h2 h' hd
    unfold setL at ih ⊢
    rw [List.map_cons, if_neg (by omega), ← ih]
    rfl
theorem del_at : ∀ {L : List (Int × Int)} {i : Nat} {y : Int × Int} {d : Int}, L.Pairwise (fun x y => x.1 < y.1) → L[i]? = some y → y.1 = d → L.take i ++ L.drop (i + 1) = L.filter (fun x => x.1 ≠ d)
  | [], i, y, d, _, h, _ => by simp at h
  | x :: r, 0, y, d, hp, h, hd => by
    obtain ⟨h1, h2⟩ := List.pairwise_cons.1 hp
    simp at h
    subst h
    have e : r.filter (fun x => x.1 ≠ d) = r := by
      rw [List.filter_eq_self]
      intro z hz
      have := h1 z hz
      simp
      omega
    rw [List.filter_cons, if_neg (by simp [hd]), e]
    rfl
  | x :: r, i + 1, y, d, hp, h, hd => by
    obtain ⟨h1, h2⟩ := List.pairwise_cons.1 hp
    have h' : r[i]? = some y := by simpa using h
    have := h1 y (List.mem_of_getElem? h')
    have ih := del_at h2 h' hd
    rw [List.filter_cons, if_pos (by simp; omega), ← ih]
    rfl
theorem ycut_from (P : Program) (t e : TypeId) (ht : P.underlying t = some (.slice e)) (hsz : (P.info? e).map (·.size) = some 2) (a : Addr) (len cap k : Nat) (hl : k ≤ len) (hk : k < 9223372036854775807) :
    ∃ dp, (∀ w, (Instr.slice t (.slice (some a) len cap) (some (.int .i64 (k : Int))) none none).run P w = .ok (.slice dp (len - k) (cap - k)) w) ∧ (k < cap → dp = some (a.add (k * 2))) := by
  refine ⟨if cap = k then some a else some (a.add (k * 2)), fun w => ?_, fun h => by rw [if_neg (by omega)]⟩
  have hb := run_sliceBound (P := P) (w := w) .i64 (k : Int) len .sliceB (by omega) (by omega)
  cases hi : P.info? e with
  | none => simp [hi] at hsz
  | some i =>
  have h1 : i.size = 2 := by simpa [hi] using hsz
  simp [Instr.slice, run_underlying ht, Instr.sliceBounds, hb, sizeOf, typeInfo, hi, h1]
theorem ycut_to (P : Program) (t e : TypeId) (ht : P.underlying t = some (.slice e)) (hsz : (P.info? e).map (·.size) = some 2) (a : Addr) (len cap k : Nat) (hl : k ≤ cap) (hk : k < 9223372036854775807) (hc : 0 < cap) (h0 : a.add 0 = a) :
    ∀ w, (Instr.slice t (.slice (some a) len cap) none (some (.int .i64 (k : Int))) none).run P w = .ok (.slice (some a) k cap) w := by
  intro w
  have hb := run_sliceBound (P := P) (w := w) .i64 (k : Int) cap .sliceAcap (by omega) (by omega)
  cases hi : P.info? e with
  | none => simp [hi] at hsz
  | some i =>
  have hc1 : ¬ cap = 0 := by omega
  simp [Instr.slice, run_underlying ht, Instr.sliceBounds, hb, sizeOf, typeInfo, hi, hc1, h0]
end Go.Proofs.Ytahlhkpabkplfaa
