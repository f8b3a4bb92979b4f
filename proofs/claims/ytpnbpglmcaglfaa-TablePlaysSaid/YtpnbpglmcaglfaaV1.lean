/- The walk of TableBound. -/
import Derived.Test.YtpnbpglmcaglfaaU6
import Derived.Test.YtpnbpglmcaglfaaL1
namespace Go.Proofs.Ytpnbpglmcaglfaa
open Go.RowKit
set_option maxRecDepth 100000
set_option maxHeartbeats 8000000
set_option linter.unusedVariables false

/-- A table that was made since w0: its blocks are new, all that was there is as it was. -/
structure Tab0 (w0 w : World) (t : Nat) (v : Value) (m : Nat) (E : List (ByteArray × ByteArray)) : Prop where
  tab : TabIs w t v m E
  lt : w0.heap.size ≤ t
  own : ∀ k, v.ownBlock = some k → w0.heap.size ≤ k
  fr : Below w0.heap.size w0 w
  most : m ≤ 65536
  fits : total E ≤ m
theorem Tab0.below {w0 w w' : World} {t : Nat} {v : Value} {m : Nat} {E : List (ByteArray × ByteArray)} (h : Tab0 w0 w t v m E) (b : Below w.heap.size w w') : Tab0 w0 w' t v m E :=
  ⟨h.tab.kept (S := fun _ => False) (Fr.of_below b) (fun _ _ => id), h.lt, h.own, h.fr.trans (b.mono h.fr.size), h.most, h.fits⟩
theorem Tab0.alloc {w0 w : World} {t : Nat} {v : Value} {m : Nat} {E : List (ByteArray × ByteArray)} (h : Tab0 w0 w t v m E) (o : Obj) : Tab0 w0 (w.alloc o) t v m E := h.below ((Below.refl _ w).alloc (Nat.le_refl _) o)
theorem Tab0.turn {w0 w w' : World} {t : Nat} {v : Value} {m : Nat} {E : List (ByteArray × ByteArray)} (h : Tab0 w0 w t v m E) (f : Fr (fun k => k = t ∨ v.ownBlock = some k) w w') : Below w0.heap.size w0 w' :=
  h.fr.trans ⟨f.os, f.tape, f.output, f.size, fun k hk => f.block k (Nat.lt_of_lt_of_le hk h.fr.size) (fun hs => by
    rcases hs with rfl | hs
    · have := h.lt; omega
    · have := h.own k hs; omega)⟩
theorem Tab0.len {w0 w : World} {t : Nat} {v : Value} {m : Nat} {E : List (ByteArray × ByteArray)} (h : Tab0 w0 w t v m E) : E.length ≤ 2048 := by
  have := total_len E; have := h.fits; have := h.most; omega
theorem Tab0.new (w : World) (m : Nat) (hm : m ≤ 65536) : Tab0 w (w.alloc (.cells #[.bool true, .int .i64 (m : Int), .int .i64 0, .slice none 0 0] 55)) w.heap.size (.slice none 0 0) m [] :=
  ⟨⟨heap_alloc_new w _, rfl, .inl ⟨rfl, rfl⟩⟩, Nat.le_refl _, (fun k hk => by cases hk), (Below.refl _ w).alloc (Nat.le_refl _) _, hm, by simp [total]⟩
/-- Add and Resize, in these words. -/
theorem Add0 {w0 w : World} {t : Nat} {v : Value} {m : Nat} {E : List (ByteArray × ByteArray)} (h : Tab0 w0 w t v m E) (n u : ByteArray) (s : Bool) (hn : n.size < 2 ^ 47) (hu : u.size < 2 ^ 47) :
    Calls Try.prog 18 #[.pointer (some ⟨t, 0, none⟩), .agg #[.string n, .string u, .bool s]] w fun e w' => e = .returned (.int .i64 0) ∧ ∃ v', Tab0 w0 w' t v' m (added m E (n, u)) ∧ Fr (fun k => k = t ∨ v.ownBlock = some k) w w' ∧ (∀ k, v'.ownBlock = some k → v.ownBlock = some k ∨ w.heap.size ≤ k) := by
  refine (Add_in t m v E n u s w h.tab h.most (Nat.le_trans h.fits h.most) hn hu).mono ?_
  rintro e w' ⟨rfl, v', a1, a2, a3⟩
  exact ⟨rfl, v', ⟨a1, h.lt, fun k hk => (a2 k hk).elim (h.own k) (fun hl => Nat.le_trans h.fr.size hl), h.turn a3, h.most, added_fits m E (n, u)⟩, a3, a2⟩
theorem Resize0 {w0 w : World} {t : Nat} {v : Value} {m : Nat} {E : List (ByteArray × ByteArray)} (h : Tab0 w0 w t v m E) (n : Int) :
    Calls Try.prog 21 #[.pointer (some ⟨t, 0, none⟩), .int .i64 n] w fun e w' => e = .returned (.int .i64 (if 0 ≤ n ∧ n ≤ 65536 then 0 else 1)) ∧ ∃ v', Tab0 w0 w' t v' (if 0 ≤ n ∧ n ≤ 65536 then n.toNat else m) (if 0 ≤ n ∧ n ≤ 65536 then fallen n E else E) ∧ Fr (fun k => k = t ∨ v.ownBlock = some k) w w' ∧ v'.ownBlock = v.ownBlock := by
  by_cases hn : 0 ≤ n ∧ n ≤ 65536
  · obtain ⟨k, rfl⟩ : ∃ k : Nat, n = (k : Int) := ⟨n.toNat, by omega⟩
    rw [if_pos hn, if_pos hn, if_pos hn]
    refine (Resize_in t m k v E w h.tab (by omega) (by have := h.fits; have := h.most; omega)).mono ?_
    rintro e w' ⟨rfl, v', a1, a2, a3⟩
    have hf := fallen_fits (k : Int) E (by omega)
    exact ⟨rfl, v', ⟨a1, h.lt, fun k hk => h.own k (by rw [← a2]; exact hk), h.turn a3, by show k ≤ 65536; omega, by show total (fallen (k : Int) E) ≤ k; omega⟩, a3, a2⟩
  · rw [if_neg hn, if_neg hn, if_neg hn]
    refine (Resize_bad t m v E n w h.tab hn).mono ?_
    rintro e w' ⟨rfl, rfl⟩
    exact ⟨rfl, v, h, Fr.refl _ _, rfl⟩
/-- Entry 62 behind Add. -/
theorem Get62 {w0 w : World} {t : Nat} {v : Value} {m : Nat} {E : List (ByteArray × ByteArray)} (n u : ByteArray) (h : Tab0 w0 w t v m (added m E (n, u))) :
    Calls Try.prog 19 #[.pointer (some ⟨t, 0, none⟩), .int .i64 62] w fun r w' => r = .returned (.tuple #[.agg #[.string (if m < esz (n, u) then ⟨#[]⟩ else n), .string (if m < esz (n, u) then ⟨#[]⟩ else u), .bool false], .int .i64 (if m < esz (n, u) then 50 else 0)]) ∧ Below w.heap.size w w' := by
  have hl := h.len
  by_cases hm : m < esz (n, u)
  · rw [if_pos hm, if_pos hm, if_pos hm]
    have he : added m E (n, u) = [] := by rw [added, if_pos hm]; exact fallen_neg _ _ (by omega)
    rw [he] at h
    exact Get_none t m v [] 62 w h.tab (by simp) (by omega)
  · rw [if_neg hm, if_neg hm, if_neg hm]
    obtain ⟨F, hF⟩ : ∃ F, added m E (n, u) = F ++ [(n, u)] := ⟨_, by rw [added, if_neg hm]⟩
    rw [hF] at h hl
    have := Get_some t m v (F ++ [(n, u)]) 0 (n, u) w h.tab (by simp) (by simp) (by omega)
    simpa using this
/-- The entry k places behind the newest. -/
theorem Get0 {w0 w : World} {t : Nat} {v : Value} {m : Nat} {E : List (ByteArray × ByteArray)} (h : Tab0 w0 w t v m E) (k : Nat) (e : ByteArray × ByteArray) (hk : k < E.length) (he : E[E.length - 1 - k]? = some e) :
    Calls Try.prog 19 #[.pointer (some ⟨t, 0, none⟩), .int .i64 (62 + (k : Int))] w fun r w' => r = .returned (.tuple #[.agg #[.string e.1, .string e.2, .bool false], .int .i64 0]) ∧ Below w.heap.size w w' := by
  have := Get_some t m v E k e w h.tab hk he (by have := h.len; omega)
  rwa [Int.add_comm] at this
theorem Len0 {w0 w : World} {t : Nat} {v : Value} {m : Nat} {E : List (ByteArray × ByteArray)} (h : Tab0 w0 w t v m E) :
    Calls Try.prog 22 #[.pointer (some ⟨t, 0, none⟩)] w fun e w' => e = .returned (.int .i64 (E.length : Int)) ∧ w' = w := by
  obtain ⟨q, cap, rfl⟩ := h.tab.form
  exact tLen_in t m _ q E.length cap w h.tab.at_
theorem OpsAt.later {w w' : World} {q : Option Addr} {n b o : Nat} {O : Nat → Int × Int × ByteArray × ByteArray × Bool} (h : OpsAt w q n b o O) (f : Below w.heap.size w w') : OpsAt w' q n b o O := by
  refine ⟨h.addr, h.few, fun r hr => ?_⟩
  obtain ⟨hb, h0, h1, h2, h3, h4, h5⟩ := h.cells r hr
  have hc : ∀ j, w'.cell? ⟨b, j, none⟩ = w.cell? ⟨b, j, none⟩ := fun j => f.cell (p := ⟨b, j, none⟩) hb
  exact ⟨Nat.lt_of_lt_of_le hb f.size, (hc _).trans h0, (hc _).trans h1, (hc _).trans h2, (hc _).trans h3, (hc _).trans h4, h5⟩
end Go.Proofs.Ytpnbpglmcaglfaa
