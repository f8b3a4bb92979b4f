/- Contracts of package chunk's Ring: the small ones, and lay. -/
import Derived.Test.YtibiiagdhdmpiaaRows
import Derived.Test.YtibiiagdhdmpiaaCa
import Derived.WalkKit
import Derived.RegionTactic
import Derived.BigQuiet
import Derived.Deep.QuietTactic
import Derived.WalkLawsBesides
namespace Go.Proofs.Ytibiiagdhdmpiaa
open Go.RowKit

theorem room_any (b : Nat) (held limit : Int) (w : World) (c0 : w.cell? ⟨b, 0, none⟩ = some (.int .i64 held)) (c3 : w.cell? ⟨b, 3, none⟩ = some (.int .i64 limit)) (h0 : 0 ≤ held) (h1 : held ≤ limit) (h2 : limit ≤ 1048576) :
    Calls Try.prog 34 #[.pointer (some ⟨b, 0, none⟩)] w fun e w' => e = .returned (.int .i64 (limit - held)) ∧ ∃ n, w' = w.drewN n := by
  go_enter Try.func34, Try.ntmps34
  go_wp2
  go_quiet (fail)
  go_wp2
  go_ret
  exact ⟨rfl, _, rfl⟩

theorem len_any (b : Nat) (held : Int) (w : World) (c0 : w.cell? ⟨b, 0, none⟩ = some (.int .i64 held)) :
    Calls Try.prog 33 #[.pointer (some ⟨b, 0, none⟩)] w fun e w' => e = .returned (.int .i64 held) ∧ w' = w := by
  go_enter Try.func33, Try.ntmps33
  go_wp2
  go_ret
  exact ⟨rfl, rfl⟩

theorem ret_int {k : IntKind} {a b : Int} (h : a = b) : Ending.returned (.int k a) = .returned (.int k b) := by rw [h]

theorem atMost_any (b : Nat) (n held : Int) (w : World) (c0 : w.cell? ⟨b, 0, none⟩ = some (.int .i64 held)) :
    Calls Try.prog 46 #[.pointer (some ⟨b, 0, none⟩), .int .i64 n] w fun e w' => e = .returned (.int .i64 (max 0 (min n held))) ∧ w' = w := by
  by_cases h1 : held < n
  · by_cases h2 : 0 < held
    · go_enter Try.func46, Try.ntmps46
      go_wp2
      go_ret
      exact ⟨ret_int (by omega), rfl⟩
    · go_enter Try.func46, Try.ntmps46
      go_wp2
      go_ret
      exact ⟨ret_int (by omega), rfl⟩
  · by_cases h2 : 0 < n
    · go_enter Try.func46, Try.ntmps46
      go_wp2
      go_ret
      exact ⟨ret_int (by omega), rfl⟩
    · go_enter Try.func46, Try.ntmps46
      go_wp2
      go_ret
      exact ⟨ret_int (by omega), rfl⟩

theorem place_lt (b : Nat) (k first : Int) (a : Option Addr) (len cap : Nat) (w : World) (c2 : w.cell? ⟨b, 2, none⟩ = some (.int .i64 first)) (c1 : w.cell? ⟨b, 1, none⟩ = some (.slice a len cap)) (h0 : 0 ≤ first) (h1 : 0 ≤ k) (h2 : first + k < len) (h3 : len ≤ 1048576) :
    Calls Try.prog 45 #[.pointer (some ⟨b, 0, none⟩), .int .i64 k] w fun e w' => e = .returned (.int .i64 (first + k)) ∧ w' = w := by
  go_enter Try.func45, Try.ntmps45
  go_wp2
  go_ret
  exact ⟨rfl, rfl⟩

theorem place_ge (b : Nat) (k first : Int) (a : Option Addr) (len cap : Nat) (w : World) (c2 : w.cell? ⟨b, 2, none⟩ = some (.int .i64 first)) (c1 : w.cell? ⟨b, 1, none⟩ = some (.slice a len cap)) (h0 : 0 ≤ first) (h1 : 0 ≤ k) (h2 : (len : Int) ≤ first + k) (h3 : len ≤ 1048576) (h4 : first ≤ 1048576) (h5 : k ≤ 1048576) :
    Calls Try.prog 45 #[.pointer (some ⟨b, 0, none⟩), .int .i64 k] w fun e w' => e = .returned (.int .i64 (first + k - len)) ∧ w' = w := by
  go_enter Try.func45, Try.ntmps45
  go_wp2
  go_ret
  exact ⟨rfl, rfl⟩

theorem place_any (b : Nat) (k first : Nat) (a : Option Addr) (len cap : Nat) (w : World) (c2 : w.cell? ⟨b, 2, none⟩ = some (.int .i64 first)) (c1 : w.cell? ⟨b, 1, none⟩ = some (.slice a len cap)) (h3 : len ≤ 1048576) (h4 : first ≤ 1048576) (h5 : k ≤ 1048576) :
    Calls Try.prog 45 #[.pointer (some ⟨b, 0, none⟩), .int .i64 k] w fun e w' => e = .returned (.int .i64 (placeOf first k len : Nat)) ∧ w' = w := by
  by_cases h : first + k < len
  · refine (place_lt b k first a len cap w c2 c1 (by omega) (by omega) (by omega) h3).mono ?_
    rintro e w' ⟨rfl, rfl⟩
    exact ⟨ret_int (by simp [placeOf, h]), rfl⟩
  · refine (place_ge b k first a len cap w c2 c1 (by omega) (by omega) (by omega) h3 (by omega) (by omega)).mono ?_
    rintro e w' ⟨rfl, rfl⟩
    exact ⟨ret_int (by simp [placeOf, h]; omega), rfl⟩

/-- The slice value 'sv' is nil, or the whole of the row 'cur', which lies in a block of its own. -/
def RowIs (w : World) (b : Nat) (sv : Value) (cur : List UInt8) : Prop :=
  (sv = .slice none 0 0 ∧ cur = []) ∨ ∃ g, sv = .slice (some ⟨g, 0, none⟩) cur.length cur.length ∧ g ≠ b ∧ 0 < cur.length ∧ w.heap[g]? = some (.cells (bv cur).toArray 5 (0, 0))

end Go.Proofs.Ytibiiagdhdmpiaa
