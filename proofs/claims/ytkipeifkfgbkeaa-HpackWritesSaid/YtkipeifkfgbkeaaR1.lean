/- Contract of the document's rows (aqueductref03.rows). -/
import Derived.Test.YtkipeifkfgbkeaaK4
import Derived.Test.YtkipeifkfgbkeaaK5
import Derived.Great.BuildSlice
import Derived.Great.Walk
namespace Go.Proofs.Ytkipeifkfgbkeaa
open Go.RowKit
set_option maxRecDepth 100000
set_option maxHeartbeats 4000000
set_option linter.unusedVariables false

/-- The table with the end. -/
def tblR : List (Nat × List Nat) := tbl.take 20 ++ [(30, [10, 13, 22, 256])]
def ints (l : List Nat) : List Value := l.map fun (s : Nat) => .int .i64 (s : Int)
def outerR : Nat → List (Nat × List Nat) → List Value
  | _, [] => []
  | n, r :: t => .int .i64 (r.1 : Int) :: .slice (some ⟨n, 0, none⟩) r.2.length r.2.length :: outerR (n + 1) t
def laidR : World → List (Nat × List Nat) → World
  | w, [] => w
  | w, r :: t => laidR (w.alloc (.cells (ints r.2).toArray 3)) t
theorem laidR_keep : ∀ (t : List (Nat × List Nat)) (w : World) (k : Nat) (o : Obj), w.heap[k]? = some o → (laidR w t).heap[k]? = some o := by
  intro t
  induction t with
  | nil => intro w k o h; exact h
  | cons r t ih => intro w k o h; exact ih _ k o (past_at _ h)
theorem laidR_heap : ∀ (t : List (Nat × List Nat)) (w : World) (k : Nat) (r : Nat × List Nat), t[k]? = some r → (laidR w t).heap[w.heap.size + k]? = some (.cells (ints r.2).toArray 3) := by
  intro t
  induction t with
  | nil => intro w k r h; simp at h
  | cons q t ih =>
    intro w k r h
    cases k with
    | zero => simp at h; subst h; exact laidR_keep t _ _ _ (last_at _ rfl)
    | succ k =>
      have := ih (w.alloc (.cells (ints q.2).toArray 3)) k r (by simpa using h)
      rw [show (w.alloc (.cells (ints q.2).toArray 3)).heap.size + k = w.heap.size + (k + 1) from by simp; omega] at this
      exact this
theorem laidR_fr : ∀ (t : List (Nat × List Nat)) (w0 w : World), Fr (fun _ => False) w0 w → Fr (fun _ => False) w0 (laidR w t) := by
  intro t
  induction t with
  | nil => intro w0 w h; exact h
  | cons r t ih => intro w0 w h; exact ih w0 _ (h.alloc _)
theorem laidR_size : ∀ (t : List (Nat × List Nat)) (w : World), (laidR w t).heap.size = w.heap.size + t.length := by
  intro t
  induction t with
  | nil => intro w; rfl
  | cons r t ih => intro w; rw [laidR, ih]; simp; omega
theorem outerR_get : ∀ (t : List (Nat × List Nat)) (n k : Nat) (r : Nat × List Nat), t[k]? = some r → (outerR n t)[k * 2]? = some (.int .i64 (r.1 : Int)) ∧ (outerR n t)[k * 2 + 1]? = some (.slice (some ⟨n + k, 0, none⟩) r.2.length r.2.length) := by
  intro t
  induction t with
  | nil => intro n k r h; simp at h
  | cons q t ih =>
    intro n k r h
    cases k with
    | zero => simp at h; subst h; simp [outerR]
    | succ k =>
      have := ih (n + 1) k r (by simpa using h)
      rw [show (k + 1) * 2 = k * 2 + 2 from by omega, show k * 2 + 2 + 1 = k * 2 + 1 + 2 from by omega, show n + (k + 1) = n + 1 + k from by omega]
      simpa [outerR] using this

/-- The document's table lies at block n. -/
def RT (w : World) (n : Nat) : Prop := ∀ k r, tblR[k]? = some r → w.cell? ⟨n, k * 2, none⟩ = some (.int .i64 (r.1 : Int)) ∧
  ∃ m, w.cell? ⟨n, k * 2 + 1, none⟩ = some (.slice (some ⟨m, 0, none⟩) r.2.length r.2.length) ∧ ∀ (j s : Nat), r.2[j]? = some s → w.cell? ⟨m, j, none⟩ = some (.int .i64 (s : Int))

theorem info3 : (Try.prog.info? 3).map (·.size) = some 1 ∧ ((Try.prog.info? 3).bind (·.zero)).isSome = true := ⟨by kernel_rfl, by kernel_rfl⟩

theorem rrows_raw (w : World) : Calls Try.prog 62 #[] w fun e w' => e = .returned (.slice (some ⟨w.heap.size + 21, 0, none⟩) 21 21) ∧ w' = (laidR w tblR).alloc (.cells (outerR w.heap.size tblR).toArray 113) := by
  go_enter Try.func62, Try.ntmps62
  go_wp2_with (first
    | (refine wpList_buildFlatAt rfl 111 3 10 _ rfl .i64 [48, 49, 50, 97, 99, 101, 105, 111, 115, 116] (w.heap.size) (by simp) (some 1) rfl Try.underlying111 info3.1 info3.2 rfl (by decide) (by decide) rfl ?_)
    | (refine wpList_buildTo rfl 113 _ rfl (some 2) rfl #[.int .i64 5, .slice (some ⟨w.heap.size, 0, none⟩) 10 10] (by kernel_rfl) ?_)
    | (refine wpList_buildFlatAt rfl 111 3 26 _ rfl .i64 [32, 37, 45, 46, 47, 51, 52, 53, 54, 55, 56, 57, 61, 65, 95, 98, 100, 102, 103, 104, 108, 109, 110, 112, 114, 117] (w.heap.size + 1) (by simp) (some 3) rfl Try.underlying111 info3.1 info3.2 rfl (by decide) (by decide) rfl ?_)
    | (refine wpList_buildTo rfl 113 _ rfl (some 4) rfl #[.int .i64 6, .slice (some ⟨w.heap.size + 1, 0, none⟩) 26 26] (by kernel_rfl) ?_)
    | (refine wpList_buildFlatAt rfl 111 3 32 _ rfl .i64 [58, 66, 67, 68, 69, 70, 71, 72, 73, 74, 75, 76, 77, 78, 79, 80, 81, 82, 83, 84, 85, 86, 87, 89, 106, 107, 113, 118, 119, 120, 121, 122] (w.heap.size + 2) (by simp) (some 5) rfl Try.underlying111 info3.1 info3.2 rfl (by decide) (by decide) rfl ?_)
    | (refine wpList_buildTo rfl 113 _ rfl (some 6) rfl #[.int .i64 7, .slice (some ⟨w.heap.size + 2, 0, none⟩) 32 32] (by kernel_rfl) ?_)
    | (refine wpList_buildFlatAt rfl 111 3 6 _ rfl .i64 [38, 42, 44, 59, 88, 90] (w.heap.size + 3) (by simp) (some 7) rfl Try.underlying111 info3.1 info3.2 rfl (by decide) (by decide) rfl ?_)
    | (refine wpList_buildTo rfl 113 _ rfl (some 8) rfl #[.int .i64 8, .slice (some ⟨w.heap.size + 3, 0, none⟩) 6 6] (by kernel_rfl) ?_)
    | (refine wpList_buildFlatAt rfl 111 3 5 _ rfl .i64 [33, 34, 40, 41, 63] (w.heap.size + 4) (by simp) (some 9) rfl Try.underlying111 info3.1 info3.2 rfl (by decide) (by decide) rfl ?_)
    | (refine wpList_buildTo rfl 113 _ rfl (some 10) rfl #[.int .i64 10, .slice (some ⟨w.heap.size + 4, 0, none⟩) 5 5] (by kernel_rfl) ?_)
    | (refine wpList_buildFlatAt rfl 111 3 3 _ rfl .i64 [39, 43, 124] (w.heap.size + 5) (by simp) (some 11) rfl Try.underlying111 info3.1 info3.2 rfl (by decide) (by decide) rfl ?_)
    | (refine wpList_buildTo rfl 113 _ rfl (some 12) rfl #[.int .i64 11, .slice (some ⟨w.heap.size + 5, 0, none⟩) 3 3] (by kernel_rfl) ?_)
    | (refine wpList_buildFlatAt rfl 111 3 2 _ rfl .i64 [35, 62] (w.heap.size + 6) (by simp) (some 13) rfl Try.underlying111 info3.1 info3.2 rfl (by decide) (by decide) rfl ?_)
    | (refine wpList_buildTo rfl 113 _ rfl (some 14) rfl #[.int .i64 12, .slice (some ⟨w.heap.size + 6, 0, none⟩) 2 2] (by kernel_rfl) ?_)
    | (refine wpList_buildFlatAt rfl 111 3 6 _ rfl .i64 [0, 36, 64, 91, 93, 126] (w.heap.size + 7) (by simp) (some 15) rfl Try.underlying111 info3.1 info3.2 rfl (by decide) (by decide) rfl ?_)
    | (refine wpList_buildTo rfl 113 _ rfl (some 16) rfl #[.int .i64 13, .slice (some ⟨w.heap.size + 7, 0, none⟩) 6 6] (by kernel_rfl) ?_)
    | (refine wpList_buildFlatAt rfl 111 3 2 _ rfl .i64 [94, 125] (w.heap.size + 8) (by simp) (some 17) rfl Try.underlying111 info3.1 info3.2 rfl (by decide) (by decide) rfl ?_)
    | (refine wpList_buildTo rfl 113 _ rfl (some 18) rfl #[.int .i64 14, .slice (some ⟨w.heap.size + 8, 0, none⟩) 2 2] (by kernel_rfl) ?_)
    | (refine wpList_buildFlatAt rfl 111 3 3 _ rfl .i64 [60, 96, 123] (w.heap.size + 9) (by simp) (some 19) rfl Try.underlying111 info3.1 info3.2 rfl (by decide) (by decide) rfl ?_)
    | (refine wpList_buildTo rfl 113 _ rfl (some 20) rfl #[.int .i64 15, .slice (some ⟨w.heap.size + 9, 0, none⟩) 3 3] (by kernel_rfl) ?_)
    | (refine wpList_buildFlatAt rfl 111 3 3 _ rfl .i64 [92, 195, 208] (w.heap.size + 10) (by simp) (some 21) rfl Try.underlying111 info3.1 info3.2 rfl (by decide) (by decide) rfl ?_)
    | (refine wpList_buildTo rfl 113 _ rfl (some 22) rfl #[.int .i64 19, .slice (some ⟨w.heap.size + 10, 0, none⟩) 3 3] (by kernel_rfl) ?_)
    | (refine wpList_buildFlatAt rfl 111 3 8 _ rfl .i64 [128, 130, 131, 162, 184, 194, 224, 226] (w.heap.size + 11) (by simp) (some 23) rfl Try.underlying111 info3.1 info3.2 rfl (by decide) (by decide) rfl ?_)
    | (refine wpList_buildTo rfl 113 _ rfl (some 24) rfl #[.int .i64 20, .slice (some ⟨w.heap.size + 11, 0, none⟩) 8 8] (by kernel_rfl) ?_)
    | (refine wpList_buildFlatAt rfl 111 3 13 _ rfl .i64 [153, 161, 167, 172, 176, 177, 179, 209, 216, 217, 227, 229, 230] (w.heap.size + 12) (by simp) (some 25) rfl Try.underlying111 info3.1 info3.2 rfl (by decide) (by decide) rfl ?_)
    | (refine wpList_buildTo rfl 113 _ rfl (some 26) rfl #[.int .i64 21, .slice (some ⟨w.heap.size + 12, 0, none⟩) 13 13] (by kernel_rfl) ?_)
    | (refine wpList_buildFlatAt rfl 111 3 26 _ rfl .i64 [129, 132, 133, 134, 136, 146, 154, 156, 160, 163, 164, 169, 170, 173, 178, 181, 185, 186, 187, 189, 190, 196, 198, 228, 232, 233] (w.heap.size + 13) (by simp) (some 27) rfl Try.underlying111 info3.1 info3.2 rfl (by decide) (by decide) rfl ?_)
    | (refine wpList_buildTo rfl 113 _ rfl (some 28) rfl #[.int .i64 22, .slice (some ⟨w.heap.size + 13, 0, none⟩) 26 26] (by kernel_rfl) ?_)
    | (refine wpList_buildFlatAt rfl 111 3 29 _ rfl .i64 [1, 135, 137, 138, 139, 140, 141, 143, 147, 149, 150, 151, 152, 155, 157, 158, 165, 166, 168, 174, 175, 180, 182, 183, 188, 191, 197, 231, 239] (w.heap.size + 14) (by simp) (some 29) rfl Try.underlying111 info3.1 info3.2 rfl (by decide) (by decide) rfl ?_)
    | (refine wpList_buildTo rfl 113 _ rfl (some 30) rfl #[.int .i64 23, .slice (some ⟨w.heap.size + 14, 0, none⟩) 29 29] (by kernel_rfl) ?_)
    | (refine wpList_buildFlatAt rfl 111 3 12 _ rfl .i64 [9, 142, 144, 145, 148, 159, 171, 206, 215, 225, 236, 237] (w.heap.size + 15) (by simp) (some 31) rfl Try.underlying111 info3.1 info3.2 rfl (by decide) (by decide) rfl ?_)
    | (refine wpList_buildTo rfl 113 _ rfl (some 32) rfl #[.int .i64 24, .slice (some ⟨w.heap.size + 15, 0, none⟩) 12 12] (by kernel_rfl) ?_)
    | (refine wpList_buildFlatAt rfl 111 3 4 _ rfl .i64 [199, 207, 234, 235] (w.heap.size + 16) (by simp) (some 33) rfl Try.underlying111 info3.1 info3.2 rfl (by decide) (by decide) rfl ?_)
    | (refine wpList_buildTo rfl 113 _ rfl (some 34) rfl #[.int .i64 25, .slice (some ⟨w.heap.size + 16, 0, none⟩) 4 4] (by kernel_rfl) ?_)
    | (refine wpList_buildFlatAt rfl 111 3 15 _ rfl .i64 [192, 193, 200, 201, 202, 205, 210, 213, 218, 219, 238, 240, 242, 243, 255] (w.heap.size + 17) (by simp) (some 35) rfl Try.underlying111 info3.1 info3.2 rfl (by decide) (by decide) rfl ?_)
    | (refine wpList_buildTo rfl 113 _ rfl (some 36) rfl #[.int .i64 26, .slice (some ⟨w.heap.size + 17, 0, none⟩) 15 15] (by kernel_rfl) ?_)
    | (refine wpList_buildFlatAt rfl 111 3 19 _ rfl .i64 [203, 204, 211, 212, 214, 221, 222, 223, 241, 244, 245, 246, 247, 248, 250, 251, 252, 253, 254] (w.heap.size + 18) (by simp) (some 37) rfl Try.underlying111 info3.1 info3.2 rfl (by decide) (by decide) rfl ?_)
    | (refine wpList_buildTo rfl 113 _ rfl (some 38) rfl #[.int .i64 27, .slice (some ⟨w.heap.size + 18, 0, none⟩) 19 19] (by kernel_rfl) ?_)
    | (refine wpList_buildFlatAt rfl 111 3 29 _ rfl .i64 [2, 3, 4, 5, 6, 7, 8, 11, 12, 14, 15, 16, 17, 18, 19, 20, 21, 23, 24, 25, 26, 27, 28, 29, 30, 31, 127, 220, 249] (w.heap.size + 19) (by simp) (some 39) rfl Try.underlying111 info3.1 info3.2 rfl (by decide) (by decide) rfl ?_)
    | (refine wpList_buildTo rfl 113 _ rfl (some 40) rfl #[.int .i64 28, .slice (some ⟨w.heap.size + 19, 0, none⟩) 29 29] (by kernel_rfl) ?_)
    | (refine wpList_buildFlatAt rfl 111 3 4 _ rfl .i64 [10, 13, 22, 256] (w.heap.size + 20) (by simp) (some 41) rfl Try.underlying111 info3.1 info3.2 rfl (by decide) (by decide) rfl ?_)
    | (refine wpList_buildTo rfl 113 _ rfl (some 42) rfl #[.int .i64 30, .slice (some ⟨w.heap.size + 20, 0, none⟩) 4 4] (by kernel_rfl) ?_)
    | (refine wpList_buildSliceTo rfl 109 113 21 _ rfl (w.heap.size + 21) (by simp) (some 43) rfl Try.underlying109 #[.int .i64 5, .slice (some ⟨w.heap.size, 0, none⟩) 10 10, .int .i64 6, .slice (some ⟨w.heap.size + 1, 0, none⟩) 26 26, .int .i64 7, .slice (some ⟨w.heap.size + 2, 0, none⟩) 32 32, .int .i64 8, .slice (some ⟨w.heap.size + 3, 0, none⟩) 6 6, .int .i64 10, .slice (some ⟨w.heap.size + 4, 0, none⟩) 5 5, .int .i64 11, .slice (some ⟨w.heap.size + 5, 0, none⟩) 3 3, .int .i64 12, .slice (some ⟨w.heap.size + 6, 0, none⟩) 2 2, .int .i64 13, .slice (some ⟨w.heap.size + 7, 0, none⟩) 6 6, .int .i64 14, .slice (some ⟨w.heap.size + 8, 0, none⟩) 2 2, .int .i64 15, .slice (some ⟨w.heap.size + 9, 0, none⟩) 3 3, .int .i64 19, .slice (some ⟨w.heap.size + 10, 0, none⟩) 3 3, .int .i64 20, .slice (some ⟨w.heap.size + 11, 0, none⟩) 8 8, .int .i64 21, .slice (some ⟨w.heap.size + 12, 0, none⟩) 13 13, .int .i64 22, .slice (some ⟨w.heap.size + 13, 0, none⟩) 26 26, .int .i64 23, .slice (some ⟨w.heap.size + 14, 0, none⟩) 29 29, .int .i64 24, .slice (some ⟨w.heap.size + 15, 0, none⟩) 12 12, .int .i64 25, .slice (some ⟨w.heap.size + 16, 0, none⟩) 4 4, .int .i64 26, .slice (some ⟨w.heap.size + 17, 0, none⟩) 15 15, .int .i64 27, .slice (some ⟨w.heap.size + 18, 0, none⟩) 19 19, .int .i64 28, .slice (some ⟨w.heap.size + 19, 0, none⟩) 29 29, .int .i64 30, .slice (some ⟨w.heap.size + 20, 0, none⟩) 4 4] (by kernel_rfl) ?_))
  go_ret
  exact ⟨rfl, rfl⟩

theorem rrows_any (w : World) : Calls Try.prog 62 #[] w fun e w' => ∃ n, e = .returned (.slice (some ⟨n, 0, none⟩) 21 21) ∧ RT w' n ∧ Fr (fun _ => False) w w' := by
  refine (rrows_raw w).mono ?_
  rintro e w' ⟨rfl, rfl⟩
  refine ⟨_, rfl, ?_, (laidR_fr tblR w w (Fr.refl _ w)).alloc _⟩
  intro k r hr
  have h1 := outerR_get tblR w.heap.size k r hr
  have hl : ((laidR w tblR).alloc (.cells (outerR w.heap.size tblR).toArray 113)).heap[w.heap.size + 21]? = some (.cells (outerR w.heap.size tblR).toArray 113) := last_at _ (by rw [laidR_size]; rfl)
  refine ⟨cell_of_heap hl (by simpa using h1.1), w.heap.size + k, cell_of_heap hl (by simpa using h1.2), ?_⟩
  intro j s hj
  exact cell_of_heap (past_at _ (laidR_heap tblR w k r hr)) (by simp [ints, hj])

end Go.Proofs.Ytkipeifkfgbkeaa
