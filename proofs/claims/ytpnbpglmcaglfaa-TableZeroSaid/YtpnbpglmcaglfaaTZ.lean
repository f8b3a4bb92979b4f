/- A table that nobody made: the calls' contracts there, and the walk of TableZero. -/
import Derived.Test.YtpnbpglmcaglfaaT1
namespace Go.Proofs.Ytpnbpglmcaglfaa
open Go.RowKit
set_option maxRecDepth 100000
set_option maxHeartbeats 4000000
set_option linter.unusedVariables false

theorem tMost_nil (w : World) : Calls Try.prog 20 #[.pointer none] w fun e w' => e = .returned (.int .i64 0) ∧ w' = w := by
  have K := none_nil w
  go_enter Try.func20, Try.ntmps20
  go_wp2_with (go_at_call 33; refine K.mono ?_; clear K; rintro e w' ⟨rfl, rfl⟩)
  go_ret
  exact ⟨rfl, rfl⟩
theorem tLen_nil (w : World) : Calls Try.prog 22 #[.pointer none] w fun e w' => e = .returned (.int .i64 0) ∧ w' = w := by
  have K := none_nil w
  go_enter Try.func22, Try.ntmps22
  go_wp2_with (go_at_call 33; refine K.mono ?_; clear K; rintro e w' ⟨rfl, rfl⟩)
  go_ret
  exact ⟨rfl, rfl⟩
theorem tResize_nil (n : Int) (w : World) : Calls Try.prog 21 #[.pointer none, .int .i64 n] w fun e w' => e = .returned (.int .i64 7) ∧ w' = w := by
  have K := none_nil w
  go_enter Try.func21, Try.ntmps21
  go_wp2_with (go_at_call 33; refine K.mono ?_; clear K; rintro e w' ⟨rfl, rfl⟩)
  go_ret
  exact ⟨rfl, rfl⟩
theorem tBytes_zero (t : Nat) (v : Value) (w : World) (h : TabAt w t false 0 0 v) : Calls Try.prog 23 #[.pointer (some ⟨t, 0, none⟩)] w fun e w' => e = .returned (.int .i64 0) ∧ w' = w := by
  have K := none_in t false 0 0 v w h
  go_enter Try.func23, Try.ntmps23
  go_wp2_with (go_at_call 33; refine K.mono ?_; clear K; rintro e w' ⟨rfl, rfl⟩)
  go_ret
  exact ⟨rfl, rfl⟩
theorem TabAt.alloc {w : World} {t : Nat} {d : Bool} {m b : Nat} {v : Value} (h : TabAt w t d m b v) (o : Obj) : TabAt (w.alloc o) t d m b v := (Below.heap_alloc w o t h.lt).trans h
theorem tAdd_zero (t : Nat) (u : Value) (n v : ByteArray) (s : Bool) (w : World) (h : TabAt w t false 0 0 u) : Calls Try.prog 18 #[.pointer (some ⟨t, 0, none⟩), .agg #[.string n, .string v, .bool s]] w fun e w' => e = .returned (.int .i64 7) ∧ w' = w.alloc (.cells #[.string n, .string v, .bool s] 23) := by
  have K := none_in t false 0 0 u _ (h.alloc (.cells #[.string n, .string v, .bool s] 23))
  go_enter Try.func18, Try.ntmps18
  go_wp2_with (go_at_call 33; refine K.mono ?_; clear K; rintro e w' ⟨rfl, rfl⟩)
  go_ret
  exact ⟨rfl, rfl⟩
theorem tGet_nil (n : Int) (w : World) : Calls Try.prog 19 #[.pointer none, .int .i64 n] w fun e w' => e = .returned (.tuple #[.agg #[.string ⟨#[]⟩, .string ⟨#[]⟩, .bool false], .int .i64 7]) ∧ w' = w.alloc (.cells #[.string ⟨#[]⟩, .string ⟨#[]⟩, .bool false] 23) := by
  have K := none_nil (w.alloc (.cells #[.string ⟨#[]⟩, .string ⟨#[]⟩, .bool false] 23))
  go_enter Try.func19, Try.ntmps19
  go_wp2_with (go_at_call 33; refine K.mono ?_; clear K; rintro e w' ⟨rfl, rfl⟩)
  refine bodyPost_ret (v := .tuple #[.agg #[.string ⟨#[]⟩, .string ⟨#[]⟩, .bool false], .int .i64 7]) (by simp [results, Try.results19, go_sem]) rfl ⟨rfl, rfl⟩
theorem tFind_zero (t : Nat) (u : Value) (n v : ByteArray) (s : Bool) (w : World) (h : TabAt w t false 0 0 u) : Calls Try.prog 24 #[.pointer (some ⟨t, 0, none⟩), .agg #[.string n, .string v, .bool s]] w fun e w' => e = .returned (.tuple #[.int .i64 0, .bool false]) ∧ w' = ((w.alloc (.cells #[.string n, .string v, .bool s] 23)).alloc (.cells #[.int .i64 0] 3)).alloc (.cells #[.bool false] 4) := by
  have K := none_in t false 0 0 u _ (((h.alloc (.cells #[.string n, .string v, .bool s] 23)).alloc (.cells #[.int .i64 0] 3)).alloc (.cells #[.bool false] 4))
  go_enter Try.func24, Try.ntmps24
  go_wp2_with (go_at_call 33; refine K.mono ?_; clear K; rintro e w' ⟨rfl, rfl⟩)
  refine bodyPost_ret (v := .tuple #[.int .i64 0, .bool false]) (by simp [results, Try.results24, go_sem]) rfl ⟨rfl, rfl⟩

set_option maxHeartbeats 8000000 in
/-- TableZero returns true. -/
theorem zero_walk (n v : ByteArray) (s : Bool) (N : Int) (w : World) :
    Calls Try.prog 8 #[.agg #[.string n, .string v, .bool s], .int .i64 N] w fun e w' => e = .returned (.bool true) ∧ Below w.heap.size w w' := by
  have hT : TabAt ((w.alloc (.cells #[.string n, .string v, .bool s] 23)).alloc (.cells #[.bool false, .int .i64 0, .int .i64 0, .slice none 0 0] 55)) (w.heap.size + 1) false 0 0 (.slice none 0 0) := by
    have := heap_alloc_new (w.alloc (.cells #[.string n, .string v, .bool s] 23)) (.cells #[.bool false, .int .i64 0, .int .i64 0, .slice none 0 0] 55)
    rwa [World.size_alloc] at this
  go_enter Try.func8, Try.ntmps8
  go_wp2_with (first
    | (go_at_call 19; refine (tGet_nil _ _).mono ?_; rintro e w' ⟨rfl, rfl⟩)
    | (go_at_call 24; refine (tFind_zero _ _ _ _ _ _ ((hT.alloc _).alloc _)).mono ?_; rintro e w' ⟨rfl, rfl⟩)
    | (go_at_call 18; refine (tAdd_zero _ _ _ _ _ _ (((((hT.alloc _).alloc _).alloc _).alloc _).alloc _)).mono ?_; rintro e w' ⟨rfl, rfl⟩)
    | (go_at_call 21; refine (tResize_nil _ _).mono ?_; rintro e w' ⟨rfl, rfl⟩)
    | (go_at_call 22; refine (tLen_nil _).mono ?_; rintro e w' ⟨rfl, rfl⟩)
    | (go_at_call 20; refine (tMost_nil _).mono ?_; rintro e w' ⟨rfl, rfl⟩)
    | (go_at_call 23; refine (tBytes_zero _ _ _ ((((((hT.alloc _).alloc _).alloc _).alloc _).alloc _).alloc _)).mono ?_; rintro e w' ⟨rfl, rfl⟩))
  go_ret
  exact ⟨rfl, by repeat (first | exact Below.refl _ _ | refine Below.alloc ?_ (by simp; try omega) _)⟩
end Go.Proofs.Ytpnbpglmcaglfaa
