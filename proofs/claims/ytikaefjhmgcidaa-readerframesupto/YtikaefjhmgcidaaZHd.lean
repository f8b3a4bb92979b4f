/- Contracts of a frame's head, of the program and of the document. -/
import Derived.Test.YtikaefjhmgcidaaZMFU1
import Derived.BigQuiet
namespace Go.Proofs.Ytikaefjhmgcidaa
open Go.RowKit
set_option linter.unusedVariables false
set_option maxRecDepth 100000
set_option maxHeartbeats 4000000

/-- What a head tells: length, type, flags, stream, the error. -/
def headO (B : List UInt8) : Nat × Nat × Nat × Nat × Int :=
  if B.length < 9 then (0, 0, 0, 0, 3) else (num (B.take 3), (B.getD 3 0).toNat, (B.getD 4 0).toNat, num ((B.drop 5).take 4) % 2147483648, 0)
def HeadAs (o : Nat × Nat × Nat × Nat × Int) (e : Ending) : Prop := e = .returned (.tuple #[.int .i64 o.1, .int .i64 o.2.1, .int .i64 o.2.2.1, .int .i64 o.2.2.2.1, .int .i64 o.2.2.2.2])
theorem read_at (n p : Nat) (B : List UInt8) (h : p + n ≤ B.length) : readOut n B (p : Int) = (num ((B.drop p).take n), ((p + n : Nat) : Int), 0) := by
  rw [readOut, if_neg (by omega), if_neg (by omega)]
  simp
theorem getD_some (B : List UInt8) (i : Nat) (h : i < B.length) : B[i]? = some (B.getD i 0) := by
  rw [List.getD_eq_getElem?_getD, List.getElem?_eq_getElem h]
  rfl
theorem src_at {w : World} {a : Option Addr} {B : List UInt8} (hs : SrcAt w a B) {ad : Addr} (he : a = some ad) (i : Nat) (h : i < B.length) : w.cell? ⟨ad.block, ad.off + i, none⟩ = some (.int .u8 (B.getD i 0).toNat) := by
  obtain ⟨ad', e, hc⟩ := hs i _ (getD_some B i h)
  rw [he] at e
  cases e
  obtain ⟨b, o, s⟩ := ad
  have hn : ((⟨b, o, s⟩ : Addr).add i).spot = none := World.cell?_spot hc
  have : (⟨b, o, s⟩ : Addr).add i = ⟨b, o + i, none⟩ := by
    unfold Addr.add at *
    split at hn <;> simp_all
  rw [this] at hc
  exact hc

theorem Head_in (a : Option Addr) (len cap : Nat) (w : World) (B : List UInt8) (hs : SrcAt w a B) (hl : B.length = len) (hm : len ≤ 9223372036854775807) :
    Calls Try.prog 55 #[.slice a len cap] w fun e w' => HeadAs (headO B) e ∧ Fr (fun _ => False) w w' := by
  by_cases h9 : len < 9
  · rw [show headO B = (0, 0, 0, 0, 3) from if_pos (by omega)]
    have h9' : (len : Int) < 9 := by omega
    go_enter Try.func55, Try.ntmps55
    go_wp2
    exact bodyPost_ret (v := .tuple #[.int .i64 0, .int .i64 0, .int .i64 0, .int .i64 0, .int .i64 3]) (by simp [results, Try.results55, go_sem]) rfl ⟨rfl, Fr.refl _ _⟩
  · have h9' : ¬ (len : Int) < 9 := by omega
    obtain ⟨ad, ha, -⟩ := hs 0 _ (getD_some B 0 (by omega))
    have K1 : Hid (∀ w', Fr (fun _ => False) w w' → Calls Try.prog 58 #[.slice a len cap, .int .i64 0] w' fun e w2 => e = .returned (.tuple #[.int .i64 ((num (B.take 3) : Nat) : Int), .int .i64 3, .int .i64 0]) ∧ Fr (fun _ => False) w' w2) := fun w' hf => by
      have h := U24 a len cap ((0 : Nat) : Int) w' B (hs.oldF hf) hl hm
      rw [read_at 3 0 B (by omega)] at h
      exact h
    have K2 : Hid (∀ w', Fr (fun _ => False) w w' → Calls Try.prog 59 #[.slice a len cap, .int .i64 5] w' fun e w2 => e = .returned (.tuple #[.int .i64 ((num ((B.drop 5).take 4) % 2147483648 : Nat) : Int), .int .i64 9, .int .i64 0]) ∧ Fr (fun _ => False) w' w2) := fun w' hf => by
      have h := U31 a len cap ((5 : Nat) : Int) w' B (hs.oldF hf) hl hm
      rw [read_at 4 5 B (by omega)] at h
      exact h
    have HC : Hid (∀ w', Fr (fun _ => False) w w' → w'.cell? ⟨ad.block, ad.off + 3, none⟩ = some (.int .u8 (B.getD 3 0).toNat) ∧ w'.cell? ⟨ad.block, ad.off + 4, none⟩ = some (.int .u8 (B.getD 4 0).toNat)) := fun w' hf => ⟨src_at (hs.oldF hf) ha 3 (by omega), src_at (hs.oldF hf) ha 4 (by omega)⟩
    rw [show headO B = (num (B.take 3), (B.getD 3 0).toNat, (B.getD 4 0).toNat, num ((B.drop 5).take 4) % 2147483648, 0) from if_neg (by omega)]
    obtain ⟨N, hN⟩ : ∃ N, num (B.take 3) = N := ⟨_, rfl⟩
    obtain ⟨x3, hx3⟩ : ∃ x, B.getD 3 0 = x := ⟨_, rfl⟩
    obtain ⟨x4, hx4⟩ : ∃ x, B.getD 4 0 = x := ⟨_, rfl⟩
    obtain ⟨M, hM⟩ : ∃ M, num ((B.drop 5).take 4) % 2147483648 = M := ⟨_, rfl⟩
    have u3 := x3.toNat_lt
    have u4 := x4.toNat_lt
    rw [hN] at K1 ⊢
    rw [hM] at K2 ⊢
    rw [hx3, hx4] at HC ⊢
    subst ha
    clear hN hx3 hx4 hM hl hs
    go_enter Try.func55, Try.ntmps55
    go_wp2_with (fail)
    refine (K1.out _ (Fr.refl _ _)).mono ?_
    rintro e w1 ⟨rfl, hf1⟩
    go_wp2_with (fail)
    refine (K2.out _ hf1).mono ?_
    rintro e w2 ⟨rfl, hf2⟩
    obtain ⟨c3, c4⟩ := HC.out _ (hf1.trans hf2)
    go_wp2_with (fail)
    go_quiet (fail)
    go_wp2
    exact bodyPost_ret (v := .tuple #[.int .i64 N, .int .i64 x3.toNat, .int .i64 x4.toNat, .int .i64 M, .int .i64 0]) (by simp [results, Try.results55, go_sem]) rfl ⟨rfl, (hf1.trans hf2).drewN _⟩
theorem rHead_in (a : Option Addr) (len cap : Nat) (w : World) (B : List UInt8) (hs : SrcAt w a B) (hl : B.length = len) (hm : len ≤ 9223372036854775807) :
    Calls Try.prog 32 #[.slice a len cap] w fun e w' => HeadAs (headO B) e ∧ Fr (fun _ => False) w w' := by
  by_cases h9 : len < 9
  · rw [show headO B = (0, 0, 0, 0, 3) from if_pos (by omega)]
    have h9' : (len : Int) < 9 := by omega
    go_enter Try.func32, Try.ntmps32
    go_wp2
    exact bodyPost_ret (v := .tuple #[.int .i64 0, .int .i64 0, .int .i64 0, .int .i64 0, .int .i64 3]) (by simp [results, Try.results32, go_sem]) rfl ⟨rfl, Fr.refl _ _⟩
  · have h9' : ¬ (len : Int) < 9 := by omega
    obtain ⟨ad, ha, -⟩ := hs 0 _ (getD_some B 0 (by omega))
    have K1 : Hid (∀ w', Fr (fun _ => False) w w' → Calls Try.prog 48 #[.slice a len cap, .int .i64 0] w' fun e w2 => e = .returned (.tuple #[.int .i64 ((num (B.take 3) : Nat) : Int), .int .i64 3, .int .i64 0]) ∧ w2 = w') := fun w' hf => by
      have h := RU24 a len cap ((0 : Nat) : Int) w' B (hs.oldF hf) hl hm
      rw [read_at 3 0 B (by omega)] at h
      exact h
    have K2 : Hid (∀ w', Fr (fun _ => False) w w' → Calls Try.prog 49 #[.slice a len cap, .int .i64 5] w' fun e w2 => e = .returned (.tuple #[.int .i64 ((num ((B.drop 5).take 4) % 2147483648 : Nat) : Int), .int .i64 9, .int .i64 0]) ∧ w2 = w') := fun w' hf => by
      have h := RU31 a len cap ((5 : Nat) : Int) w' B (hs.oldF hf) hl hm
      rw [read_at 4 5 B (by omega)] at h
      exact h
    have HC : Hid (∀ w', Fr (fun _ => False) w w' → w'.cell? ⟨ad.block, ad.off + 3, none⟩ = some (.int .u8 (B.getD 3 0).toNat) ∧ w'.cell? ⟨ad.block, ad.off + 4, none⟩ = some (.int .u8 (B.getD 4 0).toNat)) := fun w' hf => ⟨src_at (hs.oldF hf) ha 3 (by omega), src_at (hs.oldF hf) ha 4 (by omega)⟩
    rw [show headO B = (num (B.take 3), (B.getD 3 0).toNat, (B.getD 4 0).toNat, num ((B.drop 5).take 4) % 2147483648, 0) from if_neg (by omega)]
    obtain ⟨N, hN⟩ : ∃ N, num (B.take 3) = N := ⟨_, rfl⟩
    obtain ⟨x3, hx3⟩ : ∃ x, B.getD 3 0 = x := ⟨_, rfl⟩
    obtain ⟨x4, hx4⟩ : ∃ x, B.getD 4 0 = x := ⟨_, rfl⟩
    obtain ⟨M, hM⟩ : ∃ M, num ((B.drop 5).take 4) % 2147483648 = M := ⟨_, rfl⟩
    have u3 := x3.toNat_lt
    have u4 := x4.toNat_lt
    rw [hN] at K1 ⊢
    rw [hM] at K2 ⊢
    rw [hx3, hx4] at HC ⊢
    subst ha
    clear hN hx3 hx4 hM hl hs
    go_enter Try.func32, Try.ntmps32
    go_wp2_with (fail)
    refine (K1.out _ (Fr.refl _ _)).mono ?_
    rintro e w1 ⟨rfl, rfl⟩
    go_wp2_with (fail)
    refine (K2.out _ (Fr.refl _ _)).mono ?_
    rintro e w2 ⟨rfl, rfl⟩
    obtain ⟨c3, c4⟩ := HC.out _ (Fr.refl _ _)
    go_wp2_with (fail)
    go_quiet (fail)
    go_wp2
    exact bodyPost_ret (v := .tuple #[.int .i64 N, .int .i64 x3.toNat, .int .i64 x4.toNat, .int .i64 M, .int .i64 0]) (by simp [results, Try.results32, go_sem]) rfl ⟨rfl, (Fr.refl _ _).drewN _⟩
end Go.Proofs.Ytikaefjhmgcidaa
