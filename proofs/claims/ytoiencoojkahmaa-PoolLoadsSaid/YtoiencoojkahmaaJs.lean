/- One call of both pools. -/
import Derived.Test.YtoiencoojkahmaaJr
import Derived.Deep.RegionHeldLaw
import Derived.Deep.Cut
namespace Go.Proofs.Ytoiencoojkahmaa
open Go.RowKit Go.Maps
set_option linter.unusedVariables false
set_option maxRecDepth 100000
set_option maxHeartbeats 4000000

/-- What a call of a script does. -/
def plyP (n : Nat) (F R H rt mo : Int) (s : Pl) (wh d v : Int) : Pl :=
  if wh = 0 then ticP n s else if wh = 1 then (anyP n s (opnP rt s) d).2 else if wh = 2 then (anyP n s (faiP mo s) d).2 else if wh = 3 then (anyP n s (draP s) d).2 else if wh = 4 then (anyP n s (fun j => limP s j v) d).2 else if wh = 5 then (anyP n s (takP s) d).2 else if wh = 6 then (anyP n s (putP s) d).2 else (anyP n s (fun j => (0, prbP F R H s j (v == 1))) d).2
/-- What play leaves. -/
def PlyAs (base : Nat) (w0 : World) (g g2 n : Nat) (F R H rt mo c : Int) (s : Pl) (w' : World) : Prop := PI base w0 g n F R H rt mo c s w' ∧ QI base w0 g2 n F R H rt mo c s w'
section
variable {base : Nat} {w0 wr : World} {g g2 n : Nat} {F R H rt mo c : Int} {s : Pl}
theorem play0 (hp : PI base w0 g n F R H rt mo c s wr) (hq : QI base w0 g2 n F R H rt mo c s wr) (hc : c ≤ 900000000000000000) (d v : Int) : Calls Try.prog 10 #[.pointer (some ⟨g, 0, none⟩), .pointer (some ⟨g2, 0, none⟩), .agg #[.int .i64 0, .int .i64 d, .int .i64 v]] wr fun e w' => e = .returned (.bool true) ∧ Hid (PlyAs base w0 g g2 n F R H rt mo (c + 1) (ticP n s) w') := by
  have HP : Hid (PI base w0 g n F R H rt mo c s wr) := hp
  have HQ : Hid (QI base w0 g2 n F R H rt mo c s wr) := hq
  clear hp hq
  go_enter Try.func10, Try.ntmps10
  go_upto_region 1 with (fail)
  obtain ⟨wa, hwa⟩ : ∃ wa, wa = wr.alloc (Obj.cells #[.int .i64 0, .int .i64 d, .int .i64 v] 34) := ⟨_, rfl⟩
  obtain ⟨go, hgo⟩ : ∃ go, go = wr.heap.size := ⟨_, rfl⟩
  have Fa : Hid (Fr (fun _ => False) wr wa) := by rw [hwa]; exact (Fr.refl _ _).alloc _
  have HO : Hid (BxP base w0 g g2 n F R H rt mo c s c s go #[.int .i64 0, .int .i64 d, .int .i64 v] wa) := ⟨HP.out.later Fa.out, HQ.out.later Fa.out, by rw [hwa, hgo]; exact heap_alloc_new _ _⟩
  rw [← hwa, ← hgo]
  clear hwa hgo HP HQ Fa
  have o0 : wa.cell? ⟨go, 0, none⟩ = some (.int .i64 0) := cell_of_heap HO.out.b rfl
  have o1 : wa.cell? ⟨go, 1, none⟩ = some (.int .i64 d) := cell_of_heap HO.out.b rfl
  have o2 : wa.cell? ⟨go, 2, none⟩ = some (.int .i64 v) := cell_of_heap HO.out.b rfl
  have K1 := HO.out.p.tick2 hc
  have K2 : ∀ w1, Hid (BxP base w0 g g2 n F R H rt mo (c + 1) (ticP n s) c s go #[.int .i64 0, .int .i64 d, .int .i64 v] w1) → _ := fun w1 h => h.out.q.tick hc
  have hfew : (dueT s.N s.T).length ≤ 4096 := by have := due_few HO.out.p.inv.t; omega
  go_wp2_with (first
    | (go_at_call 13; refine K1.mono ?_; clear K1; rintro e w2 ⟨a, m, q, rfl, X2⟩; have B2 : Hid (BxP base w0 g g2 n F R H rt mo (c + 1) (ticP n s) c s go #[.int .i64 0, .int .i64 d, .int .i64 v] w2) := HO.out.goP X2.out.2; have K3 := K2 w2 B2; clear K2)
    | (go_at_call 32; refine K3.mono ?_; clear K3; rintro e w3 ⟨a2, m2, q2, rfl, X3⟩; have B3 : Hid (BxP base w0 g g2 n F R H rt mo (c + 1) (ticP n s) (c + 1) (ticP n s) go #[.int .i64 0, .int .i64 d, .int .i64 v] w3) := B2.out.goQ X3.out.2; have K4 := plints_in a a2 q q2 m m2 _ w3 (X2.out.1.fr X3.out.2.2.1 (fun k hk e => qt_not (own_tagI X2.out.1 k hk).choose_spec (by decide) e)) X3.out.1 hfew)
    | (go_at_call 31; refine K4.mono ?_; clear K4; rintro e w4 ⟨rfl, f4⟩; have B4 : Hid (BxP base w0 g g2 n F R H rt mo (c + 1) (ticP n s) (c + 1) (ticP n s) go #[.int .i64 0, .int .i64 d, .int .i64 v] w4) := B3.out.later f4))
  go_ret
  exact ⟨rfl, B4.out.p, B4.out.q⟩
theorem play1 (hp : PI base w0 g n F R H rt mo c s wr) (hq : QI base w0 g2 n F R H rt mo c s wr) (hc : c ≤ 900000000000000000) (d v : Int) : Calls Try.prog 10 #[.pointer (some ⟨g, 0, none⟩), .pointer (some ⟨g2, 0, none⟩), .agg #[.int .i64 1, .int .i64 d, .int .i64 v]] wr fun e w' => e = .returned (.bool true) ∧ Hid (PlyAs base w0 g g2 n F R H rt mo (c + 1) ((anyP n s (opnP rt s) d).2) w') := by
  have HP : Hid (PI base w0 g n F R H rt mo c s wr) := hp
  have HQ : Hid (QI base w0 g2 n F R H rt mo c s wr) := hq
  clear hp hq
  go_enter Try.func10, Try.ntmps10
  go_upto_region 1 with (fail)
  obtain ⟨wa, hwa⟩ : ∃ wa, wa = wr.alloc (Obj.cells #[.int .i64 1, .int .i64 d, .int .i64 v] 34) := ⟨_, rfl⟩
  obtain ⟨go, hgo⟩ : ∃ go, go = wr.heap.size := ⟨_, rfl⟩
  have Fa : Hid (Fr (fun _ => False) wr wa) := by rw [hwa]; exact (Fr.refl _ _).alloc _
  have HO : Hid (BxP base w0 g g2 n F R H rt mo c s c s go #[.int .i64 1, .int .i64 d, .int .i64 v] wa) := ⟨HP.out.later Fa.out, HQ.out.later Fa.out, by rw [hwa, hgo]; exact heap_alloc_new _ _⟩
  rw [← hwa, ← hgo]
  clear hwa hgo HP HQ Fa
  have o0 : wa.cell? ⟨go, 0, none⟩ = some (.int .i64 1) := cell_of_heap HO.out.b rfl
  have o1 : wa.cell? ⟨go, 1, none⟩ = some (.int .i64 d) := cell_of_heap HO.out.b rfl
  have o2 : wa.cell? ⟨go, 2, none⟩ = some (.int .i64 v) := cell_of_heap HO.out.b rfl
  obtain ⟨er, her⟩ : ∃ er, (anyP n s (opnP rt s) d).1 = er := ⟨_, rfl⟩
  obtain ⟨s2, hs2⟩ : ∃ s2, (anyP n s (opnP rt s) d).2 = s2 := ⟨_, rfl⟩
  have K1 : ∀ W, Hid (Fr (fun _ => False) wa W) → Calls Try.prog 14 #[.pointer (some ⟨g, 0, none⟩), .int .i64 d] W fun e w' => e = .returned (.int .i64 er) ∧ Hid (BxP base w0 g g2 n F R H rt mo (c + 1) s2 c s go #[.int .i64 1, .int .i64 d, .int .i64 v] w') := fun W hW => by
    have hB := HO.out.later hW.out
    have KK := hB.p.opened2 hc d
    rw [her, hs2] at KK
    refine KK.mono ?_
    rintro e w' ⟨rfl, h9⟩
    exact ⟨rfl, hB.goP h9⟩
  have K2 : ∀ W, Hid (BxP base w0 g g2 n F R H rt mo (c + 1) s2 c s go #[.int .i64 1, .int .i64 d, .int .i64 v] W) → Calls Try.prog 33 #[.pointer (some ⟨g2, 0, none⟩), .int .i64 d] W fun e w' => e = .returned (.int .i64 er) ∧ Hid (BxP base w0 g g2 n F R H rt mo (c + 1) s2 (c + 1) s2 go #[.int .i64 1, .int .i64 d, .int .i64 v] w') := fun W hW => by
    have KK := hW.out.q.opened hc d
    rw [her, hs2] at KK
    refine KK.mono ?_
    rintro e w' ⟨rfl, h9⟩
    exact ⟨rfl, hW.out.goQ h9⟩
  have HS2 : Hid ((anyP n s (opnP rt s) d).2 = s2) := hs2
  have W1 : ∀ k, Hid (Fr (fun _ => False) wa (wa.drewN k)) := fun k => (Fr.refl _ _).drewN k
  have W2 : Hid (Fr (fun _ => False) wa wa.drew) := (Fr.refl _ _).drew
  clear her hs2
  go_upto_region 5 with (fail)
  go_region_held_law (fun w' => w'.cell? ⟨go, 1, none⟩ = some (.int .i64 d)) (first | exact o1 | exact cell_of_heap X2.out.b rfl | exact cell_of_heap X3.out.b rfl) (first | (go_at_call 14; refine (K1 _ (by first | exact W2 | exact W1 _)).mono ?_; rintro e w2 ⟨rfl, X2⟩) | (go_at_call 33; refine (K2 _ (by first | exact X2)).mono ?_; rintro e w3 ⟨rfl, X3⟩))
  have HX : Hid (PlyAs base w0 g g2 n F R H rt mo (c + 1) s2 w3) := ⟨X3.out.p, X3.out.q⟩
  clear K1 K2 W1 W2 X2 X3 o0 o1 o2 HO
  go_wp2_with (fail)
  go_ret
  exact ⟨by simp, by rw [HS2.out]; exact HX.out⟩
theorem play2 (hp : PI base w0 g n F R H rt mo c s wr) (hq : QI base w0 g2 n F R H rt mo c s wr) (hc : c ≤ 900000000000000000) (d v : Int) : Calls Try.prog 10 #[.pointer (some ⟨g, 0, none⟩), .pointer (some ⟨g2, 0, none⟩), .agg #[.int .i64 2, .int .i64 d, .int .i64 v]] wr fun e w' => e = .returned (.bool true) ∧ Hid (PlyAs base w0 g g2 n F R H rt mo (c + 1) ((anyP n s (faiP mo s) d).2) w') := by
  have HP : Hid (PI base w0 g n F R H rt mo c s wr) := hp
  have HQ : Hid (QI base w0 g2 n F R H rt mo c s wr) := hq
  clear hp hq
  go_enter Try.func10, Try.ntmps10
  go_upto_region 1 with (fail)
  obtain ⟨wa, hwa⟩ : ∃ wa, wa = wr.alloc (Obj.cells #[.int .i64 2, .int .i64 d, .int .i64 v] 34) := ⟨_, rfl⟩
  obtain ⟨go, hgo⟩ : ∃ go, go = wr.heap.size := ⟨_, rfl⟩
  have Fa : Hid (Fr (fun _ => False) wr wa) := by rw [hwa]; exact (Fr.refl _ _).alloc _
  have HO : Hid (BxP base w0 g g2 n F R H rt mo c s c s go #[.int .i64 2, .int .i64 d, .int .i64 v] wa) := ⟨HP.out.later Fa.out, HQ.out.later Fa.out, by rw [hwa, hgo]; exact heap_alloc_new _ _⟩
  rw [← hwa, ← hgo]
  clear hwa hgo HP HQ Fa
  have o0 : wa.cell? ⟨go, 0, none⟩ = some (.int .i64 2) := cell_of_heap HO.out.b rfl
  have o1 : wa.cell? ⟨go, 1, none⟩ = some (.int .i64 d) := cell_of_heap HO.out.b rfl
  have o2 : wa.cell? ⟨go, 2, none⟩ = some (.int .i64 v) := cell_of_heap HO.out.b rfl
  obtain ⟨er, her⟩ : ∃ er, (anyP n s (faiP mo s) d).1 = er := ⟨_, rfl⟩
  obtain ⟨s2, hs2⟩ : ∃ s2, (anyP n s (faiP mo s) d).2 = s2 := ⟨_, rfl⟩
  have K1 : ∀ W, Hid (Fr (fun _ => False) wa W) → Calls Try.prog 16 #[.pointer (some ⟨g, 0, none⟩), .int .i64 d] W fun e w' => e = .returned (.int .i64 er) ∧ Hid (BxP base w0 g g2 n F R H rt mo (c + 1) s2 c s go #[.int .i64 2, .int .i64 d, .int .i64 v] w') := fun W hW => by
    have hB := HO.out.later hW.out
    have KK := hB.p.failed2 hc d
    rw [her, hs2] at KK
    refine KK.mono ?_
    rintro e w' ⟨rfl, h9⟩
    exact ⟨rfl, hB.goP h9⟩
  have K2 : ∀ W, Hid (BxP base w0 g g2 n F R H rt mo (c + 1) s2 c s go #[.int .i64 2, .int .i64 d, .int .i64 v] W) → Calls Try.prog 34 #[.pointer (some ⟨g2, 0, none⟩), .int .i64 d] W fun e w' => e = .returned (.int .i64 er) ∧ Hid (BxP base w0 g g2 n F R H rt mo (c + 1) s2 (c + 1) s2 go #[.int .i64 2, .int .i64 d, .int .i64 v] w') := fun W hW => by
    have KK := hW.out.q.failed hc d
    rw [her, hs2] at KK
    refine KK.mono ?_
    rintro e w' ⟨rfl, h9⟩
    exact ⟨rfl, hW.out.goQ h9⟩
  have HS2 : Hid ((anyP n s (faiP mo s) d).2 = s2) := hs2
  have W1 : ∀ k, Hid (Fr (fun _ => False) wa (wa.drewN k)) := fun k => (Fr.refl _ _).drewN k
  have W2 : Hid (Fr (fun _ => False) wa wa.drew) := (Fr.refl _ _).drew
  clear her hs2
  go_upto_region 7 with (fail)
  go_region_held_law (fun w' => w'.cell? ⟨go, 1, none⟩ = some (.int .i64 d)) (first | exact o1 | exact cell_of_heap X2.out.b rfl | exact cell_of_heap X3.out.b rfl) (first | (go_at_call 16; refine (K1 _ (by first | exact W2 | exact W1 _)).mono ?_; rintro e w2 ⟨rfl, X2⟩) | (go_at_call 34; refine (K2 _ (by first | exact X2)).mono ?_; rintro e w3 ⟨rfl, X3⟩))
  have HX : Hid (PlyAs base w0 g g2 n F R H rt mo (c + 1) s2 w3) := ⟨X3.out.p, X3.out.q⟩
  clear K1 K2 W1 W2 X2 X3 o0 o1 o2 HO
  go_wp2_with (fail)
  go_ret
  exact ⟨by simp, by rw [HS2.out]; exact HX.out⟩
theorem play3 (hp : PI base w0 g n F R H rt mo c s wr) (hq : QI base w0 g2 n F R H rt mo c s wr) (hc : c ≤ 900000000000000000) (d v : Int) : Calls Try.prog 10 #[.pointer (some ⟨g, 0, none⟩), .pointer (some ⟨g2, 0, none⟩), .agg #[.int .i64 3, .int .i64 d, .int .i64 v]] wr fun e w' => e = .returned (.bool true) ∧ Hid (PlyAs base w0 g g2 n F R H rt mo (c + 1) ((anyP n s (draP s) d).2) w') := by
  have HP : Hid (PI base w0 g n F R H rt mo c s wr) := hp
  have HQ : Hid (QI base w0 g2 n F R H rt mo c s wr) := hq
  clear hp hq
  go_enter Try.func10, Try.ntmps10
  go_upto_region 1 with (fail)
  obtain ⟨wa, hwa⟩ : ∃ wa, wa = wr.alloc (Obj.cells #[.int .i64 3, .int .i64 d, .int .i64 v] 34) := ⟨_, rfl⟩
  obtain ⟨go, hgo⟩ : ∃ go, go = wr.heap.size := ⟨_, rfl⟩
  have Fa : Hid (Fr (fun _ => False) wr wa) := by rw [hwa]; exact (Fr.refl _ _).alloc _
  have HO : Hid (BxP base w0 g g2 n F R H rt mo c s c s go #[.int .i64 3, .int .i64 d, .int .i64 v] wa) := ⟨HP.out.later Fa.out, HQ.out.later Fa.out, by rw [hwa, hgo]; exact heap_alloc_new _ _⟩
  rw [← hwa, ← hgo]
  clear hwa hgo HP HQ Fa
  have o0 : wa.cell? ⟨go, 0, none⟩ = some (.int .i64 3) := cell_of_heap HO.out.b rfl
  have o1 : wa.cell? ⟨go, 1, none⟩ = some (.int .i64 d) := cell_of_heap HO.out.b rfl
  have o2 : wa.cell? ⟨go, 2, none⟩ = some (.int .i64 v) := cell_of_heap HO.out.b rfl
  obtain ⟨er, her⟩ : ∃ er, (anyP n s (draP s) d).1 = er := ⟨_, rfl⟩
  obtain ⟨s2, hs2⟩ : ∃ s2, (anyP n s (draP s) d).2 = s2 := ⟨_, rfl⟩
  have K1 : ∀ W, Hid (Fr (fun _ => False) wa W) → Calls Try.prog 21 #[.pointer (some ⟨g, 0, none⟩), .int .i64 d] W fun e w' => e = .returned (.int .i64 er) ∧ Hid (BxP base w0 g g2 n F R H rt mo (c + 1) s2 c s go #[.int .i64 3, .int .i64 d, .int .i64 v] w') := fun W hW => by
    have hB := HO.out.later hW.out
    have KK := hB.p.drain2 hc d
    rw [her, hs2] at KK
    refine KK.mono ?_
    rintro e w' ⟨rfl, h9⟩
    exact ⟨rfl, hB.goP h9⟩
  have K2 : ∀ W, Hid (BxP base w0 g g2 n F R H rt mo (c + 1) s2 c s go #[.int .i64 3, .int .i64 d, .int .i64 v] W) → Calls Try.prog 35 #[.pointer (some ⟨g2, 0, none⟩), .int .i64 d] W fun e w' => e = .returned (.int .i64 er) ∧ Hid (BxP base w0 g g2 n F R H rt mo (c + 1) s2 (c + 1) s2 go #[.int .i64 3, .int .i64 d, .int .i64 v] w') := fun W hW => by
    have KK := hW.out.q.drain hc d
    rw [her, hs2] at KK
    refine KK.mono ?_
    rintro e w' ⟨rfl, h9⟩
    exact ⟨rfl, hW.out.goQ h9⟩
  have HS2 : Hid ((anyP n s (draP s) d).2 = s2) := hs2
  have W1 : ∀ k, Hid (Fr (fun _ => False) wa (wa.drewN k)) := fun k => (Fr.refl _ _).drewN k
  have W2 : Hid (Fr (fun _ => False) wa wa.drew) := (Fr.refl _ _).drew
  clear her hs2
  go_upto_region 9 with (fail)
  go_region_held_law (fun w' => w'.cell? ⟨go, 1, none⟩ = some (.int .i64 d)) (first | exact o1 | exact cell_of_heap X2.out.b rfl | exact cell_of_heap X3.out.b rfl) (first | (go_at_call 21; refine (K1 _ (by first | exact W2 | exact W1 _)).mono ?_; rintro e w2 ⟨rfl, X2⟩) | (go_at_call 35; refine (K2 _ (by first | exact X2)).mono ?_; rintro e w3 ⟨rfl, X3⟩))
  have HX : Hid (PlyAs base w0 g g2 n F R H rt mo (c + 1) s2 w3) := ⟨X3.out.p, X3.out.q⟩
  clear K1 K2 W1 W2 X2 X3 o0 o1 o2 HO
  go_wp2_with (fail)
  go_ret
  exact ⟨by simp, by rw [HS2.out]; exact HX.out⟩
theorem play4 (hp : PI base w0 g n F R H rt mo c s wr) (hq : QI base w0 g2 n F R H rt mo c s wr) (hc : c ≤ 900000000000000000) (d v : Int) (hv : v ≤ 9223372036854775807) : Calls Try.prog 10 #[.pointer (some ⟨g, 0, none⟩), .pointer (some ⟨g2, 0, none⟩), .agg #[.int .i64 4, .int .i64 d, .int .i64 v]] wr fun e w' => e = .returned (.bool true) ∧ Hid (PlyAs base w0 g g2 n F R H rt mo (c + 1) ((anyP n s (fun j => limP s j v) d).2) w') := by
  have HP : Hid (PI base w0 g n F R H rt mo c s wr) := hp
  have HQ : Hid (QI base w0 g2 n F R H rt mo c s wr) := hq
  clear hp hq
  go_enter Try.func10, Try.ntmps10
  go_upto_region 1 with (fail)
  obtain ⟨wa, hwa⟩ : ∃ wa, wa = wr.alloc (Obj.cells #[.int .i64 4, .int .i64 d, .int .i64 v] 34) := ⟨_, rfl⟩
  obtain ⟨go, hgo⟩ : ∃ go, go = wr.heap.size := ⟨_, rfl⟩
  have Fa : Hid (Fr (fun _ => False) wr wa) := by rw [hwa]; exact (Fr.refl _ _).alloc _
  have HO : Hid (BxP base w0 g g2 n F R H rt mo c s c s go #[.int .i64 4, .int .i64 d, .int .i64 v] wa) := ⟨HP.out.later Fa.out, HQ.out.later Fa.out, by rw [hwa, hgo]; exact heap_alloc_new _ _⟩
  rw [← hwa, ← hgo]
  clear hwa hgo HP HQ Fa
  have o0 : wa.cell? ⟨go, 0, none⟩ = some (.int .i64 4) := cell_of_heap HO.out.b rfl
  have o1 : wa.cell? ⟨go, 1, none⟩ = some (.int .i64 d) := cell_of_heap HO.out.b rfl
  have o2 : wa.cell? ⟨go, 2, none⟩ = some (.int .i64 v) := cell_of_heap HO.out.b rfl
  obtain ⟨er, her⟩ : ∃ er, (anyP n s (fun j => limP s j v) d).1 = er := ⟨_, rfl⟩
  obtain ⟨s2, hs2⟩ : ∃ s2, (anyP n s (fun j => limP s j v) d).2 = s2 := ⟨_, rfl⟩
  have K1 : ∀ W, Hid (Fr (fun _ => False) wa W) → Calls Try.prog 22 #[.pointer (some ⟨g, 0, none⟩), .int .i64 d, .int .i64 v] W fun e w' => e = .returned (.int .i64 er) ∧ Hid (BxP base w0 g g2 n F R H rt mo (c + 1) s2 c s go #[.int .i64 4, .int .i64 d, .int .i64 v] w') := fun W hW => by
    have hB := HO.out.later hW.out
    have KK := hB.p.limit2 hc v hv d
    rw [her, hs2] at KK
    refine KK.mono ?_
    rintro e w' ⟨rfl, h9⟩
    exact ⟨rfl, hB.goP h9⟩
  have K2 : ∀ W, Hid (BxP base w0 g g2 n F R H rt mo (c + 1) s2 c s go #[.int .i64 4, .int .i64 d, .int .i64 v] W) → Calls Try.prog 36 #[.pointer (some ⟨g2, 0, none⟩), .int .i64 d, .int .i64 v] W fun e w' => e = .returned (.int .i64 er) ∧ Hid (BxP base w0 g g2 n F R H rt mo (c + 1) s2 (c + 1) s2 go #[.int .i64 4, .int .i64 d, .int .i64 v] w') := fun W hW => by
    have KK := hW.out.q.limit hc v hv d
    rw [her, hs2] at KK
    refine KK.mono ?_
    rintro e w' ⟨rfl, h9⟩
    exact ⟨rfl, hW.out.goQ h9⟩
  have HS2 : Hid ((anyP n s (fun j => limP s j v) d).2 = s2) := hs2
  have W1 : ∀ k, Hid (Fr (fun _ => False) wa (wa.drewN k)) := fun k => (Fr.refl _ _).drewN k
  have W2 : Hid (Fr (fun _ => False) wa wa.drew) := (Fr.refl _ _).drew
  clear her hs2
  go_upto_region 11 with (fail)
  go_region_held_law (fun w' => w'.cell? ⟨go, 1, none⟩ = some (.int .i64 d) ∧ w'.cell? ⟨go, 2, none⟩ = some (.int .i64 v)) (first | exact ⟨o1, o2⟩ | exact ⟨cell_of_heap X2.out.b rfl, cell_of_heap X2.out.b rfl⟩ | exact ⟨cell_of_heap X3.out.b rfl, cell_of_heap X3.out.b rfl⟩) (first | (go_at_call 22; refine (K1 _ (by first | exact W2 | exact W1 _)).mono ?_; rintro e w2 ⟨rfl, X2⟩) | (go_at_call 36; refine (K2 _ (by first | exact X2)).mono ?_; rintro e w3 ⟨rfl, X3⟩))
  have HX : Hid (PlyAs base w0 g g2 n F R H rt mo (c + 1) s2 w3) := ⟨X3.out.p, X3.out.q⟩
  clear K1 K2 W1 W2 X2 X3 o0 o1 o2 HO
  go_wp2_with (fail)
  go_ret
  exact ⟨by simp, by rw [HS2.out]; exact HX.out⟩
theorem play5 (hp : PI base w0 g n F R H rt mo c s wr) (hq : QI base w0 g2 n F R H rt mo c s wr) (hc : c ≤ 900000000000000000) (d v : Int) : Calls Try.prog 10 #[.pointer (some ⟨g, 0, none⟩), .pointer (some ⟨g2, 0, none⟩), .agg #[.int .i64 5, .int .i64 d, .int .i64 v]] wr fun e w' => e = .returned (.bool true) ∧ Hid (PlyAs base w0 g g2 n F R H rt mo (c + 1) ((anyP n s (takP s) d).2) w') := by
  have HP : Hid (PI base w0 g n F R H rt mo c s wr) := hp
  have HQ : Hid (QI base w0 g2 n F R H rt mo c s wr) := hq
  clear hp hq
  go_enter Try.func10, Try.ntmps10
  go_upto_region 1 with (fail)
  obtain ⟨wa, hwa⟩ : ∃ wa, wa = wr.alloc (Obj.cells #[.int .i64 5, .int .i64 d, .int .i64 v] 34) := ⟨_, rfl⟩
  obtain ⟨go, hgo⟩ : ∃ go, go = wr.heap.size := ⟨_, rfl⟩
  have Fa : Hid (Fr (fun _ => False) wr wa) := by rw [hwa]; exact (Fr.refl _ _).alloc _
  have HO : Hid (BxP base w0 g g2 n F R H rt mo c s c s go #[.int .i64 5, .int .i64 d, .int .i64 v] wa) := ⟨HP.out.later Fa.out, HQ.out.later Fa.out, by rw [hwa, hgo]; exact heap_alloc_new _ _⟩
  rw [← hwa, ← hgo]
  clear hwa hgo HP HQ Fa
  have o0 : wa.cell? ⟨go, 0, none⟩ = some (.int .i64 5) := cell_of_heap HO.out.b rfl
  have o1 : wa.cell? ⟨go, 1, none⟩ = some (.int .i64 d) := cell_of_heap HO.out.b rfl
  have o2 : wa.cell? ⟨go, 2, none⟩ = some (.int .i64 v) := cell_of_heap HO.out.b rfl
  obtain ⟨er, her⟩ : ∃ er, (anyP n s (takP s) d).1 = er := ⟨_, rfl⟩
  obtain ⟨s2, hs2⟩ : ∃ s2, (anyP n s (takP s) d).2 = s2 := ⟨_, rfl⟩
  have K1 : ∀ W, Hid (Fr (fun _ => False) wa W) → Calls Try.prog 18 #[.pointer (some ⟨g, 0, none⟩), .int .i64 d] W fun e w' => e = .returned (.int .i64 er) ∧ Hid (BxP base w0 g g2 n F R H rt mo (c + 1) s2 c s go #[.int .i64 5, .int .i64 d, .int .i64 v] w') := fun W hW => by
    have hB := HO.out.later hW.out
    have KK := hB.p.take2 hc d
    rw [her, hs2] at KK
    refine KK.mono ?_
    rintro e w' ⟨rfl, h9⟩
    exact ⟨rfl, hB.goP h9⟩
  have K2 : ∀ W, Hid (BxP base w0 g g2 n F R H rt mo (c + 1) s2 c s go #[.int .i64 5, .int .i64 d, .int .i64 v] W) → Calls Try.prog 19 #[.pointer (some ⟨g2, 0, none⟩), .int .i64 d] W fun e w' => e = .returned (.int .i64 er) ∧ Hid (BxP base w0 g g2 n F R H rt mo (c + 1) s2 (c + 1) s2 go #[.int .i64 5, .int .i64 d, .int .i64 v] w') := fun W hW => by
    have KK := hW.out.q.take hc d
    rw [her, hs2] at KK
    refine KK.mono ?_
    rintro e w' ⟨rfl, h9⟩
    exact ⟨rfl, hW.out.goQ h9⟩
  have HS2 : Hid ((anyP n s (takP s) d).2 = s2) := hs2
  have W1 : ∀ k, Hid (Fr (fun _ => False) wa (wa.drewN k)) := fun k => (Fr.refl _ _).drewN k
  have W2 : Hid (Fr (fun _ => False) wa wa.drew) := (Fr.refl _ _).drew
  clear her hs2
  go_upto_region 13 with (fail)
  go_region_held_law (fun w' => w'.cell? ⟨go, 1, none⟩ = some (.int .i64 d)) (first | exact o1 | exact cell_of_heap X2.out.b rfl | exact cell_of_heap X3.out.b rfl) (first | (go_at_call 18; refine (K1 _ (by first | exact W2 | exact W1 _)).mono ?_; rintro e w2 ⟨rfl, X2⟩) | (go_at_call 19; refine (K2 _ (by first | exact X2)).mono ?_; rintro e w3 ⟨rfl, X3⟩))
  have HX : Hid (PlyAs base w0 g g2 n F R H rt mo (c + 1) s2 w3) := ⟨X3.out.p, X3.out.q⟩
  clear K1 K2 W1 W2 X2 X3 o0 o1 o2 HO
  go_wp2_with (fail)
  go_ret
  exact ⟨by simp, by rw [HS2.out]; exact HX.out⟩
theorem play6 (hp : PI base w0 g n F R H rt mo c s wr) (hq : QI base w0 g2 n F R H rt mo c s wr) (hc : c ≤ 900000000000000000) (d v : Int) : Calls Try.prog 10 #[.pointer (some ⟨g, 0, none⟩), .pointer (some ⟨g2, 0, none⟩), .agg #[.int .i64 6, .int .i64 d, .int .i64 v]] wr fun e w' => e = .returned (.bool true) ∧ Hid (PlyAs base w0 g g2 n F R H rt mo (c + 1) ((anyP n s (putP s) d).2) w') := by
  have HP : Hid (PI base w0 g n F R H rt mo c s wr) := hp
  have HQ : Hid (QI base w0 g2 n F R H rt mo c s wr) := hq
  clear hp hq
  go_enter Try.func10, Try.ntmps10
  go_upto_region 1 with (fail)
  obtain ⟨wa, hwa⟩ : ∃ wa, wa = wr.alloc (Obj.cells #[.int .i64 6, .int .i64 d, .int .i64 v] 34) := ⟨_, rfl⟩
  obtain ⟨go, hgo⟩ : ∃ go, go = wr.heap.size := ⟨_, rfl⟩
  have Fa : Hid (Fr (fun _ => False) wr wa) := by rw [hwa]; exact (Fr.refl _ _).alloc _
  have HO : Hid (BxP base w0 g g2 n F R H rt mo c s c s go #[.int .i64 6, .int .i64 d, .int .i64 v] wa) := ⟨HP.out.later Fa.out, HQ.out.later Fa.out, by rw [hwa, hgo]; exact heap_alloc_new _ _⟩
  rw [← hwa, ← hgo]
  clear hwa hgo HP HQ Fa
  have o0 : wa.cell? ⟨go, 0, none⟩ = some (.int .i64 6) := cell_of_heap HO.out.b rfl
  have o1 : wa.cell? ⟨go, 1, none⟩ = some (.int .i64 d) := cell_of_heap HO.out.b rfl
  have o2 : wa.cell? ⟨go, 2, none⟩ = some (.int .i64 v) := cell_of_heap HO.out.b rfl
  obtain ⟨er, her⟩ : ∃ er, (anyP n s (putP s) d).1 = er := ⟨_, rfl⟩
  obtain ⟨s2, hs2⟩ : ∃ s2, (anyP n s (putP s) d).2 = s2 := ⟨_, rfl⟩
  have K1 : ∀ W, Hid (Fr (fun _ => False) wa W) → Calls Try.prog 23 #[.pointer (some ⟨g, 0, none⟩), .int .i64 d] W fun e w' => e = .returned (.int .i64 er) ∧ Hid (BxP base w0 g g2 n F R H rt mo (c + 1) s2 c s go #[.int .i64 6, .int .i64 d, .int .i64 v] w') := fun W hW => by
    have hB := HO.out.later hW.out
    have KK := hB.p.put2 hc d
    rw [her, hs2] at KK
    refine KK.mono ?_
    rintro e w' ⟨rfl, h9⟩
    exact ⟨rfl, hB.goP h9⟩
  have K2 : ∀ W, Hid (BxP base w0 g g2 n F R H rt mo (c + 1) s2 c s go #[.int .i64 6, .int .i64 d, .int .i64 v] W) → Calls Try.prog 37 #[.pointer (some ⟨g2, 0, none⟩), .int .i64 d] W fun e w' => e = .returned (.int .i64 er) ∧ Hid (BxP base w0 g g2 n F R H rt mo (c + 1) s2 (c + 1) s2 go #[.int .i64 6, .int .i64 d, .int .i64 v] w') := fun W hW => by
    have KK := hW.out.q.put hc d
    rw [her, hs2] at KK
    refine KK.mono ?_
    rintro e w' ⟨rfl, h9⟩
    exact ⟨rfl, hW.out.goQ h9⟩
  have HS2 : Hid ((anyP n s (putP s) d).2 = s2) := hs2
  have W1 : ∀ k, Hid (Fr (fun _ => False) wa (wa.drewN k)) := fun k => (Fr.refl _ _).drewN k
  have W2 : Hid (Fr (fun _ => False) wa wa.drew) := (Fr.refl _ _).drew
  clear her hs2
  go_upto_region 15 with (fail)
  go_region_held_law (fun w' => w'.cell? ⟨go, 1, none⟩ = some (.int .i64 d)) (first | exact o1 | exact cell_of_heap X2.out.b rfl | exact cell_of_heap X3.out.b rfl) (first | (go_at_call 23; refine (K1 _ (by first | exact W2 | exact W1 _)).mono ?_; rintro e w2 ⟨rfl, X2⟩) | (go_at_call 37; refine (K2 _ (by first | exact X2)).mono ?_; rintro e w3 ⟨rfl, X3⟩))
  have HX : Hid (PlyAs base w0 g g2 n F R H rt mo (c + 1) s2 w3) := ⟨X3.out.p, X3.out.q⟩
  clear K1 K2 W1 W2 X2 X3 o0 o1 o2 HO
  go_wp2_with (fail)
  go_ret
  exact ⟨by simp, by rw [HS2.out]; exact HX.out⟩
theorem play7a (hp : PI base w0 g n F R H rt mo c s wr) (hq : QI base w0 g2 n F R H rt mo c s wr) (hc : c ≤ 900000000000000000) (wh d v : Int) (hw : ∀ k : Int, 0 ≤ k → k ≤ 6 → wh ≠ k) (hv1 : v = 1) : Calls Try.prog 10 #[.pointer (some ⟨g, 0, none⟩), .pointer (some ⟨g2, 0, none⟩), .agg #[.int .i64 wh, .int .i64 d, .int .i64 v]] wr fun e w' => e = .returned (.bool true) ∧ Hid (PlyAs base w0 g g2 n F R H rt mo (c + 1) ((anyP n s (fun j => (0, prbP F R H s j true)) d).2) w') := by
  subst hv1
  have a0 : (wh == 0) = false := by rw [beq_eq_false_iff_ne]; exact hw 0 (by decide) (by decide)
  have b0 : decide (wh = 0) = false := decide_eq_false (hw 0 (by decide) (by decide))
  have a1 : (wh == 1) = false := by rw [beq_eq_false_iff_ne]; exact hw 1 (by decide) (by decide)
  have b1 : decide (wh = 1) = false := decide_eq_false (hw 1 (by decide) (by decide))
  have a2 : (wh == 2) = false := by rw [beq_eq_false_iff_ne]; exact hw 2 (by decide) (by decide)
  have b2 : decide (wh = 2) = false := decide_eq_false (hw 2 (by decide) (by decide))
  have a3 : (wh == 3) = false := by rw [beq_eq_false_iff_ne]; exact hw 3 (by decide) (by decide)
  have b3 : decide (wh = 3) = false := decide_eq_false (hw 3 (by decide) (by decide))
  have a4 : (wh == 4) = false := by rw [beq_eq_false_iff_ne]; exact hw 4 (by decide) (by decide)
  have b4 : decide (wh = 4) = false := decide_eq_false (hw 4 (by decide) (by decide))
  have a5 : (wh == 5) = false := by rw [beq_eq_false_iff_ne]; exact hw 5 (by decide) (by decide)
  have b5 : decide (wh = 5) = false := decide_eq_false (hw 5 (by decide) (by decide))
  have a6 : (wh == 6) = false := by rw [beq_eq_false_iff_ne]; exact hw 6 (by decide) (by decide)
  have b6 : decide (wh = 6) = false := decide_eq_false (hw 6 (by decide) (by decide))
  clear hw
  have HP : Hid (PI base w0 g n F R H rt mo c s wr) := hp
  have HQ : Hid (QI base w0 g2 n F R H rt mo c s wr) := hq
  clear hp hq
  go_enter Try.func10, Try.ntmps10
  go_upto_region 1 with (fail)
  obtain ⟨wa, hwa⟩ : ∃ wa, wa = wr.alloc (Obj.cells #[.int .i64 wh, .int .i64 d, .int .i64 1] 34) := ⟨_, rfl⟩
  obtain ⟨go, hgo⟩ : ∃ go, go = wr.heap.size := ⟨_, rfl⟩
  have Fa : Hid (Fr (fun _ => False) wr wa) := by rw [hwa]; exact (Fr.refl _ _).alloc _
  have HO : Hid (BxP base w0 g g2 n F R H rt mo c s c s go #[.int .i64 wh, .int .i64 d, .int .i64 1] wa) := ⟨HP.out.later Fa.out, HQ.out.later Fa.out, by rw [hwa, hgo]; exact heap_alloc_new _ _⟩
  rw [← hwa, ← hgo]
  clear hwa hgo HP HQ Fa
  have o0 : wa.cell? ⟨go, 0, none⟩ = some (.int .i64 wh) := cell_of_heap HO.out.b rfl
  have o1 : wa.cell? ⟨go, 1, none⟩ = some (.int .i64 d) := cell_of_heap HO.out.b rfl
  have o2 : wa.cell? ⟨go, 2, none⟩ = some (.int .i64 1) := cell_of_heap HO.out.b rfl
  obtain ⟨er, her⟩ : ∃ er, (anyP n s (fun j => (0, prbP F R H s j true)) d).1 = er := ⟨_, rfl⟩
  obtain ⟨s2, hs2⟩ : ∃ s2, (anyP n s (fun j => (0, prbP F R H s j true)) d).2 = s2 := ⟨_, rfl⟩
  have K1 : ∀ W, Hid (Fr (fun _ => False) wa W) → Calls Try.prog 24 #[.pointer (some ⟨g, 0, none⟩), .int .i64 d, .bool true] W fun e w' => e = .returned (.int .i64 er) ∧ Hid (BxP base w0 g g2 n F R H rt mo (c + 1) s2 c s go #[.int .i64 wh, .int .i64 d, .int .i64 1] w') := fun W hW => by
    have hB := HO.out.later hW.out
    have KK := hB.p.probe2 hc true d
    rw [her, hs2] at KK
    refine KK.mono ?_
    rintro e w' ⟨rfl, h9⟩
    exact ⟨rfl, hB.goP h9⟩
  have K2 : ∀ W, Hid (BxP base w0 g g2 n F R H rt mo (c + 1) s2 c s go #[.int .i64 wh, .int .i64 d, .int .i64 1] W) → Calls Try.prog 38 #[.pointer (some ⟨g2, 0, none⟩), .int .i64 d, .bool true] W fun e w' => e = .returned (.int .i64 er) ∧ Hid (BxP base w0 g g2 n F R H rt mo (c + 1) s2 (c + 1) s2 go #[.int .i64 wh, .int .i64 d, .int .i64 1] w') := fun W hW => by
    have KK := hW.out.q.probe hc true d
    rw [her, hs2] at KK
    refine KK.mono ?_
    rintro e w' ⟨rfl, h9⟩
    exact ⟨rfl, hW.out.goQ h9⟩
  have HS2 : Hid ((anyP n s (fun j => (0, prbP F R H s j true)) d).2 = s2) := hs2
  have W1 : ∀ k, Hid (Fr (fun _ => False) wa (wa.drewN k)) := fun k => (Fr.refl _ _).drewN k
  have W2 : Hid (Fr (fun _ => False) wa wa.drew) := (Fr.refl _ _).drew
  clear her hs2
  go_upto_region 16 with (fail)
  go_region_held_law (fun w' => w'.cell? ⟨go, 1, none⟩ = some (.int .i64 d) ∧ w'.cell? ⟨go, 2, none⟩ = some (.int .i64 1)) (first | exact ⟨o1, o2⟩ | exact ⟨cell_of_heap X2.out.b rfl, cell_of_heap X2.out.b rfl⟩ | exact ⟨cell_of_heap X3.out.b rfl, cell_of_heap X3.out.b rfl⟩) (first | (go_at_call 24; refine (K1 _ (by first | exact W2 | exact W1 _)).mono ?_; rintro e w2 ⟨rfl, X2⟩) | (go_at_call 38; refine (K2 _ (by first | exact X2)).mono ?_; rintro e w3 ⟨rfl, X3⟩))
  have HX : Hid (PlyAs base w0 g g2 n F R H rt mo (c + 1) s2 w3) := ⟨X3.out.p, X3.out.q⟩
  clear K1 K2 W1 W2 X2 X3 o0 o1 o2 HO
  go_wp2_with (fail)
  go_ret
  exact ⟨by simp, by rw [HS2.out]; exact HX.out⟩
theorem play7b (hp : PI base w0 g n F R H rt mo c s wr) (hq : QI base w0 g2 n F R H rt mo c s wr) (hc : c ≤ 900000000000000000) (wh d v : Int) (hw : ∀ k : Int, 0 ≤ k → k ≤ 6 → wh ≠ k) (hv1 : ¬ v = 1) : Calls Try.prog 10 #[.pointer (some ⟨g, 0, none⟩), .pointer (some ⟨g2, 0, none⟩), .agg #[.int .i64 wh, .int .i64 d, .int .i64 v]] wr fun e w' => e = .returned (.bool true) ∧ Hid (PlyAs base w0 g g2 n F R H rt mo (c + 1) ((anyP n s (fun j => (0, prbP F R H s j false)) d).2) w') := by
  have a0 : (wh == 0) = false := by rw [beq_eq_false_iff_ne]; exact hw 0 (by decide) (by decide)
  have b0 : decide (wh = 0) = false := decide_eq_false (hw 0 (by decide) (by decide))
  have a1 : (wh == 1) = false := by rw [beq_eq_false_iff_ne]; exact hw 1 (by decide) (by decide)
  have b1 : decide (wh = 1) = false := decide_eq_false (hw 1 (by decide) (by decide))
  have a2 : (wh == 2) = false := by rw [beq_eq_false_iff_ne]; exact hw 2 (by decide) (by decide)
  have b2 : decide (wh = 2) = false := decide_eq_false (hw 2 (by decide) (by decide))
  have a3 : (wh == 3) = false := by rw [beq_eq_false_iff_ne]; exact hw 3 (by decide) (by decide)
  have b3 : decide (wh = 3) = false := decide_eq_false (hw 3 (by decide) (by decide))
  have a4 : (wh == 4) = false := by rw [beq_eq_false_iff_ne]; exact hw 4 (by decide) (by decide)
  have b4 : decide (wh = 4) = false := decide_eq_false (hw 4 (by decide) (by decide))
  have a5 : (wh == 5) = false := by rw [beq_eq_false_iff_ne]; exact hw 5 (by decide) (by decide)
  have b5 : decide (wh = 5) = false := decide_eq_false (hw 5 (by decide) (by decide))
  have a6 : (wh == 6) = false := by rw [beq_eq_false_iff_ne]; exact hw 6 (by decide) (by decide)
  have b6 : decide (wh = 6) = false := decide_eq_false (hw 6 (by decide) (by decide))
  clear hw
  have e2 : (v == 1) = false := by simpa using hv1
  have e3 : decide (v = 1) = false := decide_eq_false hv1
  have HP : Hid (PI base w0 g n F R H rt mo c s wr) := hp
  have HQ : Hid (QI base w0 g2 n F R H rt mo c s wr) := hq
  clear hp hq
  go_enter Try.func10, Try.ntmps10
  go_upto_region 1 with (fail)
  obtain ⟨wa, hwa⟩ : ∃ wa, wa = wr.alloc (Obj.cells #[.int .i64 wh, .int .i64 d, .int .i64 v] 34) := ⟨_, rfl⟩
  obtain ⟨go, hgo⟩ : ∃ go, go = wr.heap.size := ⟨_, rfl⟩
  have Fa : Hid (Fr (fun _ => False) wr wa) := by rw [hwa]; exact (Fr.refl _ _).alloc _
  have HO : Hid (BxP base w0 g g2 n F R H rt mo c s c s go #[.int .i64 wh, .int .i64 d, .int .i64 v] wa) := ⟨HP.out.later Fa.out, HQ.out.later Fa.out, by rw [hwa, hgo]; exact heap_alloc_new _ _⟩
  rw [← hwa, ← hgo]
  clear hwa hgo HP HQ Fa
  have o0 : wa.cell? ⟨go, 0, none⟩ = some (.int .i64 wh) := cell_of_heap HO.out.b rfl
  have o1 : wa.cell? ⟨go, 1, none⟩ = some (.int .i64 d) := cell_of_heap HO.out.b rfl
  have o2 : wa.cell? ⟨go, 2, none⟩ = some (.int .i64 v) := cell_of_heap HO.out.b rfl
  obtain ⟨er, her⟩ : ∃ er, (anyP n s (fun j => (0, prbP F R H s j false)) d).1 = er := ⟨_, rfl⟩
  obtain ⟨s2, hs2⟩ : ∃ s2, (anyP n s (fun j => (0, prbP F R H s j false)) d).2 = s2 := ⟨_, rfl⟩
  have K1 : ∀ W, Hid (Fr (fun _ => False) wa W) → Calls Try.prog 24 #[.pointer (some ⟨g, 0, none⟩), .int .i64 d, .bool false] W fun e w' => e = .returned (.int .i64 er) ∧ Hid (BxP base w0 g g2 n F R H rt mo (c + 1) s2 c s go #[.int .i64 wh, .int .i64 d, .int .i64 v] w') := fun W hW => by
    have hB := HO.out.later hW.out
    have KK := hB.p.probe2 hc false d
    rw [her, hs2] at KK
    refine KK.mono ?_
    rintro e w' ⟨rfl, h9⟩
    exact ⟨rfl, hB.goP h9⟩
  have K2 : ∀ W, Hid (BxP base w0 g g2 n F R H rt mo (c + 1) s2 c s go #[.int .i64 wh, .int .i64 d, .int .i64 v] W) → Calls Try.prog 38 #[.pointer (some ⟨g2, 0, none⟩), .int .i64 d, .bool false] W fun e w' => e = .returned (.int .i64 er) ∧ Hid (BxP base w0 g g2 n F R H rt mo (c + 1) s2 (c + 1) s2 go #[.int .i64 wh, .int .i64 d, .int .i64 v] w') := fun W hW => by
    have KK := hW.out.q.probe hc false d
    rw [her, hs2] at KK
    refine KK.mono ?_
    rintro e w' ⟨rfl, h9⟩
    exact ⟨rfl, hW.out.goQ h9⟩
  have HS2 : Hid ((anyP n s (fun j => (0, prbP F R H s j false)) d).2 = s2) := hs2
  have W1 : ∀ k, Hid (Fr (fun _ => False) wa (wa.drewN k)) := fun k => (Fr.refl _ _).drewN k
  have W2 : Hid (Fr (fun _ => False) wa wa.drew) := (Fr.refl _ _).drew
  clear her hs2
  go_upto_region 16 with (fail)
  go_region_held_law (fun w' => w'.cell? ⟨go, 1, none⟩ = some (.int .i64 d) ∧ w'.cell? ⟨go, 2, none⟩ = some (.int .i64 v)) (first | exact ⟨o1, o2⟩ | exact ⟨cell_of_heap X2.out.b rfl, cell_of_heap X2.out.b rfl⟩ | exact ⟨cell_of_heap X3.out.b rfl, cell_of_heap X3.out.b rfl⟩) (first | (go_at_call 24; refine (K1 _ (by first | exact W2 | exact W1 _)).mono ?_; rintro e w2 ⟨rfl, X2⟩) | (go_at_call 38; refine (K2 _ (by first | exact X2)).mono ?_; rintro e w3 ⟨rfl, X3⟩))
  have HX : Hid (PlyAs base w0 g g2 n F R H rt mo (c + 1) s2 w3) := ⟨X3.out.p, X3.out.q⟩
  clear K1 K2 W1 W2 X2 X3 o0 o1 o2 HO
  go_wp2_with (fail)
  go_ret
  exact ⟨by simp, by rw [HS2.out]; exact HX.out⟩
theorem plplay_in (hp : PI base w0 g n F R H rt mo c s wr) (hq : QI base w0 g2 n F R H rt mo c s wr) (hc : c ≤ 900000000000000000) (wh d v : Int) (hv : v ≤ 9223372036854775807) : Calls Try.prog 10 #[.pointer (some ⟨g, 0, none⟩), .pointer (some ⟨g2, 0, none⟩), .agg #[.int .i64 wh, .int .i64 d, .int .i64 v]] wr fun e w' => e = .returned (.bool true) ∧ Hid (PlyAs base w0 g g2 n F R H rt mo (c + 1) (plyP n F R H rt mo s wh d v) w') := by
  by_cases h0 : wh = 0
  · subst h0
    have e : plyP n F R H rt mo s 0 d v = _ := rfl
    exact play0 hp hq hc d v
  by_cases h1 : wh = 1
  · subst h1
    have e : plyP n F R H rt mo s 1 d v = _ := rfl
    exact play1 hp hq hc d v
  by_cases h2 : wh = 2
  · subst h2
    have e : plyP n F R H rt mo s 2 d v = _ := rfl
    exact play2 hp hq hc d v
  by_cases h3 : wh = 3
  · subst h3
    have e : plyP n F R H rt mo s 3 d v = _ := rfl
    exact play3 hp hq hc d v
  by_cases h4 : wh = 4
  · subst h4
    have e : plyP n F R H rt mo s 4 d v = _ := rfl
    exact play4 hp hq hc d v hv
  by_cases h5 : wh = 5
  · subst h5
    have e : plyP n F R H rt mo s 5 d v = _ := rfl
    exact play5 hp hq hc d v
  by_cases h6 : wh = 6
  · subst h6
    have e : plyP n F R H rt mo s 6 d v = _ := rfl
    exact play6 hp hq hc d v
  have e : plyP n F R H rt mo s wh d v = (anyP n s (fun j => (0, prbP F R H s j (v == 1))) d).2 := by unfold plyP; rw [if_neg h0, if_neg h1, if_neg h2, if_neg h3, if_neg h4, if_neg h5, if_neg h6]
  rw [e]
  have hw : ∀ k : Int, 0 ≤ k → k ≤ 6 → wh ≠ k := fun k k0 k6 => by omega
  by_cases h7 : v = 1
  · have e2 : (v == 1) = true := by rw [h7]; rfl
    rw [e2]
    exact play7a hp hq hc wh d v hw h7
  · have e2 : (v == 1) = false := by simpa using h7
    rw [e2]
    exact play7b hp hq hc wh d v hw h7
end
end Go.Proofs.Ytoiencoojkahmaa
