/- Both tables side by side. -/
import Derived.Test.YtpnbpglmcaglfaaY4
namespace Go.Proofs.Ytpnbpglmcaglfaa
open Go.RowKit
set_option maxRecDepth 100000
set_option maxHeartbeats 8000000
set_option linter.unusedVariables false

/-- The program's table and the document's, made since w0, apart. -/
structure Both (w0 w : World) (t : Nat) (v : Value) (m : Nat) (E : List (ByteArray × ByteArray)) (r : Nat) (u : Value) (m' : Nat) (D : List (ByteArray × ByteArray)) : Prop where
  tab : Tab0 w0 w t v m E
  ref : RIs w r u m' D.reverse
  rlt : w0.heap.size ≤ r
  rown : ∀ k, u.ownBlock = some k → w0.heap.size ≤ k
  apart : ∀ k, (k = t ∨ v.ownBlock = some k) → ¬ (k = r ∨ u.ownBlock = some k)
theorem Both.below {w0 w w' : World} {t r m m' : Nat} {v u : Value} {E D : List (ByteArray × ByteArray)} (h : Both w0 w t v m E r u m' D) (b : Below w.heap.size w w') : Both w0 w' t v m E r u m' D :=
  ⟨h.tab.below b, h.ref.below b, h.rlt, h.rown, h.apart⟩
theorem Both.alloc {w0 w : World} {t r m m' : Nat} {v u : Value} {E D : List (ByteArray × ByteArray)} (h : Both w0 w t v m E r u m' D) (o : Obj) : Both w0 (w.alloc o) t v m E r u m' D := h.below ((Below.refl _ w).alloc (Nat.le_refl _) o)
theorem Both.new {w0 w : World} {m : Nat} (hb : Below w0.heap.size w0 w) (hm : m ≤ 65536) :
    Both w0 ((w.alloc (.cells #[.bool true, .int .i64 (m : Int), .int .i64 0, .slice none 0 0] 55)).alloc (.cells #[.int .i64 (m : Int), .slice none 0 0] 61)) w.heap.size (.slice none 0 0) m [] (w.alloc (.cells #[.bool true, .int .i64 (m : Int), .int .i64 0, .slice none 0 0] 55)).heap.size (.slice none 0 0) m [] := by
  have h1 := Tab0.new w m hm
  have h2 : Tab0 w0 (w.alloc (.cells #[.bool true, .int .i64 (m : Int), .int .i64 0, .slice none 0 0] 55)) w.heap.size (.slice none 0 0) m [] := ⟨h1.tab, hb.size, (fun k hk => by cases hk), hb.trans (h1.fr.mono hb.size), h1.most, h1.fits⟩
  refine ⟨h2.alloc _, ⟨heap_alloc_new _ _, rfl, .inl ⟨rfl, rfl⟩⟩, by have := hb.size; simp; omega, (fun k hk => by cases hk), ?_⟩
  rintro k (rfl | hk) (hr | hr)
  · simp at hr
  · cases hr
  · cases hk
  · cases hk
/-- The document's table has turned. -/
theorem Both.ref_turn {w0 w w' : World} {t r m m' m2 : Nat} {v u : Value} {E D D2 : List (ByteArray × ByteArray)} (h : Both w0 w t v m E r u m' D) (hp : RPost r m2 u D2 w w') : ∃ u', Both w0 w' t v m E r u' m2 D2 ∧ Fr (fun k => k = r) w w' := by
  obtain ⟨u', h1, h2, h3⟩ := hp
  have ht : TabIs w' t v m E := h.tab.tab.kept h3 (fun k hk hr => h.apart k hk (.inl hr))
  refine ⟨u', ⟨⟨ht, h.tab.lt, h.tab.own, ?_, h.tab.most, h.tab.fits⟩, h1, h.rlt, fun k hk => ?_, fun k hk hr => ?_⟩, h3⟩
  · exact h.tab.fr.trans ⟨h3.os, h3.tape, h3.output, h3.size, fun k hk => h3.block k (Nat.lt_of_lt_of_le hk h.tab.fr.size) (fun hs => by have := h.rlt; omega)⟩
  · rcases h2 k hk with e | e
    · exact h.rown k e
    · exact Nat.le_trans h.tab.fr.size e
  · rcases hr with hr | hr
    · exact h.apart k hk (.inl hr)
    · rcases h2 k hr with e | e
      · exact h.apart k hk (.inr e)
      · have := h.tab.tab.own_lt hk
        omega
/-- The program's table has turned. -/
theorem Both.tab_turn {w0 w w' : World} {t r m m' m2 : Nat} {v v2 u : Value} {E D E2 : List (ByteArray × ByteArray)} (h : Both w0 w t v m E r u m' D) (h1 : Tab0 w0 w' t v2 m2 E2) (h3 : Fr (fun k => k = t ∨ v.ownBlock = some k) w w') (h2 : ∀ k, v2.ownBlock = some k → v.ownBlock = some k ∨ w.heap.size ≤ k) : Both w0 w' t v2 m2 E2 r u m' D := by
  refine ⟨h1, h.ref.kept h3 (fun k hk hr => h.apart k hr hk), h.rlt, h.rown, fun k hk hr => ?_⟩
  rcases hk with hk | hk
  · exact h.apart k (.inl hk) hr
  · rcases h2 k hk with e | e
    · exact h.apart k (.inr e) hr
    · have := h.ref.own_lt hr
      omega
theorem FindOut.unique {E : List (ByteArray × ByteArray)} {n u : ByteArray} {a a' : Nat} {b b' : Bool} (h : FindOut E n u a b) (h' : FindOut E n u a' b') : a = a' ∧ b = b' := by
  rcases h with ⟨rfl, h1, h2, h3, h4⟩ | ⟨rfl, rfl, h2⟩ <;> rcases h' with ⟨rfl, k1, k2, k3, k4⟩ | ⟨rfl, rfl, k2⟩
  · refine ⟨?_, rfl⟩
    rcases Nat.lt_trichotomy a a' with hl | he | hg
    · exact absurd h3 (k4 (a - 1) (by omega))
    · exact he
    · exact absurd k3 (h4 (a' - 1) (by omega))
  · exact absurd h3 (k2 (a - 1) (by omega))
  · exact absurd k3 (h2 (a' - 1) (by omega))
  · exact ⟨rfl, rfl⟩

theorem same_in (t r m : Nat) (v u : Value) (E : List (ByteArray × ByteArray)) (w0 w : World) (h : Both w0 w t v m E r u m E) :
    Calls Try.prog 17 #[.pointer (some ⟨t, 0, none⟩), .pointer (some ⟨r, 0, none⟩)] w fun e w' => e = .returned (.bool true) ∧ Below w.heap.size w w' := by
  have H0 : Hid (Both w0 w t v m E r u m E) := h
  have HL : Hid (E.length ≤ 2048) := h.tab.len
  clear h
  go_enter Try.func17, Try.ntmps17
  go_wp2_with (fail)
  go_loopw [5] (fun x4 wr => ∃ k : Nat, x4 = .int .i64 (k : Int) ∧ k ≤ E.length + 1 ∧ Below w.heap.size w wr) (fun x4 wr => E.length + 1 - (intOf x4).toNat)
  case atStart => exact ⟨0, rfl, by omega, Below.refl _ _⟩
  case round =>
    obtain ⟨k, rfl, hk, hB⟩ := hrel
    have HB : Hid (Below w.heap.size w wr) := hB
    have HR : Hid (Both w0 wr t v m E r u m E) := H0.out.below hB
    obtain ⟨q, cap, hv⟩ := HR.out.ref.form
    obtain ⟨L, hL⟩ : ∃ L, E.length = L := ⟨_, rfl⟩
    have hL2 : L ≤ 2048 := by have := HL.out; omega
    have c1 : wr.cell? ⟨r, 1, none⟩ = some (.slice q L cap) := cell_of_heap HR.out.ref.at_ (by rw [hv]; simp [hL])
    have HLe : Hid (E.length = L) := hL
    clear hB hv
    by_cases hkL : k ≤ L
    · have KG := Get_any HR.out.tab (62 + (k : Int)) (by omega)
      have KR : Hid (∀ w', Below wr.heap.size wr w' → Calls Try.prog 31 #[.pointer (some ⟨r, 0, none⟩), .int .i64 (62 + (k : Int))] w' fun e w'' => e = .returned (.tuple #[.agg #[.string (gN E (62 + (k : Int))), .string (gV E (62 + (k : Int))), .bool false], .int .i64 (gE E (62 + (k : Int)))]) ∧ Below w'.heap.size w' w'') := fun w' b => rGet_in r m u E (62 + (k : Int)) w' (HR.out.ref.below b) HL.out
      generalize gN E (62 + (k : Int)) = gn at KG KR
      generalize gV E (62 + (k : Int)) = gv at KG KR
      have hge : gE E (62 + (k : Int)) = 0 ∨ gE E (62 + (k : Int)) = 50 := by unfold gE; split <;> simp
      generalize gE E (62 + (k : Int)) = ge at KG KR hge
      have hd1 : (k : Int) ≤ (L : Int) := by omega
      clear hL hge
      go_wp2_with (first
        | (go_at_call 19; refine KG.mono ?_; clear KG; rintro e w8 ⟨rfl, b8⟩; have B8 : Hid (Below wr.heap.size wr w8) := b8; clear b8)
        | (go_at_call 31; refine (KR.out _ (B8.out.alloc B8.out.size _)).mono ?_; clear KR; rintro e w9 ⟨rfl, b9⟩; have B9 : Hid (Below wr.heap.size wr w9) := (B8.out.alloc B8.out.size _).trans (b9.mono (Nat.le_trans B8.out.size (by simp))); have A9 : Hid (w9.heap[w8.heap.size]? = some (.cells #[.string gn, .string gv, .bool false] 23)) := heap_below b9 (by simp) (heap_alloc_new w8 _); clear b9; have p0 : ∀ o, (w9.alloc o).cell? ⟨w8.heap.size, 0, none⟩ = some (.string gn) := (fun o => cell_of_heap (heap_of_alloc A9.out o) rfl); have p1 : ∀ o, (w9.alloc o).cell? ⟨w8.heap.size, 1, none⟩ = some (.string gv) := (fun o => cell_of_heap (heap_of_alloc A9.out o) rfl); have p2 : ∀ o, (w9.alloc o).cell? ⟨w8.heap.size, 2, none⟩ = some (.bool false) := (fun o => cell_of_heap (heap_of_alloc A9.out o) rfl)))
      go_roundw
      case rel => exact ⟨k + 1, rfl, by have := HLe.out; omega, HB.out.trans ((B9.out.alloc B9.out.size _).mono HB.out.size)⟩
      case measure => have := HLe.out; simp only [intOf]; omega
    · have hdn : ¬ (k : Int) ≤ (L : Int) := by omega
      have KL : Hid (∀ w', Below wr.heap.size wr w' → Calls Try.prog 22 #[.pointer (some ⟨t, 0, none⟩)] w' fun e w'' => e = .returned (.int .i64 (L : Int)) ∧ w'' = w') := fun w' b => by have := Len0 (HR.out.tab.below b); rwa [hL] at this
      obtain ⟨T, hT⟩ : ∃ T, total E = T := ⟨_, rfl⟩
      have KB : Hid (∀ w', Below wr.heap.size wr w' → Calls Try.prog 23 #[.pointer (some ⟨t, 0, none⟩)] w' fun e w'' => e = .returned (.int .i64 (T : Int)) ∧ w'' = w') := fun w' b => by have := tBytes_in t m _ v w' (HR.out.tab.below b).tab.at_; rwa [hT] at this
      have KM : Hid (∀ w', Below wr.heap.size wr w' → Calls Try.prog 20 #[.pointer (some ⟨t, 0, none⟩)] w' fun e w'' => e = .returned (.int .i64 (m : Int)) ∧ w'' = w') := fun w' b => tMost_in t m _ v w' (HR.out.tab.below b).tab.at_
      have KR : Hid (∀ w', Below wr.heap.size wr w' → Calls Try.prog 32 #[.pointer (some ⟨r, 0, none⟩)] w' fun x w'' => x = .returned (.int .i64 (T : Int)) ∧ Hid (Below wr.heap.size wr w'')) := fun w' b => by
        have h1 := HR.out.tab.fits
        have h2 := HR.out.tab.most
        refine (rBytes_in r m _ _ w' (HR.out.ref.below b) (by rw [total_reverse]; omega)).mono ?_
        rintro x w'' ⟨rfl, b2⟩
        rw [total_reverse, hT]
        exact ⟨rfl, b.trans (b2.mono b.size)⟩
      have HC : Hid (∀ w', Below wr.heap.size wr w' → w'.cell? ⟨r, 1, none⟩ = some (.slice q L cap) ∧ w'.cell? ⟨r, 0, none⟩ = some (.int .i64 (m : Int))) := fun w' b => ⟨(b.cell (p := ⟨r, 1, none⟩) (HR.out.ref.own_lt (.inl rfl))).trans c1, cell_of_heap (HR.out.ref.below b).at_ rfl⟩
      obtain ⟨s1, s0⟩ := HC.out wr (Below.refl _ _)
      have BD : Hid (Below wr.heap.size wr wr.drew) := (Below.refl _ wr).drew
      clear hL hT c1 hkL hk
      go_wp2_with (fail)
      go_region_held_law (fun w' => w'.cell? ⟨r, 1, none⟩ = some (.slice q L cap) ∧ w'.cell? ⟨r, 0, none⟩ = some (.int .i64 (m : Int))) (first | exact ⟨s1, s0⟩ | exact ⟨t1, t0⟩ | go_keep)
        (first
          | (go_at_call 22; refine (KL.out _ BD.out).mono ?_; rintro x w2 ⟨rfl, rfl⟩)
          | (go_at_call 23; refine (KB.out _ BD.out).mono ?_; rintro x w3 ⟨rfl, rfl⟩)
          | (go_at_call 32; refine (KR.out _ BD.out).mono ?_; rintro x w4 ⟨rfl, B4⟩; obtain ⟨t1, t0⟩ := HC.out w4 B4.out)
          | (go_at_call 20; refine (KM.out _ B4.out).mono ?_; rintro x w5 ⟨rfl, rfl⟩))
      all_goals go_wp2_with (fail)
      all_goals go_ret
      all_goals exact ⟨rfl, HB.out.trans (B4.out.mono HB.out.size)⟩
end Go.Proofs.Ytpnbpglmcaglfaa
