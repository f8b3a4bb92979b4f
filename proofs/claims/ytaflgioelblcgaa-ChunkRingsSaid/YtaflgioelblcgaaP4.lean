/- Contracts of the law's own function play: Put. -/
import Derived.Test.YtaflgioelblcgaaP3
namespace Go.Proofs.Ytaflgioelblcgaa
open Go.RowKit
set_option linter.unusedVariables false

theorem own_some {w : World} {e : TypeId} {a : Option Addr} {n c : Nat} {xs : List Value} (h : OwnAt w e (.slice a n c) xs) (k : Nat) (hk : (Value.slice a n c).ownBlock = some k) : ∃ off, a = some ⟨k, off, none⟩ := by
  rcases h with ⟨e, _⟩ | ⟨g, off, cap, cur, e, _⟩
  · cases e; simp [Value.ownBlock] at hk
  · simp only [Value.slice.injEq] at e
    obtain ⟨rfl, -⟩ := e
    simp [Value.ownBlock] at hk
    subst hk
    exact ⟨off, rfl⟩

set_option maxRecDepth 100000 in
set_option maxHeartbeats 1000000 in
theorem play_put (B b c : Nat) (sv v : Value) (L : List UInt8) (lim : Nat) (what nn : Int) (sp : Option Addr) (slen scap : Nat) (bs : List UInt8) (w : World) (h : Both w B b c sv v L lim) (hB : B ≤ w.heap.size) (hw : what = 0)
    (hs : SrcAt w sp bs) (hlen : bs.length = slen) (hcap : slen ≤ scap) (hmax : slen ≤ 140737488355328) (hsB : ∀ a, sp = some a → 0 < slen → a.block < B) :
    Calls Try.prog 10 #[.pointer (some ⟨b, 0, none⟩), .pointer (some ⟨c, 0, none⟩), .agg #[.int .i64 what, .int .i64 nn, .slice sp slen scap]] w fun e w' => e = .returned (.bool true) ∧ ∃ sv' v' L', Both w' B b c sv' v' L' lim ∧ Fr (fun k => B ≤ k) w w' := by
  subst hw
  obtain ⟨w0, hw0⟩ : ∃ w0, w0 = w.alloc (.cells #[.int .i64 0, .int .i64 nn, .slice sp slen scap] 33) := ⟨_, rfl⟩
  have hf0 : Fr (fun _ => False) w w0 := by rw [hw0]; exact (Fr.refl _ _).alloc _
  have hbx : w0.heap[w.heap.size]? = some (.cells #[.int .i64 0, .int .i64 nn, .slice sp slen scap] 33 (0, 0)) := by rw [hw0]; exact heap_alloc_new w _
  have B0 := h.fr hf0 id id (fun _ _ => id) (fun _ _ => id)
  have hlb := h.ring.lt
  have hlc := lt_of_heap h.ref.1
  have hls : w.heap.size < w0.heap.size := lt_of_heap hbx
  obtain ⟨x0, x1, x2⟩ := cell3 hbx
  have HB0 : Hid (Both w0 B b c sv v L lim) := B0
  have HF0 : Hid (Fr (fun _ => False) w w0) := hf0
  have HBX : Hid (w0.heap[w.heap.size]? = some (.cells #[.int .i64 0, .int .i64 nn, .slice sp slen scap] 33 (0, 0))) := hbx
  have hS1 : SrcAt ((w.alloc (Obj.cells #[Value.int IntKind.i64 0, Value.int IntKind.i64 nn, Value.slice sp slen scap] 33)).alloc (Obj.cells #[] 5)) sp bs := by rw [← hw0]; exact hs.fr (hf0.alloc _) (fun _ _ _ => id)
  have hE : OwnAt ((w.alloc (Obj.cells #[Value.int IntKind.i64 0, Value.int IntKind.i64 nn, Value.slice sp slen scap] 33)).alloc (Obj.cells #[] 5)) 5 (.slice (some ⟨w.heap.size + 1, 0, none⟩) 0 0) (bv []) := by
    have h9 := own_empty (w.alloc (Obj.cells #[Value.int IntKind.i64 0, Value.int IntKind.i64 nn, Value.slice sp slen scap] 33)) 5
    simpa using h9
  have hs1 : w0.heap.size = w.heap.size + 1 := by rw [hw0]; simp
  have HMF : Hid (∀ a4 n4 c4 w2, OwnAt w2 5 (.slice a4 n4 c4) (bv ([] ++ bs)) → Fr (fun k => (Value.slice (some ⟨w.heap.size + 1, 0, none⟩) 0 0).ownBlock = some k) ((w.alloc (Obj.cells #[Value.int IntKind.i64 0, Value.int IntKind.i64 nn, Value.slice sp slen scap] 33)).alloc (Obj.cells #[] 5)) w2 → ((Value.slice a4 n4 c4).ownBlock = (Value.slice (some ⟨w.heap.size + 1, 0, none⟩) 0 0).ownBlock ∨ ∃ k, (Value.slice a4 n4 c4).ownBlock = some k ∧ ((w.alloc (Obj.cells #[Value.int IntKind.i64 0, Value.int IntKind.i64 nn, Value.slice sp slen scap] 33)).alloc (Obj.cells #[] 5)).heap.size ≤ k) → ∃ g off, a4 = some ⟨g, off, none⟩ ∧ w0.heap.size ≤ g ∧ Fr (fun _ => False) w0 w2) := by
    intro a4 n4 c4 w2 hO hf hk
    have hf' : Fr (fun _ => False) w0 w2 := by
      rw [← hw0] at hf
      have h1 := Fr.trans ((Fr.refl _ w0).alloc _) hf
      exact h1.mono (fun k hk e => by simp [Value.ownBlock] at e; omega)
    have hk' : ∃ k, (Value.slice a4 n4 c4).ownBlock = some k ∧ w0.heap.size ≤ k := by
      rcases hk with h | ⟨k, h, hk⟩
      · exact ⟨w.heap.size + 1, h, by omega⟩
      · exact ⟨k, h, by simp at hk; omega⟩
    obtain ⟨k, hk1, hk2⟩ := hk'
    obtain ⟨off, ho⟩ := own_some hO k hk1
    exact ⟨k, off, ho, hk2, hf'⟩
  have HLEN : Hid (bs.length = slen) := hlen
  have HSV : Hid (∀ g, sv.ownBlock = some g → g < w.heap.size) := fun g hg => (h.ring.own_lt g hg).1
  have HBY : Hid (([] : List UInt8).length + slen ≤ 140737488355328) := by show _ ≤ _; simp; omega
  have HSB : Hid (∀ a, sp = some a → 0 < slen → a.block < B) := hsB
  have HS : Hid (SrcAt w sp bs) := hs
  obtain ⟨i, hi1, hi2', hi3, hi4⟩ := info5
  have J1 : Hid (Try.prog.info? 5 = some i) := hi1
  have J2 : Hid (i.zero = some (.int .u8 0)) := hi2'
  have J3 : Hid (i.size = 1) := hi3
  have J4 : Hid (i.bytes = 1) := hi4
  clear hi1 hi2' hi3 hi4 hs hlen B0 hf0 hbx h hsB hw0 x0 x1 x2
  go_enter Try.func10, Try.ntmps10
  go_wp2_with (at_builtin; refine wpList_append_bytes rfl (.tmp 17) (.tmp 19) 31 31 rfl 5 i Try.underlying31 Try.underlying31 J1.out J2.out J3.out J4.out (.slice (some ⟨w.heap.size + 1, 0, none⟩) 0 0) [] (by go_simp) hE sp slen scap (by go_simp) bs hS1 HLEN.out HBY.out ?_; intro a4 n4 c4 w2 Hn4 O2 hf2 hk2; obtain ⟨g, off, ha4, hg, hF2⟩ := HMF.out a4 n4 c4 w2 O2 hf2.out hk2.out; rw [ha4] at O2 ⊢; clear ha4 hf2 hk2)
  have HF2 : Hid (Fr (fun _ => False) w0 w2) := hF2
  have O2' : OwnAt w2 5 (.slice (some ⟨g, off, none⟩) n4 c4) (bv bs) := O2
  obtain ⟨en, hnc⟩ := own_len O2'
  have HN4 : Hid (n4 = slen) := by show _ = _; rw [en]; exact HLEN.out
  obtain ⟨n1, hn1⟩ : ∃ n1, n1 = min n4 (lim - L.length) := ⟨_, rfl⟩
  have HN1 : Hid (n1 = min n4 (lim - L.length)) := hn1
  have HG : Hid (∀ g', sv.ownBlock = some g' → g' ≠ g) := by
    intro g' hg' e
    have := (HB0.out.ring.own_lt g' hg').1
    omega
  have hlt0 := lt_of_heap HB0.out.ref.1
  have hlt1 := HB0.out.ring.lt
  have hput := put_any b sv L lim (some ⟨g, off, none⟩) n4 c4 bs w2 (HB0.out.ring.fr hF2 id (fun _ _ => id)) (own_src O2') (by omega) hnc (fun a e _ => by cases e; exact ⟨O2'.lt g rfl, by show g ≠ b; omega, fun e' => HG.out _ e' rfl⟩) n1 hn1
  have HP : Hid (Calls Try.prog 16 #[.pointer (some ⟨b, 0, none⟩), .slice (some ⟨g, off, none⟩) n4 c4] w2 fun e w' => e = .returned (.int .i64 n1) ∧ ∃ sv', RingIs w' b sv' (L ++ bs.take n1) lim ∧ Fr (fun k => k = b ∨ sv.ownBlock = some k) w2 w' ∧ (sv'.ownBlock = sv.ownBlock ∨ ∃ k, sv'.ownBlock = some k ∧ w2.heap.size ≤ k)) := hput
  clear hput hn1 en hF2 O2 hE hS1 HMF
  refine HP.out.mono ?_
  rintro e w3 ⟨rfl, sv', hr3, hf3, hk3⟩
  have O3 : OwnAt w3 5 (.slice (some ⟨g, off, none⟩) n4 c4) (bv bs) := O2'.fr hf3 (fun k hk e => by
    simp [Value.ownBlock] at hk
    subst hk
    rcases e with e | e
    · omega
    · exact HG.out _ e rfl)
  have HL : Hid (∃ Y : List UInt8, Y.length = n4 ∧ OwnAt w3 5 (.slice (some ⟨g, off, none⟩) n4 c4) (bv Y) ∧ Fr (fun x => x = g) w3 w3) := ⟨bs, (own_len O3).1.symm, O3, Fr.refl _ _⟩
  have HF3 : Hid (Fr (fun k => k = b ∨ sv.ownBlock = some k) w2 w3) := hf3
  have HK3 : Hid (sv'.ownBlock = sv.ownBlock ∨ ∃ k, sv'.ownBlock = some k ∧ w2.heap.size ≤ k) := hk3
  have HGL : Hid (g < w2.heap.size) := O2'.lt g rfl
  have hn4i : (n4 : Int) ≤ 140737488355328 := by have := HN4.out; omega
  clear O2' O3 hf3 hk3 HP
  go_wp2
  go_loopw [9] (fun i wr => ∃ k : Nat, k ≤ n4 ∧ i = .int .i64 k ∧ ∃ Y : List UInt8, Y.length = n4 ∧ OwnAt wr 5 (.slice (some ⟨g, off, none⟩) n4 c4) (bv Y) ∧ Fr (fun x => x = g) w3 wr) (fun i _ => n4 - (intOf i).toNat)
  case atStart => exact ⟨0, Nat.zero_le _, rfl, HL.out⟩
  case round =>
    obtain ⟨k, hk, rfl, Y, hY, hO, hF⟩ := hrel
    have HY : Hid (Y.length = n4) := hY
    have HF : Hid (Fr (fun x => x = g) w3 wr) := hF
    clear hY hF HL
    by_cases hlt : k < n4
    · have hlt' : (k : Int) < (n4 : Int) := by omega
      obtain ⟨y, hc, hz⟩ := own_cell hO k (by rw [HY.out]; exact hlt)
      have HO : Hid (OwnAt wr 5 (.slice (some ⟨g, off, none⟩) n4 c4) (bv Y)) := hO
      clear hO
      go_wp2
      go_roundw
      case rel =>
        rw [byte_next]
        have h9 := own_set HO.out k (by rw [HY.out]; exact hlt) (y + 1)
        exact ⟨k + 1, by omega, by go_num, Y.set k (y + 1), by rw [List.length_set]; exact HY.out, h9, Fr.setB HF.out _ _⟩
      case measure => simp [intOf]; omega
    · have hlt' : ¬ ((k : Int) < (n4 : Int)) := by omega
      have h13 : Fr (fun x => x = b ∨ sv.ownBlock = some x ∨ w0.heap.size ≤ x) w0 w3 := Fr.trans (HF2.out.mono (fun _ _ e => e.elim)) (HF3.out.mono (fun x _ e => e.elim Or.inl (fun h => Or.inr (Or.inl h))))
      have hall : Fr (fun x => x = b ∨ sv.ownBlock = some x ∨ w0.heap.size ≤ x) w0 wr := Fr.trans h13 (HF.out.mono (fun x _ e => Or.inr (Or.inr (by omega))))
      have hbx : wr.heap[w.heap.size]? = some (.cells #[.int .i64 0, .int .i64 nn, .slice sp slen scap] 33 (0, 0)) := by
        rw [hall.block _ (by omega) (fun e => by
          rcases e with e | e | e
          · omega
          · have := HSV.out _ e; omega
          · omega)]
        exact HBX.out
      obtain ⟨t0, t1, t2⟩ := cell3 hbx
      have hRef : RefIs wr c v L lim := HB0.out.ref.fr hall (fun e => by
          rcases e with e | e | e
          · exact HB0.out.bc e.symm
          · exact HB0.out.sc e
          · omega) (fun x hx e => by
          rcases e with e | e | e
          · exact HB0.out.vb (by rw [hx, e])
          · exact HB0.out.ap x e hx
          · have := HB0.out.ref.2.1.lt x hx; omega)
      have hSrc : SrcAt wr sp bs := HS.out.fr (Fr.trans (HF0.out.mono (fun _ _ e => e.elim)) hall) (fun a e h0 => by
        have h1 := HSB.out a e (by have := HLEN.out; omega)
        intro e'
        rcases e' with e' | e' | e'
        · have := HB0.out.hb; omega
        · have := HB0.out.hs _ e'; omega
        · omega)
      have HRP : Hid (Calls Try.prog 28 #[.pointer (some ⟨c, 0, none⟩), .slice sp slen scap] wr fun e w' => e = .returned (.int .i64 n1) ∧ ∃ v', RefIs w' c v' (L ++ bs.take n1) lim ∧ Fr (fun k => k = c ∨ v.ownBlock = some k) wr w' ∧ (v'.ownBlock = v.ownBlock ∨ ∃ k, v'.ownBlock = some k ∧ wr.heap.size ≤ k)) := rput c v L lim sp slen scap bs wr hRef hSrc HLEN.out hcap n1 (by rw [← HN4.out]; exact HN1.out)
      have HALL : Hid (Fr (fun x => x = b ∨ sv.ownBlock = some x ∨ w0.heap.size ≤ x) w0 wr) := hall
      clear hall h13 hbx hRef hSrc hO
      go_wp2_with fail
      refine HRP.out.mono ?_
      rintro e w5 ⟨rfl, v', hR5, hf5, hk5⟩
      have HF5 : Hid (Fr (fun k => k = c ∨ v.ownBlock = some k) wr w5) := hf5
      have HK5 : Hid (v'.ownBlock = v.ownBlock ∨ ∃ k, v'.ownBlock = some k ∧ wr.heap.size ≤ k) := hk5
      clear hf5 hk5
      go_wp2
      go_ret
      have hR3 : RingIs wr b sv' (L ++ bs.take n1) lim := hr3.fr HF.out (by omega) (fun x hx e => by
        rcases HK3.out with h | ⟨k', h, hk'⟩
        · exact HG.out x (by rw [← h]; exact hx) e
        · rw [h] at hx; cases hx; have := HGL.out; omega)
      have hb := both_step HB0.out hR3 (HALL.out.mono (fun x hx e => by
          rcases e with e | e | e
          · exact Or.inl e
          · exact Or.inr e
          · omega)) (by
          rcases HK3.out with h | ⟨k', h, hk'⟩
          · exact Or.inl h
          · exact Or.inr ⟨k', h, by have := HF2.out.size; omega⟩) hR5 HF5.out HK5.out (by have := HF0.out.size; omega)
      exact ⟨rfl, sv', v', _, hb.1, Fr.trans (HF0.out.mono (fun _ _ e => e.elim)) hb.2⟩

end Go.Proofs.Ytaflgioelblcgaa
