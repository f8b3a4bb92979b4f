/- The two queues side by side. -/
import Derived.Test.YtaflgioelblcgaaF5
import Derived.Test.YtaflgioelblcgaaF1
namespace Go.Proofs.Ytaflgioelblcgaa
open Go.RowKit
set_option linter.unusedVariables false

/-- What Add answers, and the chunks behind it. -/
def addErr (L : List (List UInt8)) : Int := if L.length = 4096 then 9 else 0
def addL (L : List (List UInt8)) (bs : List UInt8) : List (List UInt8) := if L.length = 4096 ∨ bs.length = 0 then L else L ++ [bs]

theorem qadd_any (b : Nat) (v : Value) (L : List (List UInt8)) (sp : Option Addr) (slen scap : Nat) (bs : List UInt8) (w : World) (hq : QueueIs w b v L) (hs : SrcAt w sp bs) (hlen : bs.length = slen) (hmax : slen ≤ 1048576) (htot : total L ≤ 1073741824) :
    Calls Try.prog 19 #[.pointer (some ⟨b, 0, none⟩), .slice sp slen scap] w fun e w' => e = .returned (.int .i64 (addErr L)) ∧
      ∃ v', QueueIs w' b v' (addL L bs) ∧ Fr (fun k => k = b ∨ v.ownBlock = some k) w w' ∧ (v'.ownBlock = v.ownBlock ∨ ∃ k, v'.ownBlock = some k ∧ w.heap.size ≤ k) := by
  have hL : L.length ≤ 4096 := by obtain ⟨xs, _, _, _, _, h, _⟩ := hq; exact h
  by_cases h1 : L.length = 4096
  · rw [addErr, if_pos h1, addL, if_pos (.inl h1)]
    refine (add_full b v L sp slen scap w hq h1).mono ?_
    rintro e w' ⟨rfl, rfl⟩
    exact ⟨rfl, v, hq, Fr.refl _ _, .inl rfl⟩
  · by_cases h2 : bs.length = 0
    · rw [addErr, if_neg h1, addL, if_pos (.inr h2)]
      obtain rfl : slen = 0 := by omega
      refine (add_empty b v L sp scap w hq (by omega)).mono ?_
      rintro e w' ⟨rfl, rfl⟩
      exact ⟨rfl, v, hq, Fr.refl _ _, .inl rfl⟩
    · rw [addErr, if_neg h1, addL, if_neg (by rintro (h | h); exact h1 h; exact h2 h)]
      exact add_some b v L sp slen scap bs w hq (by omega) hs hlen (by omega) hmax htot

theorem radd_any (b : Nat) (v : Value) (L : List (List UInt8)) (sp : Option Addr) (slen scap : Nat) (bs : List UInt8) (w : World) (hq : RefQ w b v L) (hs : SrcAt w sp bs) (hlen : bs.length = slen) (hmax : slen ≤ 1048576) :
    Calls Try.prog 20 #[.pointer (some ⟨b, 0, none⟩), .slice sp slen scap] w fun e w' => e = .returned (.int .i64 (addErr L)) ∧
      ∃ v', RefQ w' b v' (addL L bs) ∧ Fr (fun k => k = b ∨ v.ownBlock = some k) w w' ∧ (v'.ownBlock = v.ownBlock ∨ ∃ k, v'.ownBlock = some k ∧ w.heap.size ≤ k) := by
  have hL : L.length ≤ 4096 := by obtain ⟨xs, _, _, _, _, h, _⟩ := hq; exact h
  by_cases h1 : L.length = 4096
  · rw [addErr, if_pos h1, addL, if_pos (.inl h1)]
    refine (radd_full b v L sp slen scap w hq h1).mono ?_
    rintro e w' ⟨rfl, rfl⟩
    exact ⟨rfl, v, hq, Fr.refl _ _, .inl rfl⟩
  · by_cases h2 : bs.length = 0
    · rw [addErr, if_neg h1, addL, if_pos (.inr h2)]
      obtain rfl : slen = 0 := by omega
      refine (radd_empty b v L sp scap w hq (by omega)).mono ?_
      rintro e w' ⟨rfl, rfl⟩
      exact ⟨rfl, v, hq, Fr.refl _ _, .inl rfl⟩
    · rw [addErr, if_neg h1, addL, if_neg (by rintro (h | h); exact h1 h; exact h2 h)]
      exact radd_some b v L sp slen scap bs w hq (by omega) hs hlen (by omega) hmax

theorem total_addL (L : List (List UInt8)) (bs : List UInt8) : total (addL L bs) ≤ total L + bs.length := by
  unfold addL
  split
  · omega
  · rw [total_snoc]; exact Nat.le_refl _

theorem total_restL_le (L : List (List UInt8)) : ∀ n, total (restL L n) ≤ total L := by
  intro n
  by_cases h : n ≤ total L
  · rw [total_restL L n h]; omega
  · rw [restL_all L n (by omega)]; simp [total]

theorem qchunks_any (b : Nat) (v : Value) (L : List (List UInt8)) (w : World) (hq : QueueIs w b v L) :
    Calls Try.prog 25 #[.pointer (some ⟨b, 0, none⟩)] w fun e w' => e = .returned (.int .i64 (L.length : Nat)) ∧ w' = w := by
  obtain ⟨c0, c1, ⟨a, cap, rfl, c2⟩, -⟩ := hq.cells
  clear hq
  go_enter Try.func25, Try.ntmps25
  go_wp2
  go_ret
  exact ⟨rfl, rfl⟩

/-- Both queues, made since w: the program's in block b holds L, the document's in block c holds M. -/
structure QSt (w wr : World) (b c : Nat) (v v' : Value) (L M : List (List UInt8)) : Prop where
  q : QueueIs wr b v L
  r : RefQ wr c v' M
  f : Fr (fun _ => False) w wr
  bw : w.heap.size ≤ b
  cw : w.heap.size ≤ c
  ov : ∀ k, v.ownBlock = some k → w.heap.size ≤ k
  ov' : ∀ k, v'.ownBlock = some k → w.heap.size ≤ k
  ap : Ap v.ownBlock v'.ownBlock

theorem own_tag {w : World} {v : Value} {xs : List Value} (h : OwnAt w 31 v xs) (k : Nat) (hk : v.ownBlock = some k) : ∃ cur, w.heap[k]? = some (.cells cur 31 (0, 0)) := by
  rcases h with ⟨rfl, rfl⟩ | ⟨g, off, cap, cur, rfl, hg, _⟩
  · simp [Value.ownBlock] at hk
  · simp [Value.ownBlock] at hk; subst hk; exact ⟨cur, hg⟩

theorem tag_ne {w : World} {g k : Nat} {x y : Array Value} {t u : TypeId} (h1 : w.heap[g]? = some (.cells x t (0, 0))) (h2 : w.heap[k]? = some (.cells y u (0, 0))) (h : t ≠ u) : g ≠ k := by
  intro e
  subst e
  rw [h1] at h2
  cases h2
  exact h rfl

theorem QueueIs.keep {w w' : World} {b c : Nat} {v v' : Value} {L M : List (List UInt8)} (hq : QueueIs w b v L) (hr : RefQ w c v' M) (hap : Ap v.ownBlock v'.ownBlock) (hf : Fr (fun k => k = c ∨ v'.ownBlock = some k) w w') : QueueIs w' b v L := by
  obtain ⟨xs, h1, h2, h3, h4, h5, h6⟩ := hq
  obtain ⟨ys, q1, q2, q3, q4, q5, q6⟩ := hr
  have far : ∀ (g : Nat) (x : Array Value) (t : TypeId), w.heap[g]? = some (.cells x t (0, 0)) → t ≠ 48 → t ≠ 31 → w'.heap[g]? = w.heap[g]? := by
    intro g x t hg ht1 ht2
    refine hf.block g (lt_of_heap hg) ?_
    rintro (e | e)
    · exact tag_ne hg q1 ht1 e
    · obtain ⟨cur, hc⟩ := own_tag q2 g e; exact tag_ne hg hc ht2 rfl
  refine ⟨xs, by rw [far b _ 58 h1 (by decide) (by decide)]; exact h1, h2.fr hf (fun k hk => ?_), h3, h4, h5, fun j d hj => ?_⟩
  · rintro (e | e)
    · obtain ⟨cur, hc⟩ := own_tag h2 k hk; exact tag_ne hc q1 (by decide) e
    · exact hap k hk e
  · obtain ⟨u, hu, h0, g, o, cur, e1, e2, e3, e4, e5⟩ := h6 j d hj
    exact ⟨u, hu, h0, g, o, cur, e1, by rw [far g _ 5 e2 (by decide) (by decide)]; exact e2, e3, e4, e5⟩

theorem RefQ.keep {w w' : World} {b c : Nat} {v v' : Value} {L M : List (List UInt8)} (hq : QueueIs w b v L) (hr : RefQ w c v' M) (hap : Ap v.ownBlock v'.ownBlock) (hf : Fr (fun k => k = b ∨ v.ownBlock = some k) w w') : RefQ w' c v' M := by
  obtain ⟨xs, h1, h2, h3, h4, h5, h6⟩ := hq
  obtain ⟨ys, q1, q2, q3, q4, q5, q6⟩ := hr
  have nS : ∀ (g : Nat) (x : Array Value) (t : TypeId), w.heap[g]? = some (.cells x t (0, 0)) → t ≠ 58 → t ≠ 31 → ¬ (g = b ∨ v.ownBlock = some g) := by
    intro g x t hg ht1 ht2
    rintro (e | e)
    · exact tag_ne hg h1 ht1 e
    · obtain ⟨cur, hc⟩ := own_tag h2 g e; exact tag_ne hg hc ht2 rfl
  refine ⟨ys, by rw [hf.block c (lt_of_heap q1) (nS c _ 48 q1 (by decide) (by decide))]; exact q1, q2.fr hf (fun k hk => ?_), q3, q4, q5, fun j d hj => ?_⟩
  · rintro (e | e)
    · obtain ⟨cur, hc⟩ := own_tag q2 k hk; exact tag_ne hc h1 (by decide) e
    · exact hap k e hk
  · obtain ⟨u, hu, h0, g, o, cap, e1, e2, e3, ⟨cur, e6⟩, e4, e5⟩ := q6 j d hj
    have hn := nS g _ 5 e6 (by decide) (by decide)
    exact ⟨u, hu, h0, g, o, cap, e1, e2, e3.fr hf (fun a e _ => by cases e; exact hn), ⟨cur, by rw [hf.block g (lt_of_heap e6) hn]; exact e6⟩, e4, e5⟩

theorem QSt.qstep {w wr w2 : World} {b c : Nat} {v v' v2 : Value} {L M L2 : List (List UInt8)} (h : QSt w wr b c v v' L M) (hq : QueueIs w2 b v2 L2) (hf : Fr (fun k => k = b ∨ v.ownBlock = some k) wr w2) (hk : v2.ownBlock = v.ownBlock ∨ ∃ k, v2.ownBlock = some k ∧ wr.heap.size ≤ k) : QSt w w2 b c v2 v' L2 M := by
  refine ⟨hq, RefQ.keep h.q h.r h.ap hf, ?_, h.bw, h.cw, ?_, h.ov', ?_⟩
  · have h1 : Fr (fun k => w.heap.size ≤ k) w w2 := (h.f.mono (fun _ _ e => e.elim)).trans (hf.mono (fun k _ e => e.elim (fun e => by rw [e]; exact h.bw) (h.ov k)))
    exact h1.mono (fun k hk e => by omega)
  · intro k e
    rcases hk with h' | ⟨k', h', hk'⟩
    · exact h.ov k (by rw [← h']; exact e)
    · rw [h'] at e; cases e; have := h.f.size; omega
  · exact h.ap.new hk (fun g e => by obtain ⟨xs, _, q2, _⟩ := h.r; exact q2.lt g e)

theorem QSt.rstep {w wr w2 : World} {b c : Nat} {v v' v2 : Value} {L M M2 : List (List UInt8)} (h : QSt w wr b c v v' L M) (hr : RefQ w2 c v2 M2) (hf : Fr (fun k => k = c ∨ v'.ownBlock = some k) wr w2) (hk : v2.ownBlock = v'.ownBlock ∨ ∃ k, v2.ownBlock = some k ∧ wr.heap.size ≤ k) : QSt w w2 b c v v2 L M2 := by
  refine ⟨QueueIs.keep h.q h.r h.ap hf, hr, ?_, h.bw, h.cw, h.ov, ?_, ?_⟩
  · have h1 : Fr (fun k => w.heap.size ≤ k) w w2 := (h.f.mono (fun _ _ e => e.elim)).trans (hf.mono (fun k _ e => e.elim (fun e => by rw [e]; exact h.cw) (h.ov' k)))
    exact h1.mono (fun k hk e => by omega)
  · intro k e
    rcases hk with h' | ⟨k', h', hk'⟩
    · exact h.ov' k (by rw [← h']; exact e)
    · rw [h'] at e; cases e; have := h.f.size; omega
  · exact (h.ap.symm.new hk (fun g e => by obtain ⟨xs, _, q2, _⟩ := h.q; exact q2.lt g e)).symm

theorem QSt.fr {w wr w2 : World} {b c : Nat} {v v' : Value} {L M : List (List UInt8)} (h : QSt w wr b c v v' L M) (hf : Fr (fun _ => False) wr w2) : QSt w w2 b c v v' L M :=
  ⟨h.q.fr hf, h.r.fr hf, h.f.trans hf, h.bw, h.cw, h.ov, h.ov', h.ap⟩

end Go.Proofs.Ytaflgioelblcgaa
