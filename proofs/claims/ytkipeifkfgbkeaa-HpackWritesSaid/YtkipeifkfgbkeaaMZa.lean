/- Header blocks: the plain side. -/
import Derived.Test.YtkipeifkfgbkeaaJ1
import Derived.Test.YtkipeifkfgbkeaaX5
import Derived.Test.YtkipeifkfgbkeaaML0
import Derived.Deep.RegionHeldLaw
import Derived.BigQuiet
namespace Go.Proofs.Ytkipeifkfgbkeaa
open Go.RowKit
set_option maxRecDepth 100000
set_option maxHeartbeats 4000000
set_option linter.unusedVariables false

theorem putText_len (S : List UInt8) (b : Bool) : (putText S b).length ≤ 4 * S.length + 1000 + S.length := by
  unfold putText
  have h1 := encOut_le S
  split
  · have := putInt_len 128 7 (encOut S).length; rw [List.length_append]; omega
  · have := putInt_len 0 7 S.length; rw [List.length_append]; omega
theorem putInt_pos (f k n : Nat) : 0 < (putInt f k n).length := by
  unfold putInt
  split <;> simp
/-- The least index of a name and a value among the first entries; 0: none. -/
def hitAt (E : List (ByteArray × ByteArray)) (n u : ByteArray) : Nat → Nat
  | 0 => 0
  | k + 1 => if hitAt E n u k = 0 ∧ (entAt E k).1 = n ∧ (entAt E k).2 = u then k + 1 else hitAt E n u k
theorem hitAt_lo {E : List (ByteArray × ByteArray)} {n u : ByteArray} : ∀ {N : Nat}, (∀ j, j < N → entAt E j ≠ (n, u)) → hitAt E n u N = 0
  | 0, _ => rfl
  | N + 1, h => by
    rw [hitAt, if_neg (fun e => h N (by omega) (Prod.ext e.2.1 e.2.2))]
    exact hitAt_lo (fun j hj => h j (by omega))
theorem hitAt_hi {E : List (ByteArray × ByteArray)} {n u : ByteArray} {k : Nat} (h1 : entAt E k = (n, u)) (h2 : ∀ j, j < k → entAt E j ≠ (n, u)) : ∀ {N : Nat}, k < N → hitAt E n u N = k + 1
  | 0, h => by omega
  | N + 1, h => by
    by_cases hk : k < N
    · have := hitAt_hi h1 h2 hk
      rw [hitAt, if_neg (by omega)]
      exact this
    · obtain rfl : k = N := by omega
      rw [hitAt, if_pos ⟨hitAt_lo h2, congrArg Prod.fst h1, congrArg Prod.snd h1⟩]
/-- What Find answers, as a function. -/
def findF (E : List (ByteArray × ByteArray)) (n u : ByteArray) : Nat × Bool := if hitAt E n u (61 + E.length) = 0 then (nameAt E n (61 + E.length), false) else (hitAt E n u (61 + E.length), true)
theorem findF_of {E : List (ByteArray × ByteArray)} {n u : ByteArray} {a : Nat} {b : Bool} (h : FindOut E n u a b) : findF E n u = (a, b) := by
  rcases h with ⟨rfl, h1, h2, h3, h4⟩ | ⟨rfl, rfl, h2⟩
  · have := hitAt_hi h3 h4 (N := 61 + E.length) (by omega)
    rw [findF, this, if_neg (by omega), show a - 1 + 1 = a by omega]
  · rw [findF, if_pos (hitAt_lo h2)]
theorem hitAt_pos {E : List (ByteArray × ByteArray)} {n u : ByteArray} : ∀ {N : Nat}, 0 < hitAt E n u N → hitAt E n u N ≤ N ∧ entAt E (hitAt E n u N - 1) = (n, u)
  | 0, h => by simp [hitAt] at h
  | N + 1, h => by
    by_cases hc : hitAt E n u N = 0 ∧ (entAt E N).1 = n ∧ (entAt E N).2 = u
    · rw [hitAt, if_pos hc]
      exact ⟨Nat.le_refl _, Prod.ext hc.2.1 hc.2.2⟩
    · rw [hitAt, if_neg hc] at h ⊢
      have := hitAt_pos h
      exact ⟨by omega, this.2⟩
/-- What stands at the index that Find answers. -/
theorem findF_hit {E : List (ByteArray × ByteArray)} {n u : ByteArray} (h : (findF E n u).2 = true) : 0 < (findF E n u).1 ∧ (findF E n u).1 ≤ 61 + E.length ∧ entAt E ((findF E n u).1 - 1) = (n, u) := by
  unfold findF at h ⊢
  split at h
  · cases h
  · rename_i h0
    rw [if_neg h0]
    have := hitAt_pos (Nat.pos_of_ne_zero h0)
    exact ⟨Nat.pos_of_ne_zero h0, this⟩
theorem findF_name {E : List (ByteArray × ByteArray)} {n u : ByteArray} : (findF E n u).1 ≤ 61 + E.length ∧ (0 < (findF E n u).1 → (entAt E ((findF E n u).1 - 1)).1 = n) := by
  unfold findF
  split
  · refine ⟨?_, fun h => (nameAt_pos h).2⟩
    rcases Nat.eq_zero_or_pos (nameAt E n (61 + E.length)) with h0 | h0
    · simp only; omega
    · exact (nameAt_pos h0).1
  · rename_i h0
    have := hitAt_pos (Nat.pos_of_ne_zero h0)
    exact ⟨this.1, fun _ => congrArg Prod.fst this.2⟩

/-- A literal's bytes. -/
def litB (f k i : Nat) (n u : ByteArray) : List UInt8 := putInt f k i ++ (if i = 0 then putText (strB n) true else []) ++ putText (strB u) true
/-- A header's bytes. -/
def encH (m : Nat) (E : List (ByteArray × ByteArray)) (h : ByteArray × ByteArray × Bool) : List UInt8 :=
  if h.2.2 = true then litB 16 4 (findF E h.1 h.2.1).1 h.1 h.2.1 else
  if (findF E h.1 h.2.1).2 = true then putInt 128 7 (findF E h.1 h.2.1).1 else
  if h.1.size + h.2.1.size + 32 ≤ m then litB 64 6 (findF E h.1 h.2.1).1 h.1 h.2.1 else litB 0 4 (findF E h.1 h.2.1).1 h.1 h.2.1
/-- The table behind a header. -/
def nextE (m : Nat) (E : List (ByteArray × ByteArray)) (h : ByteArray × ByteArray × Bool) : List (ByteArray × ByteArray) :=
  if h.2.2 = true then E else if (findF E h.1 h.2.1).2 = true then E else if h.1.size + h.2.1.size + 32 ≤ m then added m E (h.1, h.2.1) else E
def encL (m : Nat) : List (ByteArray × ByteArray) → List (ByteArray × ByteArray × Bool) → List UInt8
  | _, [] => []
  | E, h :: l => encH m E h ++ encL m (nextE m E h) l
def tabL (m : Nat) : List (ByteArray × ByteArray) → List (ByteArray × ByteArray × Bool) → List (ByteArray × ByteArray)
  | E, [] => E
  | E, h :: l => tabL m (nextE m E h) l
theorem encL_snoc (m : Nat) : ∀ (l : List (ByteArray × ByteArray × Bool)) (E : List (ByteArray × ByteArray)) (h : ByteArray × ByteArray × Bool), encL m E (l ++ [h]) = encL m E l ++ encH m (tabL m E l) h ∧ tabL m E (l ++ [h]) = nextE m (tabL m E l) h
  | [], E, h => by simp [encL, tabL]
  | a :: l, E, h => by
    have := encL_snoc m l (nextE m E a) h
    simp only [List.cons_append, encL, tabL, this.1, this.2, List.append_assoc, and_self]
theorem nextE_fits {m : Nat} {E : List (ByteArray × ByteArray)} (hE : total E ≤ m) (h : ByteArray × ByteArray × Bool) : total (nextE m E h) ≤ m := by
  unfold nextE
  repeat' split
  all_goals first | exact hE | exact added_fits _ _ _
theorem tabL_fits {m : Nat} : ∀ (l : List (ByteArray × ByteArray × Bool)) {E : List (ByteArray × ByteArray)}, total E ≤ m → total (tabL m E l) ≤ m
  | [], E, h => h
  | a :: l, E, h => tabL_fits l (nextE_fits h a)
theorem fits_len {m : Nat} {E : List (ByteArray × ByteArray)} (hE : total E ≤ m) (hm : m ≤ 65536) : E.length ≤ 2048 := by
  have := total_len E; omega
/-- Headers whose texts are not too long. -/
def Short (h : ByteArray × ByteArray × Bool) : Prop := h.1.size ≤ 16384 ∧ h.2.1.size ≤ 16384
theorem litB_len (f k i : Nat) (n u : ByteArray) (hi : i ≤ 2109) (hn : n.size ≤ 16384) (hu : u.size ≤ 16384) : (litB f k i n u).length ≤ 170000 := by
  unfold litB
  have h1 := putInt_len f k i
  have h2 := putText_len (strB n) true
  have h3 := putText_len (strB u) true
  rw [strB_len] at h2 h3
  split <;> simp only [List.length_append, List.length_nil] <;> omega
theorem encH_len {m : Nat} {E : List (ByteArray × ByteArray)} {h : ByteArray × ByteArray × Bool} (hE : E.length ≤ 2048) (hs : Short h) : (encH m E h).length ≤ 170000 := by
  have h0 := (findF_name (E := E) (n := h.1) (u := h.2.1)).1
  unfold encH
  repeat' split
  all_goals first | exact litB_len _ _ _ _ _ (by omega) hs.1 hs.2 | (have := putInt_len 128 7 (findF E h.1 h.2.1).1; omega)
theorem encL_len {m : Nat} (hm : m ≤ 65536) : ∀ (l : List (ByteArray × ByteArray × Bool)) {E : List (ByteArray × ByteArray)}, total E ≤ m → (∀ h ∈ l, Short h) → (encL m E l).length ≤ 170000 * l.length
  | [], E, hE, hs => by simp [encL]
  | a :: l, E, hE, hs => by
    have h1 := encH_len (m := m) (fits_len hE hm) (hs a (by simp))
    have h2 := encL_len hm l (nextE_fits hE a) (fun h hh => hs h (by simp [hh]))
    simp only [encL, List.length_append, List.length_cons]
    omega

/-- The sizes that a block begins with. -/
def upd (told least last : Nat) : List Nat := if least < told ∧ least < last then [least, last] else if last = told then [] else [last]
def ups : List Nat → List UInt8
  | [] => []
  | s :: r => putInt 32 5 s ++ ups r
theorem ups_len : ∀ (U : List Nat), (∀ s ∈ U, s ≤ 65536) → (ups U).length ≤ 600 * U.length
  | [], _ => by simp [ups]
  | s :: r, h => by
    have h1 := putInt_len 32 5 s
    have h2 := ups_len r (fun x hx => h x (by simp [hx]))
    have h3 := h s (by simp)
    simp only [ups, List.length_append, List.length_cons]
    omega
/-- A block's bytes. -/
def encB (m told least : Nat) (E : List (ByteArray × ByteArray)) (l : List (ByteArray × ByteArray × Bool)) : List UInt8 := ups (upd told least m) ++ encL m E l
/-- A table behind size updates. -/
def stU : Nat → List (ByteArray × ByteArray) → List Nat → Nat × List (ByteArray × ByteArray)
  | m, E, [] => (m, E)
  | m, E, s :: r => stU s (fallen (s : Int) E) r
theorem fallen_id {n : Int} {E : List (ByteArray × ByteArray)} (h : ((total E : Nat) : Int) ≤ n) : fallen n E = E := by
  have := fallen_stop (n := n) (E := E) (i := 0) (by simpa using h)
  simpa using this
theorem fallen_twice {a b : Int} : ∀ {E : List (ByteArray × ByteArray)}, a ≤ b → fallen a (fallen b E) = fallen a E
  | [], _ => rfl
  | e :: r, h => by
    by_cases hb : b < ((total (e :: r) : Nat) : Int)
    · have e1 : fallen b (e :: r) = fallen b r := by rw [fallen, if_pos hb]
      have e2 : fallen a (e :: r) = fallen a r := by rw [fallen, if_pos (by omega)]
      rw [e1, e2, fallen_twice h]
    · rw [fallen_id (n := b) (by omega)]
/-- Both ends: the encoder's table is the decoder's, cut to the least size that came since. -/
theorem upd_meets {told least m : Nat} {D : List (ByteArray × ByteArray)} (hD : total D ≤ told) (h1 : least ≤ told) (h2 : least ≤ m) : stU told D (upd told least m) = (m, fallen (least : Int) D) := by
  unfold upd
  split
  · simp only [stU]
    have := fallen_fits (least : Int) D (by omega)
    rw [fallen_id (n := (m : Int)) (by omega)]
  · split
    · rename_i h3 h4
      subst h4
      obtain rfl : least = m := by omega
      simp only [stU]
      rw [fallen_id (by omega)]
    · simp only [stU]
      rename_i h3 h4
      rcases Nat.lt_or_ge least m with h5 | h5
      · obtain rfl : least = told := by omega
        rw [fallen_id (n := (m : Int)) (by omega), fallen_id (n := (least : Int)) (by omega)]
      · obtain rfl : least = m := by omega
        rfl
theorem upd_le {told least m b : Nat} (h1 : least ≤ b) (h2 : m ≤ b) : ∀ s ∈ upd told least m, s ≤ b := by
  unfold upd
  repeat' split
  all_goals simp
  all_goals omega

end Go.Proofs.Ytkipeifkfgbkeaa
/- Contracts of hpack's integer, text, literal, tooLong. -/
namespace Go.Proofs.Ytkipeifkfgbkeaa
open Go.RowKit
set_option maxRecDepth 100000
set_option maxHeartbeats 4000000
set_option linter.unusedVariables false

/-- A row of bytes is no row of another kind. -/
theorem OwnAt.fr_tag {w : World} {e e' : TypeId} {v : Value} {xs : List Value} {k : Nat} {cs : Array Value} {f : Nat × Nat} (h : OwnAt w e v xs) (hk : w.heap[k]? = some (.cells cs e' f)) (ho : v.ownBlock = some k) : e = e' := by
  rcases h with ⟨rfl, _⟩ | ⟨g, off, cap, cur, rfl, hg, _⟩
  · simp [Value.ownBlock] at ho
  · simp [Value.ownBlock] at ho
    subst ho
    rw [hg] at hk
    cases hk
    rfl
theorem integer_in (f k n : Nat) (w : World) (hf : f < 256) (h1 : 1 ≤ k) (h8 : k ≤ 8) (hz : f % 2 ^ k = 0) (hn : n ≤ 2147483647) :
    Calls Try.prog 29 #[.int .u8 f, .int .i64 k, .int .i64 n] w fun e w' => ∃ a c, e = .returned (.slice a (putInt f k n).length c) ∧ Gath w w' (.slice a (putInt f k n).length c) (putInt f k n) := by
  have K : Hid (Calls Try.prog 40 #[.int .u8 f, .int .i64 k, .int .i64 n] w fun e w' => ∃ v, e = .returned (.tuple #[v, .int .i64 0]) ∧ Gath w w' v (putInt f k n)) := put_ok f k n w hf h1 h8 hz hn
  generalize putInt f k n = B at K ⊢
  clear hf h1 h8 hz hn
  go_enter Try.func29, Try.ntmps29
  go_wp2_with (fail)
  refine K.out.mono ?_
  clear K
  rintro e w1 ⟨v, rfl, g⟩
  obtain ⟨a, c, rfl, -⟩ := g.1.form
  rw [bv_length] at g ⊢
  have HG : Hid (Gath w w1 (.slice a B.length c) B) := g
  clear g
  go_wp2_with (fail)
  go_ret
  exact ⟨_, _, rfl, HG.out⟩
theorem text_in (s : ByteArray) (w : World) (hs : s.size ≤ 16384) :
    Calls Try.prog 42 #[.string s] w fun e w' => ∃ a c, e = .returned (.slice a (putText (strB s) true).length c) ∧ Gath w w' (.slice a (putText (strB s) true).length c) (putText (strB s) true) := by
  have K : Hid (Calls Try.prog 48 #[.string s, .bool true] w fun e w' => ∃ v, e = .returned (.tuple #[v, .int .i64 0]) ∧ Gath w w' v (putText (strB s) true)) := ptext_ok s true w hs
  generalize putText (strB s) true = B at K ⊢
  clear hs
  go_enter Try.func42, Try.ntmps42
  go_wp2_with (fail)
  refine K.out.mono ?_
  clear K
  rintro e w1 ⟨v, rfl, g⟩
  obtain ⟨a, c, rfl, -⟩ := g.1.form
  rw [bv_length] at g ⊢
  have HG : Hid (Gath w w1 (.slice a B.length c) B) := g
  clear g
  go_wp2_with (fail)
  go_ret
  exact ⟨_, _, rfl, HG.out⟩
theorem literal_in (f k i : Nat) (n u : ByteArray) (s : Bool) (w : World) (hf : f < 256) (h1 : 1 ≤ k) (h8 : k ≤ 8) (hz : f % 2 ^ k = 0) (hi : i ≤ 2109) (hn : n.size ≤ 16384) (hu : u.size ≤ 16384) :
    Calls Try.prog 31 #[.int .u8 f, .int .i64 k, .int .i64 i, .agg #[.string n, .string u, .bool s]] w fun e w' => ∃ v, e = .returned v ∧ Gath w w' v (litB f k i n u) := by
  obtain ⟨j, hi1, hi2, hi3, hi4⟩ := info5
  have J1 : Hid (Try.prog.info? 5 = some j) := hi1
  have J2 : Hid (j.zero = some (.int .u8 0)) := hi2
  have J3 : Hid (j.size = 1) := hi3
  have J4 : Hid (j.bytes = 1) := hi4
  have hl := litB_len f k i n u hi hn hu
  have e1 : litB f k i n u = putInt f k i ++ (if i = 0 then putText (strB n) true else []) ++ putText (strB u) true := rfl
  have HB : Hid ((litB f k i n u).length ≤ 170000) := hl
  have KI : Hid (∀ w, Calls Try.prog 29 #[.int .u8 f, .int .i64 k, .int .i64 i] w fun e w' => ∃ a c, e = .returned (.slice a (putInt f k i).length c) ∧ Gath w w' (.slice a (putInt f k i).length c) (putInt f k i)) := fun w => integer_in f k i w hf h1 h8 hz (by omega)
  have KN : Hid (∀ w, Calls Try.prog 42 #[.string n] w fun e w' => ∃ a c, e = .returned (.slice a (putText (strB n) true).length c) ∧ Gath w w' (.slice a (putText (strB n) true).length c) (putText (strB n) true)) := fun w => text_in n w hn
  have KU : Hid (∀ w, Calls Try.prog 42 #[.string u] w fun e w' => ∃ a c, e = .returned (.slice a (putText (strB u) true).length c) ∧ Gath w w' (.slice a (putText (strB u) true).length c) (putText (strB u) true)) := fun w => text_in u w hu
  have HE : Hid (litB f k i n u = putInt f k i ++ (if i = 0 then putText (strB n) true else []) ++ putText (strB u) true) := e1
  have HX : Hid ((w.alloc (.cells #[.string n, .string u, .bool s] 59)).heap[w.heap.size]? = some (.cells #[.string n, .string u, .bool s] 59)) := heap_alloc_new _ _
  have HF0 : Hid (Fr (fun _ => False) w (w.alloc (.cells #[.string n, .string u, .bool s] 59))) := (Fr.refl _ w).alloc _
  generalize putInt f k i = PI at HE KI
  generalize putText (strB n) true = PN at HE KN
  generalize putText (strB u) true = PU at HE KU
  generalize litB f k i n u = L at HE HB ⊢
  clear hi1 hi2 hi3 hi4 hl e1 hf h1 h8 hz hn hu
  go_enter Try.func31, Try.ntmps31
  go_wp2_with (fail)
  generalize w.alloc (.cells #[.string n, .string u, .bool s] 59) = w0 at HX HF0 ⊢
  refine (KI.out _).mono ?_
  clear KI
  rintro e w1 ⟨a1, c1, rfl, g1⟩
  have HG1 : Hid (Gath w w1 (.slice a1 PI.length c1) PI) := g1.old HF0.out
  have HX1 : Hid (w1.heap[w.heap.size]? = some (.cells #[.string n, .string u, .bool s] 59)) := by show _ = _; rw [g1.2.2.block _ (lt_of_heap HX.out) id]; exact HX.out
  clear g1
  by_cases h0 : i = 0
  · subst h0
    have HE2 : Hid (L = PI ++ PN ++ PU) := by show _ = _; rw [HE.out, if_pos rfl]
    clear HE
    have q0 : w1.cell? ⟨w.heap.size, 0, none⟩ = some (.string n) := cell_of_heap HX1.out rfl
    go_wp2_with (fail)
    refine (KN.out _).mono ?_
    clear KN
    rintro e w2 ⟨a2, c2, rfl, g2⟩
    have HS2 : Hid (SrcAt w2 a2 PN) := own_src g2.1
    have HG2 : Hid (Gath w w2 (.slice a1 PI.length c1) PI) := HG1.out.fr g2.2.2
    have HX2 : Hid (w2.heap[w.heap.size]? = some (.cells #[.string n, .string u, .bool s] 59)) := by show _ = _; rw [g2.2.2.block _ (lt_of_heap HX1.out) id]; exact HX1.out
    have HB2 : Hid (PI.length + PN.length ≤ 225179981368371) := by show _ ≤ _; have := HB.out; rw [HE2.out] at this; simp at this; omega
    have hwl : w.heap.size < w2.heap.size := lt_of_heap HX2.out
    clear g2 q0
    go_wp2_with (at_builtin; refine wpList_gather rfl (.tmp 16) (.tmp 19) 35 35 rfl j Try.underlying35 Try.underlying35 J1.out J2.out J3.out J4.out (.slice a1 PI.length c1) PI (by go_simp) HG2.out a2 PN.length c2 (by go_simp) PN HS2.out rfl HB2.out ?_; intro a3 n3 c3 w3 Hn3 G3 Hf3; have HG3 : Hid (Gath w w3 (.slice a3 n3 c3) (PI ++ PN)) := G3; have HX3 : Hid (w3.heap[w.heap.size]? = some (.cells #[.string n, .string u, .bool s] 59)) := (show _ = _ from by rw [Hf3.out.block _ (lt_of_heap HX2.out) (fun e => absurd (HG2.out.1.fr_tag HX2.out e) (by decide))]; exact HX2.out); have q1 : w3.cell? ⟨w.heap.size, 1, none⟩ = some (.string u) := cell_of_heap HX3.out rfl; clear G3 Hf3)
    refine (KU.out _).mono ?_
    clear KU
    rintro e w4 ⟨a4, c4, rfl, g4⟩
    have HS4 : Hid (SrcAt w4 a4 PU) := own_src g4.1
    have HG4 : Hid (Gath w w4 (.slice a3 n3 c3) (PI ++ PN)) := HG3.out.fr g4.2.2
    have HB4 : Hid ((PI ++ PN).length + PU.length ≤ 225179981368371) := by show _ ≤ _; have := HB.out; rw [HE2.out] at this; simp at this ⊢; omega
    clear g4 q1
    go_wp2_with (at_builtin; refine wpList_gather rfl (.tmp 21) (.tmp 24) 35 35 rfl j Try.underlying35 Try.underlying35 J1.out J2.out J3.out J4.out (.slice a3 n3 c3) (PI ++ PN) (by go_simp) HG4.out a4 PU.length c4 (by go_simp) PU HS4.out rfl HB4.out ?_; intro a5 n5 c5 w5 Hn5 G5 Hf5; have HG5 : Hid (Gath w w5 (.slice a5 n5 c5) (PI ++ PN ++ PU)) := G5; clear G5 Hf5)
    go_ret
    exact ⟨_, rfl, HE2.out ▸ HG5.out⟩
  · have h0i : ¬ (i : Int) = 0 := by omega
    have HE2 : Hid (L = PI ++ PU) := by show _ = _; rw [HE.out, if_neg h0, List.append_nil]
    clear HE h0
    have q1 : w1.cell? ⟨w.heap.size, 1, none⟩ = some (.string u) := cell_of_heap HX1.out rfl
    go_wp2_with (fail)
    refine (KU.out _).mono ?_
    clear KU
    rintro e w4 ⟨a4, c4, rfl, g4⟩
    have HS4 : Hid (SrcAt w4 a4 PU) := own_src g4.1
    have HG4 : Hid (Gath w w4 (.slice a1 PI.length c1) PI) := HG1.out.fr g4.2.2
    have HB4 : Hid (PI.length + PU.length ≤ 225179981368371) := by show _ ≤ _; have := HB.out; rw [HE2.out] at this; simp at this ⊢; omega
    clear g4 q1
    go_wp2_with (at_builtin; refine wpList_gather rfl (.tmp 21) (.tmp 24) 35 35 rfl j Try.underlying35 Try.underlying35 J1.out J2.out J3.out J4.out (.slice a1 PI.length c1) PI (by go_simp) HG4.out a4 PU.length c4 (by go_simp) PU HS4.out rfl HB4.out ?_; intro a5 n5 c5 w5 Hn5 G5 Hf5; have HG5 : Hid (Gath w w5 (.slice a5 n5 c5) (PI ++ PU)) := G5; clear G5 Hf5)
    go_ret
    exact ⟨_, rfl, HE2.out ▸ HG5.out⟩
end Go.Proofs.Ytkipeifkfgbkeaa
/- An encoder in memory; contract of header. -/
namespace Go.Proofs.Ytkipeifkfgbkeaa
open Go.RowKit
set_option maxRecDepth 100000
set_option maxHeartbeats 8000000
set_option linter.unusedVariables false

/-- What stands behind an encoder: its table, and the sizes that the next block has to tell. -/
structure EncX (w : World) (x t : Nat) (v : Value) (m : Nat) (E : List (ByteArray × ByteArray)) (told least : Nat) : Prop where
  at_ : w.heap[x]? = some (.cells #[.pointer (some ⟨t, 0, none⟩), .int .i64 (told : Int), .int .i64 (least : Int)] 51 (0, 0))
  tab : TabIs w t v m E
  most : m ≤ 65536
  fits : total E ≤ m
  told_ : told ≤ 65536
  least_ : least ≤ told
theorem EncX.kept {S : Nat → Prop} {w w' : World} {x t : Nat} {v : Value} {m told least : Nat} {E : List (ByteArray × ByteArray)} (h : EncX w x t v m E told least) (f : Fr S w w') (hS : ∀ k, (k = x ∨ k = t ∨ v.ownBlock = some k) → ¬ S k) : EncX w' x t v m E told least :=
  ⟨by rw [f.block x (lt_of_heap h.at_) (hS x (.inl rfl))]; exact h.at_, h.tab.kept f (fun k hk => hS k (.inr hk)), h.most, h.fits, h.told_, h.least_⟩
theorem EncX.below {w w' : World} {x t : Nat} {v : Value} {m told least : Nat} {E : List (ByteArray × ByteArray)} (h : EncX w x t v m E told least) (b : Below w.heap.size w w') : EncX w' x t v m E told least :=
  h.kept (S := fun _ => False) (Fr.of_below b) (fun _ _ => id)
theorem EncX.len {w : World} {x t : Nat} {v : Value} {m told least : Nat} {E : List (ByteArray × ByteArray)} (h : EncX w x t v m E told least) : E.length ≤ 2048 := fits_len h.fits h.most
theorem EncX.lt {w : World} {x t : Nat} {v : Value} {m told least : Nat} {E : List (ByteArray × ByteArray)} (h : EncX w x t v m E told least) {k : Nat} (hk : k = x ∨ k = t ∨ v.ownBlock = some k) : k < w.heap.size := by
  rcases hk with rfl | hk
  · exact lt_of_heap h.at_
  · exact h.tab.own_lt hk
theorem EncX.ne {w : World} {x t : Nat} {v : Value} {m told least : Nat} {E : List (ByteArray × ByteArray)} (h : EncX w x t v m E told least) : ¬ (x = t ∨ v.ownBlock = some x) := by
  rintro (rfl | hk)
  · have h2 := h.tab.at_; unfold TabAt at h2; rw [h.at_] at h2; cases h2
  · rcases h.tab.row.2 with ⟨rfl, _⟩ | ⟨g, cap, cur, rfl, _, h2, _⟩
    · cases hk
    · cases hk; rw [h.at_] at h2; cases h2
/-- On the way through header. -/
structure HSt (x t : Nat) (v0 v : Value) (m told least : Nat) (E : List (ByteArray × ByteArray)) (n u : ByteArray) (s : Bool) (w w' : World) : Prop where
  enc : EncX w' x t v m E told least
  box : w'.heap[w.heap.size]? = some (.cells #[.string n, .string u, .bool s] 59)
  own : ∀ k, v.ownBlock = some k → v0.ownBlock = some k ∨ w.heap.size ≤ k
  fr : Fr (fun k => k = t ∨ v0.ownBlock = some k) w w'
theorem HSt.below {x t : Nat} {v0 v : Value} {m told least : Nat} {E : List (ByteArray × ByteArray)} {n u : ByteArray} {s : Bool} {w w1 w2 : World} (h : HSt x t v0 v m told least E n u s w w1) (b : Below w1.heap.size w1 w2) : HSt x t v0 v m told least E n u s w w2 :=
  ⟨h.enc.below b, heap_below b (lt_of_heap h.box) h.box, h.own, h.fr.trans (Fr.of_below b)⟩
theorem HSt.cells {x t : Nat} {v0 v : Value} {m told least : Nat} {E : List (ByteArray × ByteArray)} {n u : ByteArray} {s : Bool} {w w1 : World} (h : HSt x t v0 v m told least E n u s w w1) :
    w1.cell? ⟨x, 0, none⟩ = some (.pointer (some ⟨t, 0, none⟩)) ∧ w1.cell? ⟨w.heap.size, 0, none⟩ = some (.string n) ∧ w1.cell? ⟨w.heap.size, 1, none⟩ = some (.string u) ∧ w1.cell? ⟨w.heap.size, 2, none⟩ = some (.bool s) :=
  ⟨cell_of_heap h.enc.at_ rfl, cell_of_heap h.box rfl, cell_of_heap h.box rfl, cell_of_heap h.box rfl⟩
/-- What header leaves behind. -/
def HPost (x t : Nat) (v0 : Value) (m told least : Nat) (E : List (ByteArray × ByteArray)) (B : List UInt8) (a : Value) (w w' : World) : Prop :=
  ∃ v', EncX w' x t v' m E told least ∧ OwnAt w' 5 a (bv B) ∧ (∀ k, a.ownBlock = some k → w.heap.size ≤ k) ∧ Fr (fun k => k = t ∨ v0.ownBlock = some k) w w' ∧ (∀ k, v'.ownBlock = some k → v0.ownBlock = some k ∨ w.heap.size ≤ k)
theorem Gath.low {w0 w : World} {v : Value} {xs : List UInt8} (h : Gath w0 w v xs) : Below w0.heap.size w0 w := h.2.2.below (fun _ _ => id)
theorem HSt.out {x t : Nat} {v0 v : Value} {m told least : Nat} {E : List (ByteArray × ByteArray)} {n u : ByteArray} {s : Bool} {w w1 w2 : World} {a : Value} {B : List UInt8} (h : HSt x t v0 v m told least E n u s w w1) (g : Gath w1 w2 a B) : HPost x t v0 m told least E B a w w2 :=
  ⟨v, h.enc.below g.low, g.1, fun k hk => Nat.le_trans h.fr.size (g.2.1 k hk), h.fr.trans (Fr.of_below g.low), h.own⟩

theorem header_in (x t : Nat) (v : Value) (m told least : Nat) (E : List (ByteArray × ByteArray)) (n u : ByteArray) (s : Bool) (w : World) (h : EncX w x t v m E told least) (hs : Short (n, u, s)) :
    Calls Try.prog 20 #[.pointer (some ⟨x, 0, none⟩), .agg #[.string n, .string u, .bool s]] w fun e w' => ∃ a, e = .returned a ∧ HPost x t v m told least (nextE m E (n, u, s)) (encH m E (n, u, s)) a w w' := by
  have H0 : Hid (HSt x t v v m told least E n u s w (w.alloc (.cells #[.string n, .string u, .bool s] 59)).drew) := by
    refine ⟨h.below ((Below.refl _ w).alloc (Nat.le_refl _) _).drew, heap_alloc_new w _, fun k hk => .inl hk, ((Fr.refl _ w).alloc _).drew⟩
  have HC : Hid (∀ (v' : Value) (w' : World) (E' : List (ByteArray × ByteArray)), HSt x t v v' m told least E' n u s w w' → w'.cell? ⟨x, 0, none⟩ = some (.pointer (some ⟨t, 0, none⟩)) ∧ w'.cell? ⟨w.heap.size, 0, none⟩ = some (.string n) ∧ w'.cell? ⟨w.heap.size, 1, none⟩ = some (.string u) ∧ w'.cell? ⟨w.heap.size, 2, none⟩ = some (.bool s)) := fun v' w' E' h' => h'.cells
  have KF : Hid (∀ w', HSt x t v v m told least E n u s w w' → Calls Try.prog 30 #[.pointer (some ⟨t, 0, none⟩), .agg #[.string n, .string u, .bool s]] w' fun e w2 => ∃ (at_ : Nat) (b : Bool), e = .returned (.tuple #[.int .i64 (at_ : Int), .bool b]) ∧ Hid (FindOut E n u at_ b) ∧ Hid (HSt x t v v m told least E n u s w w2)) := fun w' h' =>
    (Find_in t m v E n u s w' h'.enc.tab h'.enc.len).mono (fun e w2 ⟨⟨a, b, e1, e2⟩, e3⟩ => ⟨a, b, e1, e2, h'.below e3⟩)
  have KA : Hid (∀ w', HSt x t v v m told least E n u s w w' → Calls Try.prog 33 #[.pointer (some ⟨t, 0, none⟩), .agg #[.string n, .string u, .bool s]] w' fun e w2 => e = .returned (.int .i64 0) ∧ ∃ v', Hid (HSt x t v v' m told least (added m E (n, u)) n u s w w2)) := fun w' h' => by
    refine (Add_in t m v E n u s w' h'.enc.tab h'.enc.most (Nat.le_trans h'.enc.fits h'.enc.most) (by have := hs.1; simp only at this; omega) (by have := hs.2; simp only at this; omega)).mono ?_
    rintro e w2 ⟨rfl, v', a1, a2, a3⟩
    have hx : ¬ (x = t ∨ v.ownBlock = some x) := h.ne
    have hb : ¬ (w.heap.size = t ∨ v.ownBlock = some w.heap.size) := fun hk => by have := h.lt (k := w.heap.size) (.inr hk); omega
    refine ⟨rfl, v', ⟨by rw [a3.block x (lt_of_heap h'.enc.at_) hx]; exact h'.enc.at_, a1, h'.enc.most, added_fits m E (n, u), h'.enc.told_, h'.enc.least_⟩, by rw [a3.block _ (lt_of_heap h'.box) hb]; exact h'.box, fun k hk => ?_, h'.fr.trans a3⟩
    rcases a2 k hk with e | e
    · exact .inl e
    · exact .inr (Nat.le_trans h'.fr.size e)
  have KS : Hid (∀ w', HSt x t v v m told least E n u s w w' → Calls Try.prog 32 #[.agg #[.string n, .string u, .bool s]] w' fun e w2 => e = .returned (.int .i64 ((n.size + u.size + 32 : Nat) : Int)) ∧ Hid (HSt x t v v m told least E n u s w w2)) := fun w' h' =>
    (Size_in n u s w' (by have := hs.1; simp only at this; omega) (by have := hs.2; simp only at this; omega)).mono (fun e w2 ⟨e1, e2⟩ => ⟨e1, by rw [e2]; exact h'.below ((Below.refl _ w').alloc (Nat.le_refl _) _)⟩)
  have KM : Hid (∀ w', HSt x t v v m told least E n u s w w' → Calls Try.prog 28 #[.pointer (some ⟨t, 0, none⟩)] w' fun e w2 => e = .returned (.int .i64 (m : Int)) ∧ w' = w2) := fun w' h' => (tMost_in t m _ v w' h'.enc.tab.at_).mono (fun e w2 ⟨e1, e2⟩ => ⟨e1, e2.symm⟩)
  have KL1 : Hid (∀ (i : Nat) w', i ≤ 2109 → Calls Try.prog 31 #[.int .u8 16, .int .i64 4, .int .i64 i, .agg #[.string n, .string u, .bool s]] w' fun e w2 => ∃ a, e = .returned a ∧ Hid (Gath w' w2 a (litB 16 4 i n u))) := fun i w' h5 => literal_in 16 4 i n u s w' (by decide) (by decide) (by decide) (by decide) h5 hs.1 hs.2
  have KL2 : Hid (∀ (i : Nat) w', i ≤ 2109 → Calls Try.prog 31 #[.int .u8 64, .int .i64 6, .int .i64 i, .agg #[.string n, .string u, .bool s]] w' fun e w2 => ∃ a, e = .returned a ∧ Hid (Gath w' w2 a (litB 64 6 i n u))) := fun i w' h5 => literal_in 64 6 i n u s w' (by decide) (by decide) (by decide) (by decide) h5 hs.1 hs.2
  have KL3 : Hid (∀ (i : Nat) w', i ≤ 2109 → Calls Try.prog 31 #[.int .u8 0, .int .i64 4, .int .i64 i, .agg #[.string n, .string u, .bool s]] w' fun e w2 => ∃ a, e = .returned a ∧ Hid (Gath w' w2 a (litB 0 4 i n u))) := fun i w' h5 => literal_in 0 4 i n u s w' (by decide) (by decide) (by decide) (by decide) h5 hs.1 hs.2
  have KI : Hid (∀ (i : Nat) w', i ≤ 2109 → Calls Try.prog 29 #[.int .u8 128, .int .i64 7, .int .i64 i] w' fun e w2 => ∃ a c, e = .returned (.slice a (putInt 128 7 i).length c) ∧ Hid (Gath w' w2 (.slice a (putInt 128 7 i).length c) (putInt 128 7 i))) := fun i w' h1 => integer_in 128 7 i w' (by decide) (by decide) (by decide) (by decide) (by omega)
  have HE : Hid (∀ a b, FindOut E n u a b → a ≤ 2109 ∧ encH m E (n, u, s) = (if s = true then litB 16 4 a n u else if b = true then putInt 128 7 a else if n.size + u.size + 32 ≤ m then litB 64 6 a n u else litB 0 4 a n u) ∧ nextE m E (n, u, s) = (if s = true then E else if b = true then E else if n.size + u.size + 32 ≤ m then added m E (n, u) else E)) := fun a b hF => by
    have e := findF_of hF
    have hl := h.len
    have h1 := (findF_name (E := E) (n := n) (u := u)).1
    rw [e] at h1
    refine ⟨by simp only at h1; omega, ?_, ?_⟩
    · simp only [encH, e]
    · simp only [nextE, e]
  obtain ⟨sz, hsz⟩ : ∃ sz, n.size + u.size + 32 = sz := ⟨_, rfl⟩
  rw [hsz] at KS HE
  generalize encH m E (n, u, s) = B at HE ⊢
  generalize nextE m E (n, u, s) = E' at HE ⊢
  generalize added m E (n, u) = E2 at HE KA
  have hmx : Try.prog.follows .mixedOrders = true := by kernel_rfl
  obtain ⟨c0, b0, b1, b2⟩ := HC.out _ _ _ H0.out
  clear h hs hsz
  go_enter Try.func20, Try.ntmps20
  go_wp2_with (fail)
  go_region_held_law (fun w' => w'.cell? ⟨x, 0, none⟩ = some (.pointer (some ⟨t, 0, none⟩)) ∧ w'.cell? ⟨w.heap.size, 0, none⟩ = some (.string n) ∧ w'.cell? ⟨w.heap.size, 1, none⟩ = some (.string u) ∧ w'.cell? ⟨w.heap.size, 2, none⟩ = some (.bool s)) (first | exact ⟨c0, b0, b1, b2⟩ | exact ⟨d0, y0, y1, y2⟩ | go_keep)
    (first | (go_at_call 30; refine (KF.out _ H0.out).mono ?_; rintro e w2 ⟨i, b, rfl, HF, H2⟩; obtain ⟨d0, y0, y1, y2⟩ := HC.out _ _ _ H2.out))
  all_goals obtain ⟨hi, hB, hE'⟩ := HE.out i b HF.out
  all_goals clear HE KF HF H0 c0 b0 b1 b2
  all_goals by_cases hs1 : s = true
  · subst hs1
    rw [if_pos rfl] at hB hE'
    subst hB
    subst hE'
    go_wp2_with (first | (go_at_call 31; refine (KL1.out i _ hi).mono ?_; rintro e w3 ⟨a3, rfl, G3⟩))
    go_ret
    exact ⟨_, rfl, H2.out.out G3.out⟩
  · obtain rfl : s = false := by simpa using hs1
    rw [if_neg (by simp)] at hB hE'
    clear hs1
    by_cases hb1 : b = true
    · subst hb1
      rw [if_pos rfl] at hB hE'
      subst hB
      subst hE'
      go_wp2_with (first | (go_at_call 29; refine (KI.out i _ hi).mono ?_; rintro e w3 ⟨a3, c3, rfl, G3⟩))
      go_ret
      exact ⟨_, rfl, H2.out.out G3.out⟩
    · obtain rfl : b = false := by simpa using hb1
      rw [if_neg (by simp)] at hB hE'
      clear hb1
      have H2d : Hid (HSt x t v v m told least E n u false w w2.drew) := H2.out.below (Below.refl _ w2).drew
      by_cases hz : sz ≤ m
      · have hzi : (sz : Int) ≤ (m : Int) := by omega
        rw [if_pos hz] at hB hE'
        subst hB
        subst hE'
        clear hz
        go_wp2_with (fail)
        go_region_held_law (fun w' => w'.cell? ⟨x, 0, none⟩ = some (.pointer (some ⟨t, 0, none⟩)) ∧ w'.cell? ⟨w.heap.size, 0, none⟩ = some (.string n) ∧ w'.cell? ⟨w.heap.size, 1, none⟩ = some (.string u) ∧ w'.cell? ⟨w.heap.size, 2, none⟩ = some (.bool false)) (first | exact ⟨d0, y0, y1, y2⟩ | exact ⟨f0, z0, z1, z2⟩ | go_keep)
          (first | (go_at_call 32; refine (KS.out _ H2d.out).mono ?_; rintro e w3 ⟨rfl, H3⟩; obtain ⟨f0, z0, z1, z2⟩ := HC.out _ _ _ H3.out) | (go_at_call 28; refine (KM.out _ H3.out).mono ?_; rintro e w4 ⟨rfl, rfl⟩))
        all_goals have H3d : Hid (HSt x t v v m told least E n u false w w3.drew) := H3.out.below (Below.refl _ w3).drew
        all_goals go_wp2_with (fail)
        all_goals go_region_held_law (fun w' => w'.cell? ⟨x, 0, none⟩ = some (.pointer (some ⟨t, 0, none⟩)) ∧ w'.cell? ⟨w.heap.size, 0, none⟩ = some (.string n) ∧ w'.cell? ⟨w.heap.size, 1, none⟩ = some (.string u) ∧ w'.cell? ⟨w.heap.size, 2, none⟩ = some (.bool false)) (first | exact ⟨f0, z0, z1, z2⟩ | exact ⟨g0, q0, q1, q2⟩ | go_keep)
          (first | (go_at_call 33; refine (KA.out _ H3d.out).mono ?_; rintro e w4 ⟨rfl, v4, H4⟩; obtain ⟨g0, q0, q1, q2⟩ := HC.out _ _ _ H4.out))
        all_goals go_wp2_with (first | (go_at_call 31; refine (KL2.out i _ hi).mono ?_; rintro e w5 ⟨a5, rfl, G5⟩))
        all_goals go_ret
        all_goals exact ⟨_, rfl, H4.out.out G5.out⟩
      · have hzi : ¬ (sz : Int) ≤ (m : Int) := by omega
        rw [if_neg hz] at hB hE'
        subst hB
        subst hE'
        clear hz
        go_wp2_with (fail)
        go_region_held_law (fun w' => w'.cell? ⟨x, 0, none⟩ = some (.pointer (some ⟨t, 0, none⟩)) ∧ w'.cell? ⟨w.heap.size, 0, none⟩ = some (.string n) ∧ w'.cell? ⟨w.heap.size, 1, none⟩ = some (.string u) ∧ w'.cell? ⟨w.heap.size, 2, none⟩ = some (.bool false)) (first | exact ⟨d0, y0, y1, y2⟩ | exact ⟨f0, z0, z1, z2⟩ | go_keep)
          (first | (go_at_call 32; refine (KS.out _ H2d.out).mono ?_; rintro e w3 ⟨rfl, H3⟩; obtain ⟨f0, z0, z1, z2⟩ := HC.out _ _ _ H3.out) | (go_at_call 28; refine (KM.out _ H3.out).mono ?_; rintro e w4 ⟨rfl, rfl⟩))
        all_goals go_wp2_with (first | (go_at_call 31; refine (KL3.out i _ hi).mono ?_; rintro e w5 ⟨a5, rfl, G5⟩))
        all_goals go_ret
        all_goals exact ⟨_, rfl, H3.out.out G5.out⟩
end Go.Proofs.Ytkipeifkfgbkeaa
