/- Contract of the program's pieces of a frame: the function itself. -/
import Derived.Test.YtpjbgjgaigkbcaaGreatFg
import Derived.Test.YtpjbgjgaigkbcaaGreatFb2
import Derived.Test.YtpjbgjgaigkbcaaGreatFb3
import Derived.Laws.EntriesVeiled
import Derived.Test.YtpjbgjgaigkbcaaGreatFy
namespace Go.Proofs.YtpjbgjgaigkbcaaGreat
open Go.RowKit
set_option linter.unusedVariables false
set_option maxRecDepth 100000
set_option maxHeartbeats 4000000

/-- What the pieces' maker answers. -/
def PcsAs (w : World) (o : Int × List (List UInt8)) (e : Ending) (w' : World) : Prop := ∃ a c, e = .returned (.tuple #[.slice a o.2.length c, .int .i64 o.1]) ∧ Pcs w w' (.slice a o.2.length c) o.2

/-- The state of the pieces' maker: the frame in the block g, pieces so far. -/
structure PSt (w0 : World) (f : Fra) (p q : Option Addr) (cp cq g : Nat) (v : Value) (Xs : List (List UInt8)) (w : World) : Prop where
  at_ : FAt w g f p cp q cq
  in_ : FrIn w f p q cq
  pcs : Pcs w0 w v Xs
theorem PSt.later {w0 w w' : World} {f : Fra} {p q : Option Addr} {cp cq g : Nat} {v : Value} {Xs : List (List UInt8)} (h : PSt w0 f p q cp cq g v Xs w) (hf : Fr (fun _ => False) w w') : PSt w0 f p q cp cq g v Xs w' :=
  ⟨h.at_.later hf, h.in_.later hf, h.pcs.later hf⟩
theorem PSt.put {w0 w w' : World} {f : Fra} {p q : Option Addr} {cp cq g : Nat} {v v' : Value} {Xs Ys : List (List UInt8)} (h : PSt w0 f p q cp cq g v Xs w) (h0 : FAt w0 g f p cp q cq) (h1 : FrIn w0 f p q cq) (hP : Pcs w0 w' v' Ys) : PSt w0 f p q cp cq g v' Ys w' := by
  have hf : Fr (fun _ => False) w0 w' := by obtain ⟨vs, _, _, h, _⟩ := hP; exact h
  exact ⟨h0.later hf, h1.later hf, hP⟩
theorem piece_apart {w0 w : World} {v : Value} {Xs : List (List UInt8)} (hP : Pcs w0 w v Xs) {p sp : Option Addr} {X Y : List UInt8} (hp : SrcAt w0 p X) {w' : World} (hs : SrcAt w' sp Y) (h : sp = p ∧ Y = X ∨ ∀ ad, sp = some ad → w.heap.size ≤ ad.block) : ∀ ad, sp = some ad → 0 < Y.length → v.ownBlock ≠ some ad.block := by
  intro ad e hl e2
  have h1 := hP.lt e2
  obtain ⟨vs, _, h2, _⟩ := hP
  have h3 := h2 _ e2
  rcases h with ⟨rfl, rfl⟩ | h
  · obtain ⟨ad', e3, hc⟩ := hp 0 Y[0] (by simp)
    rw [e] at e3
    cases e3
    have := World.block_lt_of_cell? _ _ hc
    have hb : (ad.add 0).block = ad.block := by unfold Addr.add; split <;> rfl
    omega
  · have := h ad e
    omega

theorem write_in (f : Fra) (p q : Option Addr) (cp cq : Nat) (w : World) (hin : FrIn w f p q cq) (h0 : 0 ≤ f.fl) (h1 : f.fl ≤ 255) (hpad : padd f = true → 0 ≤ f.pad ∧ f.pad ≤ 255) :
    Calls Tryz.prog 47 #[.agg #[.int .i64 f.k, .int .i64 f.fl, .int .i64 f.st, .slice p f.X.length cp, .int .i64 f.pad, .int .u32 f.code, .int .i64 f.last, .int .i64 f.inc, .int .i64 f.dep, .bool f.only, .int .i64 f.wt, .slice q f.Y.length cq]] w fun e w' => PcsAs w (allP f) e w' := by
  obtain ⟨W, hW⟩ : ∃ W, W = w.alloc (.cells #[.int .i64 f.k, .int .i64 f.fl, .int .i64 f.st, .slice p f.X.length cp, .int .i64 f.pad, .int .u32 f.code, .int .i64 f.last, .int .i64 f.inc, .int .i64 f.dep, .bool f.only, .int .i64 f.wt, .slice q f.Y.length cq] 66) := ⟨_, rfl⟩
  have hfw : Fr (fun _ => False) w W := by rw [hW]; exact (Fr.refl _ _).alloc _
  have h00 : FAt W w.heap.size f p cp q cq := by rw [hW]; exact heap_alloc_new w _
  have HF : Hid (FAt W w.heap.size f p cp q cq) := h00
  have HI : Hid (FrIn W f p q cq) := hin.later hfw
  have HFW : Hid (Fr (fun _ => False) w W) := hfw
  have KP : Hid (∀ w, Calls Tryz.prog 59 #[.agg #[.int .i64 f.k, .int .i64 f.fl, .int .i64 f.st, .slice p f.X.length cp, .int .i64 f.pad, .int .u32 f.code, .int .i64 f.last, .int .i64 f.inc, .int .i64 f.dep, .bool f.only, .int .i64 f.wt, .slice q f.Y.length cq]] w fun e w' => e = .returned (.bool (padd f)) ∧ Fr (fun _ => False) w w') := fun w => padded_in f p q cp cq w h0 h1
  have KL : Hid (∀ w, Calls Tryz.prog 61 #[.agg #[.int .i64 f.k, .int .i64 f.fl, .int .i64 f.st, .slice p f.X.length cp, .int .i64 f.pad, .int .u32 f.code, .int .i64 f.last, .int .i64 f.inc, .int .i64 f.dep, .bool f.only, .int .i64 f.wt, .slice q f.Y.length cq]] w fun e w' => (∃ sp, e = .returned (.slice sp (partsOf f).length (partsOf f).length) ∧ PartsAt w' sp (partsOf f)) ∧ Fr (fun _ => False) w w') := fun w => parts_in f p q cp cq w h0 h1
  have KW : Hid (∀ j, j < 7 → ∀ v Xs w', PSt W f p q cp cq w.heap.size v Xs w' → Calls Tryz.prog (wfn j) #[.pointer (some ⟨w.heap.size, 0, none⟩)] w' fun e w2 => PieceAs w' p f.X (pieceO j f) e w2 ∧ Fr (fun _ => False) w' w2) := fun j hj v Xs w' hS => writer_in j hj f p q cp cq w.heap.size w' hS.at_ hS.in_ h0 h1
  have S0 : Hid (PSt W f p q cp cq w.heap.size (.slice none 0 0) [] W) := ⟨h00, hin.later hfw, Pcs.ofNil (Fr.refl _ _)⟩
  obtain ⟨js, hjs⟩ : ∃ js, partsOf f = js := ⟨_, rfl⟩
  have H7 : Hid (∀ j ∈ js, j < 7) := by rw [← hjs]; exact partsOf_lt
  obtain ⟨n, hn⟩ : ∃ n, js.length = n := ⟨_, rfl⟩
  have HN3 : n ≤ 3 := by rw [← hn, ← hjs]; exact partsOf_few f
  have HN : Hid (js.length = n) := hn
  have HJ : Hid (partsOf f = js) := hjs
  rw [hjs, hn] at KL
  have HBAD : Hid (∀ j ∈ js, pieceO j f = (1, []) → allP f = (1, [])) := fun j hj he => by
    rw [allP, hjs, if_neg (pieces_bad hj (by rw [he]; simp))]
  have HGOOD : Hid ((∀ j ∈ js, (pieceO j f).1 = 0) → allP f = (0, padsB f ++ pieceL f js ++ padsE f)) := fun hj => by
    rw [allP, hjs, pieces_ok hj, if_pos rfl]
  obtain ⟨out, hout⟩ : ∃ out, allP f = out := ⟨_, rfl⟩
  rw [hout] at HBAD HGOOD ⊢
  clear hjs hn hout
  have HPB : Hid ((padsB f).length ≤ 1) := by
    show _ ≤ _
    unfold padsB; split <;> simp
  cases hp : padd f
  case false =>
    rw [hp] at KP
    have HB : Hid (padsB f = []) := by show _ = _; simp [padsB, hp]
    have HE : Hid (padsE f = []) := by show _ = _; simp [padsE, hp]
    clear hpad hp h0 h1 hin
    go_enter Tryz.func47, Tryz.ntmps47
    go_wp2_with (fail)
    rw [← hW]
    refine (KP.out _).mono ?_
    rintro e w2 ⟨rfl, hf2⟩
    have S2 : Hid (PSt W f p q cp cq w.heap.size (.slice none 0 0) (padsB f) w2) := by rw [HB.out]; exact S0.out.later hf2
    obtain ⟨c0, c1, c2, c3, c4, c5, c6, c7, c8, c9, c10, c11⟩ := fcells S2.out.at_
    clear hf2
    have HNP : Hid (0 = (padsB f).length + 0) := by rw [HB.out]; rfl
    go_wp2_with (fail)
    refine (KL.out _).mono ?_
    rintro e w3 ⟨⟨sp, rfl, hpt⟩, hf3⟩
    have S3 : Hid (PSt W f p q cp cq w.heap.size (.slice none 0 0) (padsB f) w3) := S2.out.later hf3
    have C3 : Hid (PartsC w3 sp js) := hpt.cells
    have D3 : Hid (js ≠ [] → ∀ g o, sp = some ⟨g, o, none⟩ → (Value.slice none 0 0).ownBlock ≠ some g) := parts_apart S3.out.pcs hpt
    clear hpt hf3 c0 c1 c2 c3 c4 c5 c6 c7 c8 c9 c10 c11
    go_wp2_with (fail)
    go_loopw [4, 21] (fun x4 x21 wr => ∃ (i na ca : Nat) (a : Option Addr), x4 = .slice a na ca ∧ x21 = .int .i64 (i : Int) ∧ i ≤ n ∧ Hid (PSt W f p q cp cq w.heap.size (.slice a na ca) (padsB f ++ pieceL f (js.take i)) wr ∧ PartsC wr sp js ∧ (js ≠ [] → ∀ g o, sp = some ⟨g, o, none⟩ → (Value.slice a na ca).ownBlock ≠ some g) ∧ (∀ j ∈ js.take i, (pieceO j f).1 = 0) ∧ na = (padsB f).length + i)) (fun _ x21 _ => n - (intOf x21).toNat)
    case atStart => exact ⟨0, 0, 0, none, rfl, rfl, by omega, by show PSt W f p q cp cq w.heap.size (.slice none 0 0) (padsB f ++ pieceL f (js.take 0)) w3 ∧ _; rw [List.take_zero, show pieceL f [] = [] from rfl, List.append_nil]; exact ⟨S3.out, C3.out, D3.out, fun j hj => by simp at hj, HNP.out⟩⟩
    case round =>
      clear S3 C3 D3
      obtain ⟨i, na, ca, a, rfl, rfl, hi, HS⟩ := hrel
      by_cases hin : i < n
      · obtain ⟨j, hj⟩ : ∃ j, js[i]? = some j := ⟨js[i]'(by rw [HN.out]; exact hin), List.getElem?_eq_getElem _⟩
        obtain ⟨gp, o, rfl, d0, d1, d2⟩ := HS.out.2.1 i j hj
        have HX : Hid (js[i]? = some j ∧ j ∈ js ∧ j < 7) := ⟨hj, List.mem_of_getElem? hj, H7.out j (List.mem_of_getElem? hj)⟩
        have hin2 : (i : Int) < (n : Int) := by omega
        clear hj
        obtain ⟨sz, hsz⟩ : ∃ sz, ((sizeP j : Nat) : Int) = sz := ⟨_, rfl⟩
        rw [hsz] at d0
        clear hsz
        have S4 : Hid (PSt W f p q cp cq w.heap.size (.slice a na ca) (padsB f ++ pieceL f (js.take i)) (wr.alloc (.cells #[.int .i64 sz, .func (.func (wfn j)) #[] #[], .func (.func (rfn j)) #[] #[]] 152))) := HS.out.1.later ((Fr.refl _ _).alloc _)
        have K4 := KW.out j HX.out.2.2 _ _ _ S4.out
        have hen := fun args w => enters_w j HX.out.2.2 args w
        rcases pieceO_err j f with hok | hbad
        case inr =>
          rw [hbad] at K4
          obtain rfl : out = (1, []) := HBAD.out j HX.out.2.1 hbad
          clear hbad
          go_wp2_with (fail)
          refine K4.mono ?_
          rintro e w5 ⟨⟨sp5, l5, q5, rfl, hl5, hs5, hq5⟩, hf5⟩
          go_wp2
          go_ret2
          exact ⟨none, 0, rfl, Pcs.ofNil (HFW.out.trans ((show Fr (fun _ => False) W _ by obtain ⟨vs, _, _, h, _⟩ := S4.out.pcs; exact h).trans hf5))⟩
        case inl =>
          have HOK : Hid ((pieceO j f).1 = 0) := hok
          obtain ⟨X, hX⟩ : ∃ X, (pieceO j f).2 = X := ⟨_, rfl⟩
          have HXX : Hid ((pieceO j f).2 = X) := hX
          rw [show pieceO j f = (0, X) by rw [← hok, ← hX]] at K4
          clear hok hX
          go_wp2_with (fail)
          refine K4.mono ?_
          rintro e w5 ⟨⟨sp5, l5, q5, rfl, hl5, hs5, hq5⟩, hf5⟩
          have S5 : Hid (PSt W f p q cp cq w.heap.size (.slice a na ca) (padsB f ++ pieceL f (js.take i)) w5 ∧ X.length = l5 ∧ SrcAt w5 sp5 X ∧ (∀ ad, sp5 = some ad → 0 < X.length → (Value.slice a na ca).ownBlock ≠ some ad.block) ∧ PartsC w5 (some ⟨gp, o, none⟩) js ∧ ((padsB f ++ pieceL f (js.take i)).length = na ∧ na ≤ 100)) := ⟨S4.out.later hf5, hl5, hs5, piece_apart S4.out.pcs HI.out.src hs5 hq5, (HS.out.2.1.fr (((Fr.refl (fun _ => False) wr).alloc _).trans hf5) (fun _ _ _ _ => id)), (by have h1 := HS.out.2.2.2.2; have h2 := HPB.out; have h3 := HN.out; simp [pieceL]; omega)⟩
          clear hl5 hs5 hq5 hf5 K4
          go_wp2_with (refine wpList_piece (w0 := W) rfl (.tmp 34) (.tmp 36) rfl (.slice a na ca) (padsB f ++ pieceL f (js.take i)) (by go_simp) S5.out.1.pcs sp5 X l5 q5 S5.out.2.1 (by go_simp) S5.out.2.2.1 S5.out.2.2.2.1 (by have := S5.out.2.2.2.2.2; omega) ?_; intro a6 n6 d6 w6 Hn6 P6 F6 K6)
          go_roundw
          case rel =>
            have hpl : pieceL f (js.take (i + 1)) = pieceL f (js.take i) ++ [X] := by
              rw [List.take_add_one, HX.out.1]
              simp [pieceL, HXX.out]
            refine ⟨i + 1, n6, d6, a6, rfl, by go_num, by omega, ?_⟩
            show PSt W f p q cp cq w.heap.size (.slice a6 n6 d6) (padsB f ++ pieceL f (js.take (i + 1))) w6 ∧ _
            rw [hpl, ← List.append_assoc]
            refine ⟨S5.out.1.put HF.out HI.out P6.out, S5.out.2.2.2.2.1.fr F6.out (fun hne g o e => HS.out.2.2.1 hne g o e), fun hne g o e => ?_, fun k hk => ?_, ?_⟩
            · rcases K6.out with h | ⟨k, h, hk⟩
              · rw [h]; exact HS.out.2.2.1 hne g o e
              · rw [h]
                intro e2
                cases e2
                obtain ⟨g', o', e3, h4, _⟩ := S5.out.2.2.2.2.1 i j HX.out.1
                rw [e] at e3
                cases e3
                have := World.block_lt_of_cell? _ _ h4
                simp at this
                omega
            · rw [List.take_add_one, HX.out.1] at hk
              rcases List.mem_append.1 hk with hk | hk
              · exact HS.out.2.2.2.1 k hk
              · simp at hk; subst hk; exact HOK.out
            · rw [Hn6.out, S5.out.2.2.2.2.2.1, HS.out.2.2.2.2]; omega
          case measure => simp [intOf]; omega
      · obtain rfl : i = n := by omega
        have SE : Hid (PSt W f p q cp cq w.heap.size (.slice a na ca) (padsB f ++ pieceL f js) wr ∧ (∀ j ∈ js, (pieceO j f).1 = 0) ∧ na = (padsB f ++ pieceL f js).length) := by
          have h := HS.out
          rw [List.take_of_length_le (Nat.le_of_eq HN.out)] at h
          exact ⟨h.1, h.2.2.2.1, by rw [h.2.2.2.2, List.length_append]; simp [pieceL, HN.out]⟩
        obtain rfl : out = (0, padsB f ++ pieceL f js ++ padsE f) := HGOOD.out SE.out.2.1
        clear HS
        obtain ⟨c0, c1, c2, c3, c4, c5, c6, c7, c8, c9, c10, c11⟩ := fcells SE.out.1.at_
        go_wp2_with (fail)
        refine (KP.out _).mono ?_
        rintro e w7 ⟨rfl, hf7⟩
        have SF : Hid (PSt W f p q cp cq w.heap.size (.slice a na ca) (padsB f ++ pieceL f js) w7) := SE.out.1.later hf7
        clear c0 c1 c2 c3 c4 c5 c6 c7 c8 c9 c10 c11 hf7
        go_wp2
        go_ret2
        have hE := HE.out
        have hn' := SE.out.2.2
        rw [hE, List.append_nil]
        subst hn'
        exact ⟨a, ca, rfl, SF.out.pcs.old HFW.out⟩
  case true =>
    rw [hp] at KP
    obtain ⟨u, hu⟩ : ∃ u : UInt8, f.pad = (u.toNat : Int) := ⟨UInt8.ofNat f.pad.toNat, by have := hpad hp; simp; omega⟩
    have hub := u.toNat_lt
    have HB : Hid (padsB f = [[u]]) := by show _ = _; simp [padsB, hp, hu]
    have HE : Hid (padsE f = [List.replicate u.toNat 0]) := by show _ = _; simp [padsE, hp, hu]
    have e1 : f.pad % 256 = (u.toNat : Int) := by omega
    have e2 : IntKind.u8.wrap f.pad = (u.toNat : Int) := by rw [IntKind.wrap_u8]; exact e1
    have HU : Hid (f.pad = (u.toNat : Int)) := hu
    clear hpad hp h0 h1 hin hu
    go_enter Tryz.func47, Tryz.ntmps47
    go_wp2_with (fail)
    rw [← hW]
    refine (KP.out _).mono ?_
    rintro e w1 ⟨rfl, hf1⟩
    have S1 : Hid (PSt W f p q cp cq w.heap.size (.slice none 0 0) [] w1) := S0.out.later hf1
    obtain ⟨c0, c1, c2, c3, c4, c5, c6, c7, c8, c9, c10, c11⟩ := fcells S1.out.at_
    clear hf1
    go_wp2_with (refine wpList_piece (w0 := W) rfl (.tmp 11) (.tmp 16) rfl (.slice none 0 0) [] (by go_simp) (S1.out.pcs.later ((Fr.refl _ _).alloc _)) (some ⟨w1.heap.size, 0, none⟩) [u] 1 1 rfl (by go_simp) (src_one w1 u) (fun ad e _ h => by simp [Value.ownBlock] at h) (by simp) ?_; intro a2 n2 d2 w2 Hn2 P2 F2 K2; have S2 : Hid (PSt W f p q cp cq w.heap.size (.slice a2 n2 d2) (padsB f) w2) := (by rw [HB.out]; exact S1.out.put HF.out HI.out P2.out); clear c0 c1 c2 c3 c4 c5 c6 c7 c8 c9 c10 c11; obtain ⟨c0, c1, c2, c3, c4, c5, c6, c7, c8, c9, c10, c11⟩ := fcells S2.out.at_)
    have HNP : Hid (n2 = (padsB f).length + 0) := by show _ = _; rw [HB.out, Hn2.out]; rfl
    refine (KL.out _).mono ?_
    rintro e w3 ⟨⟨sp, rfl, hpt⟩, hf3⟩
    have S3 : Hid (PSt W f p q cp cq w.heap.size (.slice a2 n2 d2) (padsB f) w3) := S2.out.later hf3
    have C3 : Hid (PartsC w3 sp js) := hpt.cells
    have D3 : Hid (js ≠ [] → ∀ g o, sp = some ⟨g, o, none⟩ → (Value.slice a2 n2 d2).ownBlock ≠ some g) := parts_apart S3.out.pcs hpt
    clear hpt hf3 c0 c1 c2 c3 c4 c5 c6 c7 c8 c9 c10 c11
    go_wp2_with (fail)
    go_loopw [4, 21] (fun x4 x21 wr => ∃ (i na ca : Nat) (a : Option Addr), x4 = .slice a na ca ∧ x21 = .int .i64 (i : Int) ∧ i ≤ n ∧ Hid (PSt W f p q cp cq w.heap.size (.slice a na ca) (padsB f ++ pieceL f (js.take i)) wr ∧ PartsC wr sp js ∧ (js ≠ [] → ∀ g o, sp = some ⟨g, o, none⟩ → (Value.slice a na ca).ownBlock ≠ some g) ∧ (∀ j ∈ js.take i, (pieceO j f).1 = 0) ∧ na = (padsB f).length + i)) (fun _ x21 _ => n - (intOf x21).toNat)
    case atStart => exact ⟨0, n2, d2, a2, rfl, rfl, by omega, by show PSt W f p q cp cq w.heap.size (.slice a2 n2 d2) (padsB f ++ pieceL f (js.take 0)) w3 ∧ _; rw [List.take_zero, show pieceL f [] = [] from rfl, List.append_nil]; exact ⟨S3.out, C3.out, D3.out, fun j hj => by simp at hj, HNP.out⟩⟩
    case round =>
      clear S3 C3 D3
      obtain ⟨i, na, ca, a, rfl, rfl, hi, HS⟩ := hrel
      by_cases hin : i < n
      · obtain ⟨j, hj⟩ : ∃ j, js[i]? = some j := ⟨js[i]'(by rw [HN.out]; exact hin), List.getElem?_eq_getElem _⟩
        obtain ⟨gp, o, rfl, d0, d1, d2⟩ := HS.out.2.1 i j hj
        have HX : Hid (js[i]? = some j ∧ j ∈ js ∧ j < 7) := ⟨hj, List.mem_of_getElem? hj, H7.out j (List.mem_of_getElem? hj)⟩
        have hin2 : (i : Int) < (n : Int) := by omega
        clear hj
        obtain ⟨sz, hsz⟩ : ∃ sz, ((sizeP j : Nat) : Int) = sz := ⟨_, rfl⟩
        rw [hsz] at d0
        clear hsz
        have S4 : Hid (PSt W f p q cp cq w.heap.size (.slice a na ca) (padsB f ++ pieceL f (js.take i)) (wr.alloc (.cells #[.int .i64 sz, .func (.func (wfn j)) #[] #[], .func (.func (rfn j)) #[] #[]] 152))) := HS.out.1.later ((Fr.refl _ _).alloc _)
        have K4 := KW.out j HX.out.2.2 _ _ _ S4.out
        have hen := fun args w => enters_w j HX.out.2.2 args w
        rcases pieceO_err j f with hok | hbad
        case inr =>
          rw [hbad] at K4
          obtain rfl : out = (1, []) := HBAD.out j HX.out.2.1 hbad
          clear hbad
          go_wp2_with (fail)
          refine K4.mono ?_
          rintro e w5 ⟨⟨sp5, l5, q5, rfl, hl5, hs5, hq5⟩, hf5⟩
          go_wp2
          go_ret2
          exact ⟨none, 0, rfl, Pcs.ofNil (HFW.out.trans ((show Fr (fun _ => False) W _ by obtain ⟨vs, _, _, h, _⟩ := S4.out.pcs; exact h).trans hf5))⟩
        case inl =>
          have HOK : Hid ((pieceO j f).1 = 0) := hok
          obtain ⟨X, hX⟩ : ∃ X, (pieceO j f).2 = X := ⟨_, rfl⟩
          have HXX : Hid ((pieceO j f).2 = X) := hX
          rw [show pieceO j f = (0, X) by rw [← hok, ← hX]] at K4
          clear hok hX
          go_wp2_with (fail)
          refine K4.mono ?_
          rintro e w5 ⟨⟨sp5, l5, q5, rfl, hl5, hs5, hq5⟩, hf5⟩
          have S5 : Hid (PSt W f p q cp cq w.heap.size (.slice a na ca) (padsB f ++ pieceL f (js.take i)) w5 ∧ X.length = l5 ∧ SrcAt w5 sp5 X ∧ (∀ ad, sp5 = some ad → 0 < X.length → (Value.slice a na ca).ownBlock ≠ some ad.block) ∧ PartsC w5 (some ⟨gp, o, none⟩) js ∧ ((padsB f ++ pieceL f (js.take i)).length = na ∧ na ≤ 100)) := ⟨S4.out.later hf5, hl5, hs5, piece_apart S4.out.pcs HI.out.src hs5 hq5, (HS.out.2.1.fr (((Fr.refl (fun _ => False) wr).alloc _).trans hf5) (fun _ _ _ _ => id)), (by have h1 := HS.out.2.2.2.2; have h2 := HPB.out; have h3 := HN.out; simp [pieceL]; omega)⟩
          clear hl5 hs5 hq5 hf5 K4
          go_wp2_with (refine wpList_piece (w0 := W) rfl (.tmp 34) (.tmp 36) rfl (.slice a na ca) (padsB f ++ pieceL f (js.take i)) (by go_simp) S5.out.1.pcs sp5 X l5 q5 S5.out.2.1 (by go_simp) S5.out.2.2.1 S5.out.2.2.2.1 (by have := S5.out.2.2.2.2.2; omega) ?_; intro a6 n6 d6 w6 Hn6 P6 F6 K6)
          go_roundw
          case rel =>
            have hpl : pieceL f (js.take (i + 1)) = pieceL f (js.take i) ++ [X] := by
              rw [List.take_add_one, HX.out.1]
              simp [pieceL, HXX.out]
            refine ⟨i + 1, n6, d6, a6, rfl, by go_num, by omega, ?_⟩
            show PSt W f p q cp cq w.heap.size (.slice a6 n6 d6) (padsB f ++ pieceL f (js.take (i + 1))) w6 ∧ _
            rw [hpl, ← List.append_assoc]
            refine ⟨S5.out.1.put HF.out HI.out P6.out, S5.out.2.2.2.2.1.fr F6.out (fun hne g o e => HS.out.2.2.1 hne g o e), fun hne g o e => ?_, fun k hk => ?_, ?_⟩
            · rcases K6.out with h | ⟨k, h, hk⟩
              · rw [h]; exact HS.out.2.2.1 hne g o e
              · rw [h]
                intro e2
                cases e2
                obtain ⟨g', o', e3, h4, _⟩ := S5.out.2.2.2.2.1 i j HX.out.1
                rw [e] at e3
                cases e3
                have := World.block_lt_of_cell? _ _ h4
                simp at this
                omega
            · rw [List.take_add_one, HX.out.1] at hk
              rcases List.mem_append.1 hk with hk | hk
              · exact HS.out.2.2.2.1 k hk
              · simp at hk; subst hk; exact HOK.out
            · rw [Hn6.out, S5.out.2.2.2.2.2.1, HS.out.2.2.2.2]; omega
          case measure => simp [intOf]; omega
      · obtain rfl : i = n := by omega
        have SE : Hid (PSt W f p q cp cq w.heap.size (.slice a na ca) (padsB f ++ pieceL f js) wr ∧ (∀ j ∈ js, (pieceO j f).1 = 0) ∧ na = (padsB f ++ pieceL f js).length) := by
          have h := HS.out
          rw [List.take_of_length_le (Nat.le_of_eq HN.out)] at h
          exact ⟨h.1, h.2.2.2.1, by rw [h.2.2.2.2, List.length_append]; simp [pieceL, HN.out]⟩
        obtain rfl : out = (0, padsB f ++ pieceL f js ++ padsE f) := HGOOD.out SE.out.2.1
        clear HS
        obtain ⟨c0, c1, c2, c3, c4, c5, c6, c7, c8, c9, c10, c11⟩ := fcells SE.out.1.at_
        go_wp2_with (fail)
        refine (KP.out _).mono ?_
        rintro e w7 ⟨rfl, hf7⟩
        have SF : Hid (PSt W f p q cp cq w.heap.size (.slice a na ca) (padsB f ++ pieceL f js) w7) := SE.out.1.later hf7
        clear c0 c1 c2 c3 c4 c5 c6 c7 c8 c9 c10 c11 hf7
        obtain ⟨c0, c1, c2, c3, c4, c5, c6, c7, c8, c9, c10, c11⟩ := fcells SF.out.at_
        have hmk : ∀ w : World, (Instr.makeSlice 43 (.int .i64 f.pad) (.int .i64 f.pad)).run Tryz.prog w = .ok (.slice (some ⟨w.heap.size, 0, none⟩) u.toNat u.toNat) (w.alloc (.cells (bv (List.replicate u.toNat 0)).toArray 5)) := by
          rw [HU.out]
          exact make_bytes u.toNat (by omega)
        have HLN : Hid ((padsB f ++ pieceL f js).length ≤ 100) := by
          show _ ≤ _
          have h2 := HPB.out
          have h3 := HN.out
          simp [pieceL]
          omega
        have HZ : Hid (SrcAt (w7.alloc (.cells (bv (List.replicate u.toNat 0)).toArray 5)) (some ⟨w7.heap.size, 0, none⟩) (List.replicate u.toNat 0)) := src_block 0 _ (heap_alloc_new w7 _) (by simp)
        have HAP : Hid (∀ ad, (some ⟨w7.heap.size, 0, none⟩ : Option Addr) = some ad → 0 < (List.replicate u.toNat (0 : UInt8)).length → (Value.slice a na ca).ownBlock ≠ some ad.block) := fun ad e _ e2 => by
          cases e
          exact Nat.lt_irrefl _ (SF.out.pcs.lt e2)
        go_wp2_with (refine wpList_piece (w0 := W) rfl (.tmp 41) (.tmp 45) rfl (.slice a na ca) (padsB f ++ pieceL f js) (by go_simp) (SF.out.pcs.later ((Fr.refl _ _).alloc _)) (some ⟨w7.heap.size, 0, none⟩) (List.replicate u.toNat 0) u.toNat u.toNat (by simp) (by go_simp) HZ.out HAP.out HLN.out ?_; intro a8 n8 d8 w8 Hn8 P8 F8 K8)
        go_ret2
        have hE := HE.out
        have hn' : n8 = (padsB f ++ pieceL f js ++ [List.replicate u.toNat 0]).length := by rw [Hn8.out, List.length_append (bs := [_])]; rfl
        rw [hE]
        subst hn'
        exact ⟨a8, d8, rfl, P8.out.old HFW.out⟩
end Go.Proofs.YtpjbgjgaigkbcaaGreat
