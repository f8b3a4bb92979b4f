/- The document's Request. -/
import Derived.Test.YtplggcfoadjffaaGreatDoorWh
import Derived.Test.YtplggcfoadjffaaGreatDoorOs
import Derived.Test.YtplggcfoadjffaaGreatDoorMXt
import Derived.Test.YtplggcfoadjffaaGreatDoorAv
namespace Go.Proofs.YtplggcfoadjffaaGreatDoor
open Go.RowKit
set_option linter.unusedVariables false
set_option maxRecDepth 100000
set_option maxHeartbeats 8000000

def mayS : List ByteArray := [⟨#[58, 109, 101, 116, 104, 111, 100]⟩, ⟨#[58, 115, 99, 104, 101, 109, 101]⟩, ⟨#[58, 97, 117, 116, 104, 111, 114, 105, 116, 121]⟩, ⟨#[58, 112, 97, 116, 104]⟩, ⟨#[58, 112, 114, 111, 116, 111, 99, 111, 108]⟩]
theorem mayS_tx : mayS.map tx = mayR := by decide
theorem pickA_step {l : List Hd} {ns : List (List UInt8)} {i : Nat} {n : List UInt8} (hi : ns[i]? = some n) : pickA l (ns.take (i + 1)) = pickA l (ns.take i) ++ (l.filter fun h => tx h.1 == n) := by
  unfold pickA
  rw [List.take_add_one, hi, List.flatMap_append]
  simp
theorem filt_step {l : List Hd} {n : List UInt8} {k : Nat} {h : Hd} (hi : l[k]? = some h) : ((l.take (k + 1)).filter fun h => tx h.1 == n) = ((l.take k).filter fun h => tx h.1 == n) ++ (if tx h.1 = n then [h] else []) := by
  rw [List.take_add_one, hi, List.filter_append]
  congr 1
  by_cases he : tx h.1 = n <;> simp [he]
theorem pickA_len (l : List Hd) : ∀ (ns : List (List UInt8)), (pickA l ns).length ≤ ns.length * l.length
  | [] => by simp [pickA]
  | n :: t => by
    have h1 := pickA_len l t
    have h2 := List.length_filter_le (fun h : Hd => tx h.1 == n) l
    unfold pickA at h1 ⊢
    rw [List.flatMap_cons, List.length_append, List.length_cons, Nat.succ_mul]
    omega
theorem pickA_mem {l : List Hd} {ns : List (List UInt8)} {x : Hd} (h : x ∈ pickA l ns) : x ∈ l := by
  unfold pickA at h
  rw [List.mem_flatMap] at h
  obtain ⟨n, -, hx⟩ := h
  exact (List.mem_filter.1 hx).1
theorem pick_few {l : List Hd} (h : eachO mayR [] l = 0) (i : Nat) : (pickA l (mayR.take i)).length ≤ 5 := by
  rw [pick_all h (fun n hn => (by decide : ∀ n ∈ mayR, pseudoB n = true) n (List.mem_of_mem_take hn))]
  unfold pickO
  have h1 := List.length_filterMap_le (fstH l) (mayR.take i)
  have h2 : (mayR.take i).length ≤ 5 := by rw [List.length_take]; exact Nat.min_le_right _ _
  omega
theorem texts_newW (w : World) (zs : List ByteArray) : TxAt (w.alloc (.cells (strV zs).toArray 9)) (some ⟨w.heap.size, 0, none⟩) zs := texts_new w zs
theorem some_step {l : List Hd} {n : List UInt8} {i : Nat} {h : Hd} (hi : l[i]? = some h) : (findL (l.take (i + 1)) n).isSome = ((findL (l.take i) n).isSome || decide (tx h.1 = n)) := by
  rw [List.take_add_one, hi, findL_append]
  cases findL (l.take i) n with
  | some v => rfl
  | none =>
    by_cases he : tx h.1 = n <;> simp [findL, he]
theorem name_eq {xn : ByteArray} {n : List UInt8} (h : tx xn = n) : mkS n = xn := by rw [← h]; exact mkS_of xn
theorem rxReq_in (q : Option Addr) (c : Nat) (l : List Hd) (name : ByteArray) (w : World) (hl : HL w q c l) (hls : l.length * 40 + 400 ≤ 2 ^ 47) (hbk : bulkV l ≤ 2 ^ 60) (hname : name.size ≤ 2 ^ 60) :
    Calls Tryz.prog 8 #[.slice q l.length c, .string name] w fun e w' => PassAs w (rewReq l (tx name)) e w' := by
  have KQ := rRequest_in q c l w hl
  have HLW : Hid (HL w q c l) := hl
  have KV : Hid (∀ W, Fr (fun _ => False) w W → Calls Tryz.prog 26 #[.slice q l.length c, .string name] W fun e w' => ViaAs W l (tx name) e w') := fun W f => rvia_in q c l name W (hl.fr f) hbk hname
  have KJ : Hid (∀ W, Fr (fun _ => False) w W → Calls Tryz.prog 24 #[.slice q l.length c, .string ⟨#[99, 111, 111, 107, 105, 101]⟩, .string ⟨#[59, 32]⟩, .bool false] W fun e w' => e = .returned (.string (mkS (cookieO l))) ∧ W = w') := fun W f => by
    have h := joined_in q c l ⟨#[99, 111, 111, 107, 105, 101]⟩ ⟨#[59, 32]⟩ false W (hl.fr f) rfl hbk
    rw [kept_full] at h
    exact h
  have KH : Hid (∀ W, Fr (fun _ => False) w W → Calls Tryz.prog 25 #[.slice q l.length c, .string ⟨#[58, 97, 117, 116, 104, 111, 114, 105, 116, 121]⟩] W fun e w' => e = .returned (.bool (hasO l sAuth)) ∧ W = w') := fun W f => rxhas14_in q c l ⟨#[58, 97, 117, 116, 104, 111, 114, 105, 116, 121]⟩ W (hl.fr f)
  have hfew := hl.few
  obtain ⟨len, hlen⟩ : ∃ len, l.length = len := ⟨_, rfl⟩
  have HN : Hid (l.length = len) := hlen
  rw [hlen] at KQ KV KJ KH hfew hls ⊢
  clear hl hbk hname hlen
  by_cases h0 : requestO l = 0
  · rw [h0] at KQ
    have HR0 : Hid (requestO l = 0) := h0
    have HEA : Hid (eachO mayR [] l = 0) := (request_method h0).1
    clear h0
    go_enter Tryz.func8, Tryz.ntmps8
    go_wp2_with (fail)
    refine KQ.mono ?_
    rintro e w1 ⟨rfl, f1⟩
    obtain ⟨W2, hW2⟩ : ∃ W2, w1.alloc (.cells #[.string ⟨#[58, 109, 101, 116, 104, 111, 100]⟩, .string ⟨#[58, 115, 99, 104, 101, 109, 101]⟩, .string ⟨#[58, 97, 117, 116, 104, 111, 114, 105, 116, 121]⟩, .string ⟨#[58, 112, 97, 116, 104]⟩, .string ⟨#[58, 112, 114, 111, 116, 111, 99, 111, 108]⟩] 9) = W2 := ⟨_, rfl⟩
    have HF2 : Hid (Fr (fun _ => False) w W2) := by rw [← hW2]; exact f1.alloc _
    have HT2 : Hid (TxAt W2 (some ⟨w1.heap.size, 0, none⟩) mayS) := by rw [← hW2]; exact texts_newW w1 mayS
    have HR2 : Hid (RowN W2 (.slice none 0 0) [] W2) := RowN.nil W2
    clear f1 KQ
    go_wp2_with (fail)
    clear hW2
    go_loopw [7, 9] (fun x7 x9 wr => ∃ (i : Nat) (la : Option Addr) (m lc : Nat), x7 = .slice la m lc ∧ x9 = .int .i64 (i : Int) ∧ i ≤ 5 ∧ Hid (RowN W2 (.slice la m lc) (pickA l (mayR.take i)) wr)) (fun _ x9 _ => 5 - (intOf x9).toNat)
    case atStart => exact ⟨0, none, 0, 0, rfl, rfl, by omega, HR2.out⟩
    case round =>
      obtain ⟨i, la, m, lc, rfl, rfl, hi, HK⟩ := hrel
      by_cases hi5 : i < 5
      · have hi6 : (i : Int) < 5 := by omega
        obtain ⟨z, hz⟩ : ∃ z, mayS[i]? = some z := ⟨_, List.getElem?_eq_getElem hi5⟩
        have HZ : Hid (mayS[i]? = some z) := hz
        have HZ2 : Hid (mayR[i]? = some (tx z)) := by show _ = _; rw [← mayS_tx, List.getElem?_map, hz]; rfl
        clear hz
        rename World => wo
        go_wp2_with (fail)
        go_loopw [7, 10] (fun x7 x10 wr => ∃ (k : Nat) (la : Option Addr) (m lc : Nat), x7 = .slice la m lc ∧ x10 = .int .i64 (k : Int) ∧ k ≤ len ∧ Hid (RowN W2 (.slice la m lc) (pickA l (mayR.take i) ++ ((l.take k).filter fun h => tx h.1 == tx z)) wr)) (fun _ x10 _ => len - (intOf x10).toNat)
        case atStart => exact ⟨0, la, m, lc, rfl, rfl, by omega, (by show RowN _ _ _ _; simpa using HK.out)⟩
        case round =>
          obtain ⟨k, la, m, lc, rfl, rfl, hk, HK⟩ := hrel
          by_cases hlt : k < len
          · have hlt2 : (k : Int) < (len : Int) := by omega
            obtain ⟨x, hx⟩ : ∃ x, l[k]? = some x := ⟨_, List.getElem?_eq_getElem (by rw [HN.out]; exact hlt)⟩
            obtain ⟨b, o, rfl, hb, c0, c1, c2, -⟩ := (HLW.out.fr (HF2.out.trans HK.out.fr)).cells k x hx
            obtain ⟨gb, go, e5, hgb, t0⟩ := (HT2.out.fr HK.out.fr (fun _ _ _ => id)) i z HZ.out
            cases e5
            rw [Nat.zero_add] at t0
            have hst := filt_step (n := tx z) hx
            obtain ⟨xn, xv, xs⟩ := x
            dsimp only at c0 c1 c2 hst
            have HM : Hid ((pickA l (mayR.take i) ++ ((l.take k).filter fun h => tx h.1 == tx z)).length * 40 < 2 ^ 47) := by
              have h1 := pick_few HEA.out i
              have h2 := List.length_filter_le (fun h : Hd => tx h.1 == tx z) (l.take k)
              rw [List.length_take, HN.out] at h2
              show _ < _
              rw [List.length_append]
              omega
            clear hx hb hgb
            by_cases he : tx xn = tx z
            · have e1 : (xn.toList == z.toList) = true := by rw [eq_text, decide_eq_true he]
              have e2 : xn.toList = z.toList := by rw [tx_toList, tx_toList, he]
              have HE : Hid (pickA l (mayR.take i) ++ ((l.take (k + 1)).filter fun h => tx h.1 == tx z) = pickA l (mayR.take i) ++ ((l.take k).filter fun h => tx h.1 == tx z) ++ [(xn, xv, xs)]) := by show _ = _; rw [hst, if_pos he, List.append_assoc]
              have HKD : Hid (RowN W2 (.slice la m lc) (pickA l (mayR.take i) ++ ((l.take k).filter fun h => tx h.1 == tx z)) wr.drew) := HK.out.later (Fr.refl _ _).drew
              have d0 : wr.drew.cell? ⟨b, o + k * 3, none⟩ = some (.string xn) := c0
              have d1 : wr.drew.cell? ⟨b, o + k * 3 + 1, none⟩ = some (.string xv) := c1
              have d2 : wr.drew.cell? ⟨b, o + k * 3 + 2, none⟩ = some (.bool xs) := c2
              clear he hst
              go_wp2_with (fail)
              go_region
              generalize wr.drew = wd at HKD d0 d1 d2 ⊢
              go_wp2_with (refine wpList_addH rfl (.tmp 44) (.tmp 49) rfl (.slice la m lc) _ (xn, xv, xs) rfl HKD.out.row (by go_simp) HM.out ?_; intro a6 n6 c6 w6 N6 O6 F6 K6)
              have HK3 : Hid (RowN W2 (.slice a6 n6 c6) (pickA l (mayR.take i) ++ ((l.take (k + 1)).filter fun h => tx h.1 == tx z)) w6) := by rw [HE.out]; exact HKD.out.add O6.out F6.out K6.out
              go_roundw
              case rel => exact ⟨k + 1, a6, n6, c6, rfl, by go_num, by omega, HK3.out⟩
              case measure => simp [intOf]; omega
            · have e2 : ¬ xn.toList = z.toList := by rw [tx_toList, tx_toList]; exact he
              have e1 : (xn.toList == z.toList) = false := beq_eq_false_iff_ne.2 e2
              have HE : Hid (RowN W2 (.slice la m lc) (pickA l (mayR.take i) ++ ((l.take (k + 1)).filter fun h => tx h.1 == tx z)) wr.drew) := by
                show RowN _ _ _ _
                rw [hst, if_neg he, List.append_nil]
                exact HK.out.later (Fr.refl _ _).drew
              clear he hst
              go_wp2_with (fail)
              go_region
              go_wp2_with (fail)
              go_roundw
              case rel => exact ⟨k + 1, la, m, lc, rfl, by go_num, by omega, HE.out⟩
              case measure => simp [intOf]; omega
          · have hlt2 : ¬ (k : Int) < (len : Int) := by omega
            have HE : Hid (RowN W2 (.slice la m lc) (pickA l (mayR.take (i + 1))) wr) := by
              show RowN _ _ _ _
              rw [pickA_step HZ2.out]
              have h := HK.out
              have e9 : l.take k = l := List.take_of_length_le (by rw [HN.out]; omega)
              rw [e9] at h
              exact h
            go_wp2_with (fail)
            go_roundw
            case rel => exact ⟨i + 1, la, m, lc, rfl, by go_num, by omega, HE.out⟩
            case measure => simp [intOf]; omega
      · have hi6 : ¬ (i : Int) < 5 := by omega
        have HP : Hid (RowN W2 (.slice la m lc) (pickO l allN) wr) := by
          show RowN _ _ _ _
          have h := HK.out
          rw [List.take_of_length_le (by show 5 ≤ i; omega), pick_all HEA.out (by decide)] at h
          rw [pick_req HEA.out]
          exact h
        clear HK
        have FP : Hid (Fr (fun _ => False) w wr) := HF2.out.trans HP.out.fr
        have KJ2 := KJ.out wr FP.out
        obtain ⟨CK, hCK⟩ : ∃ CK, mkS (cookieO l) = CK := ⟨_, rfl⟩
        have HCK : Hid (mkS (cookieO l) = CK) := hCK
        have hcs : CK.size = (cookieO l).length := by rw [← hCK]; exact mkS_size _
        rw [hCK] at KJ2
        obtain ⟨au, hau⟩ : ∃ au, hasO l sAuth = au := ⟨_, rfl⟩
        have HAU : Hid (hasO l sAuth = au) := hau
        rw [hau] at KH
        clear hCK hau
        by_cases hck : (cookieO l).length ≤ 16384
        · have hcl : decide ((16384 : Int) < (CK.size : Int)) = false := by rw [decide_eq_false_iff_not]; omega
          have HCL : Hid (¬ 16384 < (cookieO l).length) := by show ¬ _; omega
          have HSL : Hid (∀ j, (gathO (reqStep au (cookieO l)) [] (l.take j)).length ≤ len) := fun j => by
            have h1 := gathO_len (f := reqStep au (cookieO l)) (reqStep_len _ _) (l.take j) []
            rw [List.length_take, HN.out] at h1
            omega
          have HPL : Hid ((pickO l allN).length ≤ 6) := List.length_filterMap_le _ _
          clear hck hcs
          go_wp2_with (fail)
          refine KJ2.mono ?_
          rintro e w9 ⟨rfl, rfl⟩
          clear KJ2
          go_wp2_with (fail)
          go_loopw [7, 12, 13] (fun x7 x12 x13 wr => ∃ (i : Nat) (la : Option Addr) (m lc : Nat), x7 = .slice la m lc ∧ x12 = .bool (findL (l.take i) sCookie).isSome ∧ x13 = .int .i64 (i : Int) ∧ i ≤ len ∧ Hid (RowN W2 (.slice la m lc) (pickO l allN ++ gathO (reqStep au (cookieO l)) [] (l.take i)) wr)) (fun _ _ x13 _ => len - (intOf x13).toNat)
          case atStart => exact ⟨0, la, m, lc, rfl, rfl, rfl, by omega, (by show RowN _ _ _ _; simpa [gathO] using HP.out)⟩
          case round =>
            obtain ⟨j, ra, rm, rc, rfl, rfl, rfl, hj, HK⟩ := hrel
            by_cases hlt : j < len
            · have hlt2 : (j : Int) < (len : Int) := by omega
              obtain ⟨x, hx⟩ : ∃ x, l[j]? = some x := ⟨_, List.getElem?_eq_getElem (by rw [HN.out]; exact hlt)⟩
              obtain ⟨b, o, rfl, hb, c0, c1, c2, -⟩ := (HLW.out.fr (HF2.out.trans HK.out.fr)).cells j x hx
              have hst := gathO_step (f := reqStep au (cookieO l)) hx
              have hdn := some_step (n := sCookie) hx
              have hz1 : 0 < x.1.size := each_name HEA.out x (List.mem_of_getElem? hx)
              obtain ⟨xn, xv, xs⟩ := x
              dsimp only at c0 c1 c2 hz1 hdn
              have HM : Hid ((pickO l allN ++ gathO (reqStep au (cookieO l)) [] (l.take j)).length * 40 < 2 ^ 47) := by
                have h1 := HSL.out j
                have h2 := HPL.out
                show _ < _
                rw [List.length_append]
                omega
              have hi0 : ∀ w : World, (Instr.index 9 (.string xn) (.int .i64 0)).run Tryz.prog w = .ok (.int .u8 ((xn[0]'hz1).toNat : Int)) w := index_tx xn 0 hz1
              have hb0 := first_byte xn hz1
              obtain ⟨k0, hk0⟩ : ∃ k0, ((xn[0]'hz1).toNat : Int) = k0 := ⟨_, rfl⟩
              rw [hk0] at hi0 hb0
              obtain ⟨pb, hpb⟩ : ∃ pb, pseudoB (tx xn) = pb := ⟨_, rfl⟩
              rw [hpb] at hb0
              obtain ⟨db, hdb⟩ : ∃ db, (findL (l.take j) sCookie).isSome = db := ⟨_, rfl⟩
              rw [hdb] at hdn ⊢
              have KH2 : Hid (∀ xv' xs', Calls Tryz.prog 25 #[.slice (some ⟨b, o, none⟩) len c, .string ⟨#[58, 97, 117, 116, 104, 111, 114, 105, 116, 121]⟩] (wr.alloc (.cells #[.string xn, .string xv', .bool xs'] 35)) fun e w' => e = .returned (.bool au) ∧ (wr.alloc (.cells #[.string xn, .string xv', .bool xs'] 35)) = w') := fun _ _ => KH.out _ ((HF2.out.trans HK.out.fr).alloc _)
              have HAL : Hid (∀ xv' xs', RowN W2 (.slice ra rm rc) (pickO l allN ++ gathO (reqStep au (cookieO l)) [] (l.take j)) (wr.alloc (.cells #[.string xn, .string xv', .bool xs'] 35))) := fun _ _ => HK.out.later ((Fr.refl _ _).alloc _)
              clear hx hk0 hb
              cases pb with
              | true =>
                obtain rfl : k0 = 58 := by simpa using hb0
                have hnc : ¬ tx xn = sCookie := fun e => by rw [e] at hpb; exact absurd hpb (by decide)
                have HDN : Hid ((findL (l.take (j + 1)) sCookie).isSome = db) := by show _ = _; rw [hdn, decide_eq_false hnc, Bool.or_false]
                have HE : Hid (RowN W2 (.slice ra rm rc) (pickO l allN ++ gathO (reqStep au (cookieO l)) [] (l.take (j + 1))) (wr.alloc (.cells #[.string xn, .string xv, .bool xs] 35))) := by
                  show RowN _ _ _ _
                  rw [hst]
                  unfold reqStep
                  rw [if_pos hpb, List.append_nil]
                  exact HAL.out _ _
                clear hdn hb0 hpb hnc hdb
                clear hst
                go_wp2_with (fail)
                go_roundw
                case rel => exact ⟨j + 1, ra, rm, rc, rfl, by rw [HDN.out], by go_num, by omega, HE.out⟩
                case measure => simp [intOf]; omega
              | false =>
                have hb1 : ¬ k0 = 58 := by simpa using hb0
                have hnp : ¬ pseudoB (tx xn) = true := by rw [hpb]; simp
                by_cases hv : tx xn = sVia
                · have hown := hv
                  obtain ⟨pv, tv⟩ := list_equ hown
                  unfold sVia at pv tv
                  obtain ⟨ph, th⟩ := list_neq (s := xn) (n := sHost) (by rw [hown]; decide)
                  unfold sHost at ph th
                  obtain ⟨pc, tc⟩ := list_neq (s := xn) (n := sCookie) (by rw [hown]; decide)
                  unfold sCookie at pc tc
                  obtain ⟨pa, ta⟩ := list_neq (s := xn) (n := sAuthz) (by rw [hown]; decide)
                  unfold sAuthz at pa ta
                  have HDN : Hid ((findL (l.take (j + 1)) sCookie).isSome = db) := by show _ = _; rw [hdn, decide_eq_false (by rw [hown]; decide), Bool.or_false]
                  have HE : Hid (RowN W2 (.slice ra rm rc) (pickO l allN ++ gathO (reqStep au (cookieO l)) [] (l.take (j + 1))) (wr.alloc (.cells #[.string xn, .string xv, .bool xs] 35))) := by
                    show RowN _ _ _ _
                    rw [hst]
                    unfold reqStep
                    rw [if_neg hnp, if_neg (by rw [hown]; decide), if_neg (by rw [hown]; decide), if_neg (by rw [hown]; decide), if_pos hown, List.append_nil]
                    exact HAL.out _ _
                  clear hdn hpb hdb hown hv hnp
                  clear hst
                  go_wp2_with (fail)
                  go_roundw
                  case rel => exact ⟨j + 1, ra, rm, rc, rfl, by rw [HDN.out], by go_num, by omega, HE.out⟩
                  case measure => simp [intOf]; omega
                by_cases hh : tx xn = sHost
                · have hown := hh
                  obtain ⟨pv, tv⟩ := list_neq (s := xn) (n := sVia) (by rw [hown]; decide)
                  unfold sVia at pv tv
                  obtain ⟨ph, th⟩ := list_equ hown
                  unfold sHost at ph th
                  obtain ⟨pc, tc⟩ := list_neq (s := xn) (n := sCookie) (by rw [hown]; decide)
                  unfold sCookie at pc tc
                  obtain ⟨pa, ta⟩ := list_neq (s := xn) (n := sAuthz) (by rw [hown]; decide)
                  unfold sAuthz at pa ta
                  have HDN : Hid ((findL (l.take (j + 1)) sCookie).isSome = db) := by show _ = _; rw [hdn, decide_eq_false (by rw [hown]; decide), Bool.or_false]
                  cases au with
                  | true =>
                    have HE : Hid (RowN W2 (.slice ra rm rc) (pickO l allN ++ gathO (reqStep true (cookieO l)) [] (l.take (j + 1))) (wr.alloc (.cells #[.string xn, .string xv, .bool xs] 35))) := by
                      show RowN _ _ _ _
                      rw [hst]
                      unfold reqStep
                      rw [if_neg hnp, if_pos hown, if_pos rfl, List.append_nil]
                      exact HAL.out _ _
                    clear hdn hpb hdb hown hv hh hnp
                    clear hst
                    go_wp2_with (fail)
                    refine (KH2.out _ _).mono ?_
                    rintro e w8 ⟨rfl, rfl⟩
                    go_wp2_with (fail)
                    go_roundw
                    case rel => exact ⟨j + 1, ra, rm, rc, rfl, by rw [HDN.out], by go_num, by omega, HE.out⟩
                    case measure => simp [intOf]; omega
                  | false =>
                    have HE : Hid (pickO l allN ++ gathO (reqStep false (cookieO l)) [] (l.take (j + 1)) = pickO l allN ++ gathO (reqStep false (cookieO l)) [] (l.take j) ++ [(xn, xv, xs)]) := by
                      show _ = _
                      rw [hst, List.append_assoc]
                      unfold reqStep
                      rw [if_neg hnp, if_pos hown, if_neg (by simp)]
                    clear hst hdn hpb hdb hown hv hh hnp
                    cases xs
                    all_goals (
                      go_wp2_with (fail)
                      refine (KH2.out _ _).mono ?_
                      rintro e w8 ⟨rfl, rfl⟩
                      go_wp2_with (refine wpList_addH rfl (.tmp 110) (.tmp 112) rfl (.slice ra rm rc) _ (xn, _, _) rfl (HAL.out _ _).row (by go_simp) HM.out ?_; intro a6 n6 c6 w6 N6 O6 F6 K6)
                      have HK3 : Hid (RowN W2 (.slice a6 n6 c6) (pickO l allN ++ gathO (reqStep false (cookieO l)) [] (l.take (j + 1))) w6) := by rw [HE.out]; exact (HAL.out _ _).add O6.out F6.out K6.out
                      go_roundw
                      case rel => exact ⟨j + 1, a6, n6, c6, rfl, by rw [HDN.out], by go_num, by omega, HK3.out⟩
                      case measure => simp [intOf]; omega)
                by_cases hc : tx xn = sCookie
                · have hown := hc
                  obtain ⟨pv, tv⟩ := list_neq (s := xn) (n := sVia) (by rw [hown]; decide)
                  unfold sVia at pv tv
                  obtain ⟨ph, th⟩ := list_neq (s := xn) (n := sHost) (by rw [hown]; decide)
                  unfold sHost at ph th
                  obtain ⟨pc, tc⟩ := list_equ hown
                  unfold sCookie at pc tc
                  obtain ⟨pa, ta⟩ := list_neq (s := xn) (n := sAuthz) (by rw [hown]; decide)
                  unfold sAuthz at pa ta
                  have HDN : Hid ((findL (l.take (j + 1)) sCookie).isSome = true) := by show _ = _; rw [hdn, decide_eq_true hown, Bool.or_true]
                  have hxn := name_eq hown
                  cases db with
                  | true =>
                    have hfs : ¬ findL (l.take j) sCookie = none := fun e => by rw [e] at hdb; cases hdb
                    have HE : Hid (RowN W2 (.slice ra rm rc) (pickO l allN ++ gathO (reqStep au (cookieO l)) [] (l.take (j + 1))) (wr.alloc (.cells #[.string xn, .string xv, .bool xs] 35))) := by
                      show RowN _ _ _ _
                      rw [hst]
                      unfold reqStep
                      rw [if_neg hnp, if_neg (by rw [hown]; decide), if_neg (by rw [hown]; decide), if_pos hown, if_neg hfs, List.append_nil]
                      exact HAL.out _ _
                    clear hdn hpb hdb hown hv hh hc hnp hfs hxn
                    clear hst
                    go_wp2_with (fail)
                    go_roundw
                    case rel => exact ⟨j + 1, ra, rm, rc, rfl, by rw [HDN.out], by go_num, by omega, HE.out⟩
                    case measure => simp [intOf]; omega
                  | false =>
                    have hfs : findL (l.take j) sCookie = none := by cases hq : findL (l.take j) sCookie with
                      | none => rfl
                      | some v => rw [hq] at hdb; cases hdb
                    have HE : Hid (pickO l allN ++ gathO (reqStep au (cookieO l)) [] (l.take (j + 1)) = pickO l allN ++ gathO (reqStep au (cookieO l)) [] (l.take j) ++ [(xn, CK, true)]) := by
                      show _ = _
                      rw [hst, List.append_assoc]
                      unfold reqStep
                      rw [if_neg hnp, if_neg (by rw [hown]; decide), if_neg (by rw [hown]; decide), if_pos hown, if_pos hfs, hxn, HCK.out]
                    clear hst hdn hpb hdb hown hv hh hc hnp hfs hxn
                    cases xs
                    all_goals (
                      go_wp2_with (refine wpList_addH rfl (.tmp 110) (.tmp 112) rfl (.slice ra rm rc) _ (xn, _, _) rfl (HAL.out _ _).row (by go_simp) HM.out ?_; intro a6 n6 c6 w6 N6 O6 F6 K6)
                      have HK3 : Hid (RowN W2 (.slice a6 n6 c6) (pickO l allN ++ gathO (reqStep au (cookieO l)) [] (l.take (j + 1))) w6) := by rw [HE.out]; exact (HAL.out _ _).add O6.out F6.out K6.out
                      go_roundw
                      case rel => exact ⟨j + 1, a6, n6, c6, rfl, by rw [HDN.out], by go_num, by omega, HK3.out⟩
                      case measure => simp [intOf]; omega)
                by_cases ha : tx xn = sAuthz
                · have hown := ha
                  obtain ⟨pv, tv⟩ := list_neq (s := xn) (n := sVia) (by rw [hown]; decide)
                  unfold sVia at pv tv
                  obtain ⟨ph, th⟩ := list_neq (s := xn) (n := sHost) (by rw [hown]; decide)
                  unfold sHost at ph th
                  obtain ⟨pc, tc⟩ := list_neq (s := xn) (n := sCookie) (by rw [hown]; decide)
                  unfold sCookie at pc tc
                  obtain ⟨pa, ta⟩ := list_equ hown
                  unfold sAuthz at pa ta
                  have HDN : Hid ((findL (l.take (j + 1)) sCookie).isSome = db) := by show _ = _; rw [hdn, decide_eq_false hc, Bool.or_false]
                  have HE : Hid (pickO l allN ++ gathO (reqStep au (cookieO l)) [] (l.take (j + 1)) = pickO l allN ++ gathO (reqStep au (cookieO l)) [] (l.take j) ++ [(xn, xv, true)]) := by
                    show _ = _
                    rw [hst, List.append_assoc]
                    unfold reqStep
                    rw [if_neg hnp, if_neg (by rw [hown]; decide), if_pos hown]
                  clear hst hdn hpb hdb hown hv hh hc ha hnp
                  cases xs
                  all_goals (
                    go_wp2_with (refine wpList_addH rfl (.tmp 110) (.tmp 112) rfl (.slice ra rm rc) _ (xn, _, _) rfl (HAL.out _ _).row (by go_simp) HM.out ?_; intro a6 n6 c6 w6 N6 O6 F6 K6)
                    have HK3 : Hid (RowN W2 (.slice a6 n6 c6) (pickO l allN ++ gathO (reqStep au (cookieO l)) [] (l.take (j + 1))) w6) := by rw [HE.out]; exact (HAL.out _ _).add O6.out F6.out K6.out
                    go_roundw
                    case rel => exact ⟨j + 1, a6, n6, c6, rfl, by rw [HDN.out], by go_num, by omega, HK3.out⟩
                    case measure => simp [intOf]; omega)
                · skip
                  obtain ⟨pv, tv⟩ := list_neq hv
                  unfold sVia at pv tv
                  obtain ⟨ph, th⟩ := list_neq hh
                  unfold sHost at ph th
                  obtain ⟨pc, tc⟩ := list_neq hc
                  unfold sCookie at pc tc
                  obtain ⟨pa, ta⟩ := list_neq ha
                  unfold sAuthz at pa ta
                  have HDN : Hid ((findL (l.take (j + 1)) sCookie).isSome = db) := by show _ = _; rw [hdn, decide_eq_false hc, Bool.or_false]
                  have HE : Hid (pickO l allN ++ gathO (reqStep au (cookieO l)) [] (l.take (j + 1)) = pickO l allN ++ gathO (reqStep au (cookieO l)) [] (l.take j) ++ [(xn, xv, xs)]) := by
                    show _ = _
                    rw [hst, List.append_assoc]
                    unfold reqStep
                    rw [if_neg hnp, if_neg hh, if_neg ha, if_neg hc, if_neg hv]
                  clear hst hdn hpb hdb hv hh hc ha hnp
                  cases xs
                  all_goals (
                    go_wp2_with (refine wpList_addH rfl (.tmp 110) (.tmp 112) rfl (.slice ra rm rc) _ (xn, _, _) rfl (HAL.out _ _).row (by go_simp) HM.out ?_; intro a6 n6 c6 w6 N6 O6 F6 K6)
                    have HK3 : Hid (RowN W2 (.slice a6 n6 c6) (pickO l allN ++ gathO (reqStep au (cookieO l)) [] (l.take (j + 1))) w6) := by rw [HE.out]; exact (HAL.out _ _).add O6.out F6.out K6.out
                    go_roundw
                    case rel => exact ⟨j + 1, a6, n6, c6, rfl, by rw [HDN.out], by go_num, by omega, HK3.out⟩
                    case measure => simp [intOf]; omega)
            · have hlt2 : ¬ (j : Int) < (len : Int) := by omega
              have e9 : l.take j = l := List.take_of_length_le (by rw [HN.out]; omega)
              have HK2 : Hid (RowN W2 (.slice ra rm rc) (pickO l allN ++ gathO (reqStep au (cookieO l)) [] l) wr) := by
                have h := HK.out
                rw [e9] at h
                exact h
              have KV2 := KV.out wr (HF2.out.trans HK2.out.fr)
              have HM : Hid ((pickO l allN ++ gathO (reqStep au (cookieO l)) [] l).length * 40 < 2 ^ 47) := by
                have h1 := HSL.out j
                rw [e9] at h1
                have h2 := HPL.out
                show _ < _
                rw [List.length_append]
                omega
              have HM2 : Hid ((pickO l allN ++ gathO (reqStep au (cookieO l)) [] l).length ≤ len + 6) := by
                have h1 := HSL.out j
                rw [e9] at h1
                have h2 := HPL.out
                show _ ≤ _
                rw [List.length_append]
                omega
              unfold ViaAs at KV2
              generalize (findL (l.take j) sCookie).isSome = db
              clear HK e9
              by_cases hL : (viaO l (tx name)).length ≤ 16384
              · rw [if_pos hL] at KV2
                have HPR : Hid (rewReq l (tx name) = (passO (reqStep au (cookieO l)) l (tx name), 0)) := by
                  show _ = _
                  have h5 := HCL.out
                  unfold rewReq passR
                  rw [if_pos HR0.out, if_pos (by omega), if_pos hL, HAU.out]
                have HVS : Hid (¬ 16384 < (viaO l (tx name)).length) := by show ¬ _; omega
                obtain ⟨VN, hVN⟩ : ∃ VN, mkS sVia = VN := ⟨_, rfl⟩
                obtain ⟨VT, hVT⟩ : ∃ VT, mkS (viaO l (tx name)) = VT := ⟨_, rfl⟩
                have HVH : Hid (viaH l (tx name) = (VN, VT, false)) := by show _ = _; unfold viaH; rw [hVN, hVT]
                rw [hVN, hVT] at KV2
                clear hL hVN hVT
                go_wp2_with (fail)
                refine KV2.mono ?_
                rintro e w5 ⟨rfl, f5⟩
                have HK5 : Hid (RowN W2 (.slice ra rm rc) (pickO l allN ++ gathO (reqStep au (cookieO l)) [] l) (w5.alloc (.cells #[.string VN, .string VT, .bool false] 35))) := (HK2.out.later f5).later ((Fr.refl _ _).alloc _)
                clear f5 KV2
                go_wp2_with (refine wpList_addH rfl (.tmp 123) (.tmp 125) rfl (.slice ra rm rc) _ (VN, VT, false) rfl HK5.out.row (by go_simp) HM.out ?_; intro a6 n6 c6 w6 N6 O6 F6 K6)
                have hN := HK5.out.add O6.out F6.out K6.out
                go_ret2
                rw [HPR.out]
                have e9 : pickO l allN ++ gathO (reqStep au (cookieO l)) [] l ++ [(VN, VT, false)] = passO (reqStep au (cookieO l)) l (tx name) := by rw [← HVH.out]; rfl
                have hvs := HVS.out
                have hcl2 := HCL.out
                have hsz : ∀ y ∈ passO (reqStep au (cookieO l)) l (tx name), y.1.size < 2 ^ 47 ∧ y.2.1.size < 2 ^ 47 := fun y hy => by
                  rw [← e9, List.mem_append, List.mem_append] at hy
                  rcases hy with (hy | hy) | hy
                  · exact HLW.out.sizes y (pick_mem1 hy)
                  · obtain ⟨h, hm, d, hd⟩ := gath_mem1 hy
                    exact req_sizes HLW.out.sizes (by omega) d h y hm hd
                  · simp at hy; subst hy; rw [← HVH.out]; exact viaH_sizes (by omega)
                have hlen9 : (passO (reqStep au (cookieO l)) l (tx name)).length * 40 < 2 ^ 47 := by
                  rw [← e9, List.length_append]
                  have h1 := HM2.out
                  simp only [List.length_cons, List.length_nil]
                  omega
                rw [e9] at hN
                obtain ⟨rfl, hh⟩ := hN.hl hlen9 hsz
                exact ⟨a6, c6, rfl, hh, HF2.out.trans hN.fr⟩
              · rw [if_neg hL] at KV2
                have HPR : Hid (rewReq l (tx name) = ([], 2)) := by
                  show _ = _
                  have h5 := HCL.out
                  unfold rewReq passR
                  rw [if_pos HR0.out, if_pos (by omega), if_neg hL]
                clear hL
                go_wp2_with (fail)
                refine KV2.mono ?_
                rintro e w5 ⟨rfl, f5⟩
                have HF5 : Hid (Fr (fun _ => False) w (w5.alloc (.cells #[.string ⟨#[]⟩, .string ⟨#[]⟩, .bool false] 35))) := ((HF2.out.trans HK2.out.fr).trans f5).alloc _
                clear f5 KV2
                go_wp2_with (fail)
                go_ret2
                rw [HPR.out]
                exact ⟨none, 0, rfl, HL.nil _, HF5.out⟩
        · have hcl : decide ((16384 : Int) < (CK.size : Int)) = true := by rw [decide_eq_true_iff]; omega
          have HPR : Hid (rewReq l (tx name) = ([], 2)) := by show _ = _; unfold rewReq; rw [if_pos HR0.out, if_neg hck]
          clear hck hcs
          go_wp2_with (fail)
          refine KJ2.mono ?_
          rintro e w9 ⟨rfl, rfl⟩
          clear KJ2
          go_wp2_with (fail)
          go_ret2
          rw [HPR.out]
          exact ⟨none, 0, rfl, HL.nil _, FP.out⟩
  · have HRW : Hid (rewReq l (tx name) = ([], requestO l)) := by show _ = _; unfold rewReq; rw [if_neg h0]
    obtain ⟨V, hV⟩ : ∃ V, requestO l = V := ⟨_, rfl⟩
    rw [hV] at KQ HRW h0
    clear hV
    go_enter Tryz.func8, Tryz.ntmps8
    go_wp2_with (fail)
    refine KQ.mono ?_
    rintro e w1 ⟨rfl, f1⟩
    have HF1 : Hid (Fr (fun _ => False) w w1) := f1
    clear f1 KQ
    go_wp2_with (fail)
    go_ret2
    rw [HRW.out]
    exact ⟨none, 0, rfl, HL.nil _, HF1.out⟩
end Go.Proofs.YtplggcfoadjffaaGreatDoor
/- The walk of RewriteRequests. -/
namespace Go.Proofs.YtplggcfoadjffaaGreatDoor
open Go.RowKit
set_option linter.unusedVariables false
set_option maxRecDepth 100000
set_option maxHeartbeats 8000000

theorem requests14_walk (q : Option Addr) (c : Nat) (l : List Hd) (name : ByteArray) (w : World) (hl : HL w q c l) (hE : ErrAt w) (hP : PowAt w) (hls : l.length * 40 + 400 ≤ 2 ^ 47) (hbk : bulkV l ≤ 2 ^ 60) (hname : name.size < 2 ^ 60) :
    Calls Tryz.prog 3 #[.slice q l.length c, .string name] w fun e w' => e = .returned (.bool true) ∧ Below w.heap.size w w' := by
  obtain ⟨q0, c0, w0, hrun, hh0, hb0, -⟩ := copy_run hl
  have HF0 : Hid (Fr (fun _ => False) w w0) := Fr.of_below hb0
  have HH0 : Hid (HL w0 q0 c0 l) := hh0
  have KX := xReq_in q0 c0 l name w0 hh0 (hE.fr HF0.out) hls hname
  have KY : Hid (∀ W, Fr (fun _ => False) w W → Calls Tryz.prog 8 #[.slice q l.length c, .string name] W fun e w' => PassAs W (rewReq l (tx name)) e w') := fun W f => rxReq_in q c l name W (hl.fr f) hls hbk (by omega)
  have KA : Hid (∀ W, Fr (fun _ => False) w W → Calls Tryz.prog 10 #[] W fun e w' => e = .returned (.bool true) ∧ Fr (fun _ => False) W w') := fun W f => awake14_in W (hP.fr f)
  have KM : Hid (∀ W, Fr (fun _ => False) w0 W → Calls Tryz.prog 9 #[.slice q0 l.length c0, .slice q l.length c] W fun e w' => e = .returned (.bool true) ∧ Fr (fun _ => False) W w') := fun W f => headers_in q0 q c0 c l W (hh0.fr f) (hl.fr (HF0.out.trans f))
  obtain ⟨⟨L, er⟩, hR⟩ : ∃ r, rewReq l (tx name) = r := ⟨_, rfl⟩
  rw [hR] at KX KY
  obtain ⟨len, hlen⟩ : ∃ len, l.length = len := ⟨_, rfl⟩
  rw [hlen] at hrun KX KY KM ⊢
  have hee : (er == er) = true := beq_self_eq_true _
  clear hl hE hP hls hbk hname hh0 hb0 hR hlen
  go_enter Tryz.func3, Tryz.ntmps3
  go_wp2_with (refine wpList_append_run9 rfl (.tmp 10) (.tmp 11) 22 rfl _ _ _ rfl rfl hrun ?_)
  refine KX.mono ?_
  rintro e w1 ⟨q1, c1, rfl, h1, f1⟩
  dsimp only at h1 ⊢
  have HF1 : Hid (Fr (fun _ => False) w0 w1) := f1
  have HH1 : Hid (HL w1 q1 c1 L) := h1
  clear f1 h1 KX
  go_wp2_with (fail)
  refine (KY.out w1 (HF0.out.trans HF1.out)).mono ?_
  rintro e w2 ⟨q2, c2, rfl, h2, f2⟩
  dsimp only at h2 ⊢
  have HF2 : Hid (Fr (fun _ => False) w0 w2) := HF1.out.trans f2
  have KH := headers_in q1 q2 c1 c2 L w2 (HH1.out.fr f2) h2
  clear f2 h2 KY
  go_wp2_with (fail)
  refine KH.mono ?_
  rintro e w3 ⟨rfl, f3⟩
  have HF3 : Hid (Fr (fun _ => False) w0 w3) := HF2.out.trans f3
  clear f3 KH
  go_wp2_with (fail)
  refine (KM.out w3 HF3.out).mono ?_
  rintro e w4 ⟨rfl, f4⟩
  have HF4 : Hid (Fr (fun _ => False) w w4) := HF0.out.trans (HF3.out.trans f4)
  clear f4
  go_wp2_with (fail)
  refine (KA.out w4 HF4.out).mono ?_
  rintro e w5 ⟨rfl, f5⟩
  have HF5 : Hid (Fr (fun _ => False) w w5) := HF4.out.trans f5
  clear f5
  go_wp2_with (fail)
  go_ret
  exact ⟨rfl, HF5.out.below (fun _ _ h => h)⟩
end Go.Proofs.YtplggcfoadjffaaGreatDoor
