/- The values at first, by a range over the rules in whatever order; New. -/
import Derived.Test.YtpjbgjgaigkbcaaGreatMc
import Derived.Deep.LoopGhost
namespace Go.Proofs.YtpjbgjgaigkbcaaGreat
open Go.RowKit Go.Maps
set_option linter.unusedVariables false
set_option maxRecDepth 100000
set_option maxHeartbeats 4000000

/-- What a map's reading tells of its keys. -/
def Reads (D : DataW Value) (M : Int → Option Value) : Prop := ∀ k : Int, (∀ v, M k = some v → ∀ z, D.atKey (.int .i64 k) z = .held v) ∧ Maps.has D (.int .i64 k) = (M k).isSome
section
variable {w : World} {ops : Array Oper} {rest : List Oper} {o : Oper} {a : Act} {Q : Exit → Act → World → Prop}
theorem wpList_next_map (hg : o.guard = none) (it : Operand) (hop : o.op = Op.next it false) (M : Int → Option Value) (mkV : Int → Value) (hM : ∀ x v, M x = some v → v = mkV x) (b r n : Nat) (D : DataW Value) (hD : Reads D M) (left : Lit → Bool) (cnt : Nat)
    (hit : a.eval it = .pointer (some ⟨r, 0, none⟩)) (h : w.ranges Tryz.prog 3 Raw b r n D left cnt)
    (hDone : (∀ kl, left kl = false) → wpList Tryz.prog ops Q rest (a.put o.dst (.tuple #[.bool false])) w)
    (hMore : ∀ (x : Int) (w' : World) (cnt' : Nat), IsI x → (M x).isSome = true → w'.ranges Tryz.prog 3 Raw b r n D (fun z => left z && !z.sameKey (.int .i64 x)) cnt' → cnt' < cnt →
      Fr (fun k => k = r) w w' → w'.heap.size = w.heap.size → (Instr.entry (.pointer (some ⟨r, 0, none⟩))).run Tryz.prog w' = .ok (.tuple #[.int .i64 x, mkV x]) w' → wpList Tryz.prog ops Q rest (a.put o.dst (.tuple #[.bool true, .int .i64 x, mkV x])) w') :
    wpList Tryz.prog ops Q (o :: rest) a w := by
  refine wpList_plain hg fun K' hK' => ?_
  unfold Oper.wp
  rcases h.next keyI o.type with ⟨h0, hl, hrun⟩ | ⟨key, v, kl, y, w', cnt', hkey, hlk, hv, hat, hrun, hrg, hlt, hgr, hsz, hen⟩
  · simp [execOp, hop, hit, hrun, Result.andThen]
    exact hK' _ _ (hDone hl)
  · obtain ⟨x, rfl, rfl, hwx⟩ := Maps.keyOf_int_inv Tryz.underlying3 hkey
    have hhas : Maps.has D (.int .i64 x) = true := has_true_of_atKey hat
    rw [(hD x).2] at hhas
    obtain ⟨u, hu⟩ := Option.isSome_iff_exists.1 hhas
    have e1 := (hD x).1 u hu (.held u)
    rw [hat] at e1
    unfold Raw at hv
    simp at hv
    rw [← hv] at e1
    simp at e1
    subst e1
    obtain rfl := hM x _ hu
    simp [execOp, hop, hit, hrun, Result.andThen]
    exact hK' _ _ (hMore x w' cnt' (IsI.of hwx) hhas hrg hlt (grown_fr hgr) hsz hen)
end
theorem reads_of {w : World} {b n : Nat} {M : Int → Option Value} (h : MapAt w b n M) : ∃ D, w.ownsMap Tryz.prog 3 Raw b n D ∧ Reads D M := h
theorem ranges_fr {S : Nat → Prop} {w w' : World} {b r n cnt : Nat} {D : DataW Value} {left : Lit → Bool} (h : w.ranges Tryz.prog 3 Raw b r n D left cnt) (hf : Fr S w w') (hb : ¬ S b) (hr : ¬ S r) : w'.ranges Tryz.prog 3 Raw b r n D left cnt := by
  have h1 := h.owns.lt
  have h2 := h.lt
  obtain ⟨es, clock, since, seen, c0, hb', F, hs, hD, hr', rest⟩ := h
  exact ⟨es, clock, since, seen, c0, (hf.block b h1 hb).trans hb', F, hs, hD, (hf.block r h2 hr).trans hr', rest⟩

/-- The values that are laid already. -/
def someM (left : Lit → Bool) (k : Int) : Option Value := if left (.int .i64 k) then none else valsM firstV k
theorem some_start {D : DataW Value} (h : Reads D rulesM) : (fun _ => none) = someM (Maps.has D) := by
  funext k
  unfold someM
  rw [(h k).2]
  unfold rulesM valsM
  cases kn k <;> rfl
theorem some_step {left : Lit → Bool} {x : Int} (hk : kn x = true) : putM (someM left) x (.int .u32 (firstV x : Nat)) = someM (fun z => left z && !z.sameKey (.int .i64 x)) := by
  funext j
  unfold putM someM
  by_cases hj : j = x
  · subst hj
    have e := WideAt.sameKey_self (isI_key j)
    simp [valsM, hk, e]
  · have e := sameKey_ne (a := .int .i64 j) (b := .int .i64 x) (by simpa using hj)
    simp [hj, e]
theorem some_end {left : Lit → Bool} (h : ∀ kl, left kl = false) : someM left = valsM firstV := by
  funext k; simp [someM, h]
theorem rulesM_v {x : Int} {v : Value} (h : rulesM x = some v) : v = (fun x => .agg #[.int .u32 (firstV x : Nat), .func (.func (fitFn x)) #[] #[], .int .i64 (badC x)]) x := by
  unfold rulesM at h
  split at h
  · cases h; rfl
  · cases h
theorem rulesM_kn {x : Int} (h : (rulesM x).isSome = true) : kn x = true := by
  unfold rulesM at h
  cases hk : kn x
  · rw [hk] at h; cases h
  · rfl

theorem firsts_in (w : World) : Calls Tryz.prog 31 #[] w fun e w' => e = .returned (.map (some w.heap.size)) ∧ MapAt w' w.heap.size 7 (valsM firstV) ∧ Fr (fun _ => False) w w' := by
  have hmm := @run_makeMap Tryz.prog
  have m0 := map_made w
  have KR := rules_in (w.alloc (.map #[] 0))
  have e1 : (w.alloc (.map #[] 0)).heap.size = w.heap.size + 1 := by simp
  rw [e1] at KR
  go_enter Tryz.func31, Tryz.ntmps31
  go_wp2_with (first
    | (go_at_call 41; refine KR.mono ?_; clear KR; rintro e w1 ⟨rfl, hm1, hf1, hs1⟩; obtain ⟨D, hown, hD⟩ := reads_of hm1; have m1 := m0.fr hf1 id)
    | (at_range; refine wpList_range_own _ rfl _ 127 rfl 3 131 keyI Tryz.underlying127 Raw (w.heap.size + 1) 7 D rfl hown ?_; intro w2 hrg2 hg2 hs2)
    | go_in)
  go_frame
  have hr : w1.heap.size = w.heap.size + 2 := by omega
  rw [hr] at hrg2 hs2
  have F2 : Fr (fun _ => False) w w2 := (((Fr.refl _ _).alloc _).trans hf1).trans (grown_fr0 hg2)
  have m2 := m1.fr (grown_fr0 hg2) id
  have z2 : w.heap.size + 3 ≤ w2.heap.size := by omega
  have hcn := hown.size_le
  have HD : Hid (Reads D rulesM) := hD
  have HS : Hid (Maps.size D ≤ 7) := hcn
  clear hm1 hf1 m1 hown hD hg2 hs2 hs1 m0 e1 hcn
  rw [hr]
  clear hr
  go_loopw [2] (fun _ wr => ∃ (left : Lit → Bool) (cnt n : Nat), Hid (wr.ranges Tryz.prog 3 Raw (w.heap.size + 1) (w.heap.size + 2) 7 D left cnt ∧ n + cnt ≤ 7 ∧ MapAt wr w.heap.size n (someM left) ∧ Fr (fun _ => False) w wr ∧ w.heap.size + 3 ≤ wr.heap.size))
    (fun _ wr => wr.rangeLeft (w.heap.size + 1) (w.heap.size + 2))
  case atStart =>
    refine ⟨_, _, 0, ⟨hrg2, by have := HS.out; omega, ?_, F2, z2⟩⟩
    rw [← some_start HD.out]
    exact m2
  case round =>
    obtain ⟨left, cnt, n, HR⟩ := hrel
    have hrg := HR.out.1
    go_wp2_with (first
      | (at_next; refine wpList_next_map rfl _ rfl rulesM (fun x => .agg #[.int .u32 (firstV x : Nat), .func (.func (fitFn x)) #[] #[], .int .i64 (badC x)]) (fun x v h => rulesM_v h) (w.heap.size + 1) (w.heap.size + 2) 7 D HD.out left cnt rfl hrg ?_ ?_)
      | go_in)
    · intro hl
      go_wp2
      go_ret
      have hm := HR.out.2.2.1
      rw [some_end hl] at hm
      exact ⟨rfl, hm.mono (by have := HR.out.2.1; omega), HR.out.2.2.2.1⟩
    · intro x w1 cnt1 hx hsx hrg1 hlt hf1 hs1 hen
      have hkn := rulesM_kn hsx
      have m1 := HR.out.2.2.1.fr hf1 (by omega)
      have m2 := m1.fr ((Fr.refl (fun _ => False) w1).alloc (.cells #[.int .u32 (firstV x : Nat), .func (.func (fitFn x)) #[] #[], .int .i64 (badC x)] 131)) id
      have hn7 : n < maxLen := by have := HR.out.2.1; unfold maxLen; omega
      go_wp2_with (first
        | (at_mapUpdate; refine wpList_put rfl _ _ _ 71 (.inl rfl) 64 Tryz.underlying71 w.heap.size n _ rfl m2 hn7 x rfl hx (.int .u32 (firstV x : Nat)) rfl ?_; intro w3 m3 f3 s3; go_frame)
        | go_in)
      have fa : Fr (fun _ => False) w1 (w1.alloc (.cells #[.int .u32 (firstV x : Nat), .func (.func (fitFn x)) #[] #[], .int .i64 (badC x)] 131)) := (Fr.refl _ _).alloc _
      have hrg3 := ranges_fr (ranges_fr hrg1 fa id id) f3 (by omega) (by omega)
      go_roundw
      case rel =>
        refine ⟨_, cnt1, _, ⟨hrg3, ?_, (some_step hkn) ▸ m3, ?_, ?_⟩⟩
        · have := HR.out.2.1
          split <;> omega
        · have h1 : Fr (fun k => w.heap.size ≤ k) w wr := HR.out.2.2.2.1.mono (fun _ _ e => e.elim)
          have h2 := ((h1.trans (hf1.mono (fun k _ e => by omega))).trans (fa.mono (fun _ _ e => e.elim))).trans (f3.mono (fun k _ e => by omega))
          exact h2.mono (fun k hk e => by omega)
        · have := HR.out.2.2.2.2
          have := fa.size
          omega
      case measure => rw [hrg3.left_eq, hrg.left_eq]; exact hlt
theorem sNew_in (w : World) : Calls Tryz.prog 11 #[] w fun e w' => ∃ g b, e = .returned (.pointer (some ⟨g, 0, none⟩)) ∧ SetC w' g b (.slice none 0 0) ∧ MapAt w' b 7 (valsM firstV) ∧ Fr (fun _ => False) w w' ∧ w.heap.size ≤ b ∧ b < g := by
  have K := firsts_in w
  go_enter Tryz.func11, Tryz.ntmps11
  go_wp2_with (go_at_call 31; refine K.mono ?_; clear K; rintro e w1 ⟨rfl, hm, hf⟩)
  go_ret
  refine ⟨_, _, rfl, heap_alloc_new w1 _, hm.fr ((Fr.refl (fun _ => False) _).alloc _) id, hf.alloc _, Nat.le_refl _, hm.lt⟩
end Go.Proofs.YtpjbgjgaigkbcaaGreat
