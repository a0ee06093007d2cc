/- Proved: eggboxlaw14.MonoidRules answers true at every automaton's data a (P14.5): where both build a monoid, the program's Rules answer the document's two lists, word for word; what the caller writes into the lists that were told changes nothing of what Rules answer again; where none is built both refuse it alike; and the law's own automaton has the monoid that the law names. No condition. -/
import Derived.Test.YtenpeomnmbnoaaaW3
import Derived.SizedLaws
namespace Go.Proofs.Ytenpeomnmbnoaaa.monoidRules
open Go Go.ChangeShapes Go.WideShapes Go.ChangeAt Go.RowKit Go.Lib
open Go.ChangeMaps (open_string shut_string)
set_option linter.unusedVariables false
attribute [-instance] List.instBEq instBEqProd

theorem own_addrS {w : World} {B n c : Nat} {a : Option Addr} {xs : List Value} (h : w.ownsRow B 9 1 (.slice a n c) n xs) (hn : 0 < n) : ∃ g, a = some ⟨g, 0, none⟩ := by
  obtain ⟨_, h⟩ := h
  rcases h with ⟨_, h0⟩ | ⟨g, cap, cur, hv, _⟩
  · omega
  · simp at hv
    exact ⟨g, hv.1⟩

/-- A cell of a row of the call's own is there, and may be written. -/
theorem own_cellS {w : World} {B n c g : Nat} {xs : List Value} (h : w.ownsRow B 9 1 (.slice (some ⟨g, 0, none⟩) n c) n xs) {i : Nat} (hi : i < n) : w.cell? ⟨g, i, none⟩ = some (pvS w g i) ∧ w.frozen? ⟨g, i, none⟩ = false := by
  rcases h.2 with ⟨q, _⟩ | ⟨g', cap, cur, q, r1, r2, r3, r4, r5, r6⟩
  · cases q
  · simp only [Value.slice.injEq, Option.some.injEq, Addr.mk.injEq] at q
    obtain ⟨⟨rfl, _⟩, _, rfl⟩ := q
    refine ⟨?_, frozen_blk r2 i⟩
    unfold pvS
    rw [cell_of_row _ _ _ _ _ _ r2, Array.getElem?_eq_getElem (by omega)]
    rfl

/-- What stands while the lists that were told are written over. -/
structure WO (w1 w2 : World) (n : Nat) (vl vr vk vy : Value) (LF RT : List (List Nat)) (wr : World) : Prop where
  l : ∃ X, wr.ownsRow w1.heap.size 9 1 vl n X
  r : ∃ X, wr.ownsRow w1.heap.size 9 1 vr n X
  k : OwnW wr w2.heap.size vk LF
  y : OwnW wr w2.heap.size vy RT
  ap : ∀ j, vl.ownBlock = some j → vr.ownBlock ≠ some j
  ll : ∀ j, vl.ownBlock = some j → j < w2.heap.size
  lr : ∀ j, vr.ownBlock = some j → j < w2.heap.size
  below : Below w1.heap.size w1 wr

theorem WO.swap {w1 w2 : World} {n : Nat} {vl vr vk vy : Value} {LF RT : List (List Nat)} {wr : World} (h : WO w1 w2 n vl vr vk vy LF RT wr) : WO w1 w2 n vr vl vk vy LF RT wr := ⟨h.r, h.l, h.k, h.y, fun j hj hk => h.ap j hk hj, h.lr, h.ll, h.below⟩

theorem WO.put {w1 w2 : World} {n g c : Nat} {vr vk vy : Value} {LF RT : List (List Nat)} {wr : World} (h : WO w1 w2 n (.slice (some ⟨g, 0, none⟩) n c) vr vk vy LF RT wr) (i : Nat) (s : ByteArray) : WO w1 w2 n (.slice (some ⟨g, 0, none⟩) n c) vr vk vy LF RT (wr.setCell ⟨g, i, none⟩ (.string s)) := by
  obtain ⟨X, hX⟩ := h.l
  obtain ⟨Y, hY⟩ := h.r
  have hg := h.ll g rfl
  exact ⟨⟨_, (hX.stored i (.string s)).1⟩, ⟨Y, own_keep hY (fun b cur hb _ => heap_set_other (fun e => h.ap g rfl (e ▸ hb)))⟩, own_keep h.k (fun b cur hb _ => heap_set_other (by have := (h.k.lt b hb).1; omega)), own_keep h.y (fun b cur hb _ => heap_set_other (by have := (h.y.lt b hb).1; omega)), h.ap, h.ll, h.lr, h.below.setCell (p := ⟨g, i, none⟩) (hX.lt g rfl).1 _⟩

set_option maxHeartbeats 8000000 in
set_option maxRecDepth 100000 in
theorem walk (v : Value) (A : Aut) (w : World) (h : AR w v A) (hn : NilOk v) (hm : (A.nx.length + 2) * 8 ≤ 140737488355328) (hm2 : A.ac.length ≤ 140737488355328) :
    Calls Try.prog 6 #[v] w fun e w' => e = .returned (.bool true) ∧ Below w.heap.size w w' := by
  obtain ⟨an, cn, aa, ca, e, h1, h2⟩ := h.is
  have HBO : Hid (∀ w', Below w.heap.size w w' → Calls Try.prog 11 #[v] w' (BoQ A w')) := fun w' hb => both14_any v A w' (h.stay hb) hn hm hm2
  clear h h1 h2 hn
  subst e
  go_enter Try.func6, Try.ntmps6
  go_wp2_with fail
  refine (HBO.out _ (below_new _ _)).mono ?_
  rintro e w1 (⟨_, rfl, hb⟩ | ⟨ob, rb, M, N, rfl, G, h64, hE, hmo, hrf, hb⟩)
  · have HB1 : Hid (Below w.heap.size w w1) := go_on (below_new _ _) hb
    clear hb
    go_wp2_with fail
    refine (live14_any w1).mono ?_
    rintro e w2 ⟨rfl, hb⟩
    have HB2 : Hid (Below w.heap.size w w2) := go_on HB1.out hb
    clear hb
    go_wp2_with fail
    go_ret
    exact ⟨rfl, HB2.out⟩
  · have HB1 : Hid (Below w.heap.size w w1) := go_on (below_new _ _) hb
    have HMO : Hid (∀ y, Below w1.heap.size w1 y → MO y ob A M N) := fun y hy => hmo.below hy
    have HRF : Hid (∀ y, Below w1.heap.size w1 y → RF y rb A M N) := fun y hy => hrf.below hy
    have hNl : N.length ≤ 4096 := by
      have hm0 := mon_of G h64 hE
      rw [hm0.len]
      exact Nat.le_trans (Nat.mul_le_mul hm0.most G.ks.2.1) (by decide)
    obtain ⟨LL, hLL⟩ : ∃ LL, rlL A.k.toNat N N.length = LL := ⟨_, rfl⟩
    have hll : LL.length ≤ 4096 := by have := rlL_len A.k.toNat N N.length; rw [hLL] at this; omega
    obtain ⟨n, hnn⟩ : ∃ n, LL.length = n := ⟨_, rfl⟩
    obtain ⟨LF, hLF⟩ : ∃ LF, lfs LL = LF := ⟨_, rfl⟩
    obtain ⟨RT, hRT⟩ : ∃ RT, rts LL = RT := ⟨_, rfl⟩
    have hlf : LF.length = n := by rw [← hLF, ← hnn]; unfold lfs; rw [List.length_map]
    have hrt : RT.length = n := by rw [← hRT, ← hnn]; unfold rts; rw [List.length_map]
    have HLF : Hid (LF.length = n) := hlf
    have HRT : Hid (RT.length = n) := hrt
    have hn4 : n ≤ 4096 := by omega
    have HRU : Hid (∀ y, Below w1.heap.size w1 y → Calls Try.prog 35 #[.pointer (some ⟨ob, 0, none⟩)] y (RuQ LF RT y)) := fun y hy => by
      have := mrules_any (HMO.out y hy)
      rw [hLL, hLF, hRT] at this
      exact this
    have HRR : Hid (∀ y, Below w1.heap.size w1 y → Calls Try.prog 36 #[.pointer (some ⟨rb, 0, none⟩)] y (RuQ LF RT y)) := fun y hy => by
      have := rrules_any (HRF.out y hy)
      rw [hLL, hLF, hRT] at this
      exact this
    clear hb hmo hrf G h64 hE hLL hll hnn hLF hRT hlf hrt hNl
    go_wp2_with fail
    refine (HRU.out _ (Below.refl _ _)).mono ?_
    rintro e w2 ⟨vl, vr, rfl, ht⟩
    have HT2 : Hid (TwoW w1 w2 vl vr LF RT) := ht
    obtain ⟨al, cl, hs⟩ := own_shape ht.l
    rw [HLF.out] at hs
    subst hs
    obtain ⟨ar, cr, hs⟩ := own_shape ht.r
    rw [HRT.out] at hs
    subst hs
    clear ht
    go_wp2_with fail
    refine (HRR.out _ HT2.out.below).mono ?_
    rintro e w3 ⟨vk, vy, rfl, ht⟩
    obtain ⟨ak, ck, hs⟩ := own_shape ht.l
    rw [HLF.out] at hs
    subst hs
    obtain ⟨ay, cy, hs⟩ := own_shape ht.r
    rw [HRT.out] at hs
    subst hs
    have HT3 : Hid (TwoW w2 w3 (.slice ak n ck) (.slice ay n cy) LF RT) := ht
    have HB3 : Hid (Below w1.heap.size w1 w3) := go_on HT2.out.below ht.below
    have HL3 : Hid (OwnW w3 w1.heap.size (.slice al n cl) LF) := own_below HT2.out.l ht.below
    have HR3 : Hid (OwnW w3 w1.heap.size (.slice ar n cr) RT) := own_below HT2.out.r ht.below
    have HSW : Hid (∀ y b1 b2 a1 a2 c1 c2, OwnW y b1 (.slice a1 n c1) LF → OwnW y b2 (.slice a2 n c2) LF → Calls Try.prog 37 #[.slice a1 n c1, .slice a2 n c2] y fun e w' => e = .returned (.bool true) ∧ Below y.heap.size y w') := fun y b1 b2 a1 a2 c1 c2 p q => by
      have hq := HLF.out
      subst hq
      exact sameW_any p q (by omega)
    have HSV : Hid (∀ y b1 b2 a1 a2 c1 c2, OwnW y b1 (.slice a1 n c1) RT → OwnW y b2 (.slice a2 n c2) RT → Calls Try.prog 37 #[.slice a1 n c1, .slice a2 n c2] y fun e w' => e = .returned (.bool true) ∧ Below y.heap.size y w') := fun y b1 b2 a1 a2 c1 c2 p q => by
      have hq := HRT.out
      subst hq
      exact sameW_any p q (by omega)
    clear ht
    go_wp2_with (first
      | (go_at_call_of 37 ([.slice al n cl, .slice ak n ck] : List Value); refine (HSW.out _ _ _ _ _ _ _ HL3.out HT3.out.l).mono ?_; rintro e w4 ⟨rfl, hb⟩; have HB4 : Hid (Below w3.heap.size w3 w4) := hb; clear hb)
      | (go_at_call_of 37 ([.slice ar n cr, .slice ay n cy] : List Value); refine (HSV.out _ _ _ _ _ _ _ (own_below HR3.out HB4.out) (own_below HT3.out.r HB4.out)).mono ?_; rintro e w5 ⟨rfl, hb⟩; have HB5 : Hid (Below w3.heap.size w3 w5) := go_on HB4.out hb; clear hb))
    have HW5 : Hid (WO w1 w2 n (.slice al n cl) (.slice ar n cr) (.slice ak n ck) (.slice ay n cy) LF RT w5) := by
      have hl := own_below HL3.out HB5.out
      have hr := own_below HR3.out HB5.out
      unfold OwnW at hl hr
      rw [HLF.out] at hl
      rw [HRT.out] at hr
      exact ⟨⟨_, hl⟩, ⟨_, hr⟩, own_below HT3.out.l HB5.out, own_below HT3.out.r HB5.out, HT2.out.ap, fun j hj => (HT2.out.l.lt j hj).2, fun j hj => (HT2.out.r.lt j hj).2, go_on HB3.out HB5.out⟩
    clear HL3 HR3 HT3 HB3
    go_loopw [11] (fun vi wr => ∃ i : Nat, vi = .int .i64 i ∧ i ≤ n ∧ WO w1 w2 n (.slice al n cl) (.slice ar n cr) (.slice ak n ck) (.slice ay n cy) LF RT wr) (fun vi _ => n - (Go.RowKit.intOf vi).toNat)
    case atStart => exact ⟨0, rfl, Nat.zero_le _, HW5.out⟩
    case round =>
      clear HW5
      obtain ⟨i, rfl, hi, hw⟩ := hrel
      have HW : Hid (WO w1 w2 n (.slice al n cl) (.slice ar n cr) (.slice ak n ck) (.slice ay n cy) LF RT wr) := hw
      by_cases hlt : i < n
      · have hiI : (i : Int) < n := by omega
        have hid : decide ((i : Int) < n) = true := decide_eq_true hiI
        obtain ⟨X, hX⟩ := hw.l
        obtain ⟨g, hg⟩ := own_addrS hX (by omega)
        subst hg
        obtain ⟨Y, hY⟩ := hw.r
        obtain ⟨g', hg'⟩ := own_addrS hY (by omega)
        subst hg'
        obtain ⟨c1, f1⟩ := own_cellS hX hlt
        have HW1 : Hid (WO w1 w2 n (.slice (some ⟨g, 0, none⟩) n cl) (.slice (some ⟨g', 0, none⟩) n cr) (.slice ak n ck) (.slice ay n cy) LF RT (wr.setCell ⟨g, i, none⟩ (.string ⟨#[109, 97, 114, 107]⟩))) := hw.put i _
        obtain ⟨Y2, hY2⟩ := HW1.out.r
        obtain ⟨c2, f2⟩ := own_cellS hY2 hlt
        have HW2 : Hid (WO w1 w2 n (.slice (some ⟨g, 0, none⟩) n cl) (.slice (some ⟨g', 0, none⟩) n cr) (.slice ak n ck) (.slice ay n cy) LF RT ((wr.setCell ⟨g, i, none⟩ (.string ⟨#[109, 97, 114, 107]⟩)).setCell ⟨g', i, none⟩ (.string ⟨#[115, 112, 111, 116]⟩))) := (HW1.out.swap.put i _).swap
        clear hw hX hY hY2 HW HW1
        go_wp2_with fail
        go_roundw
        case rel => exact ⟨i + 1, by go_num, by omega, HW2.out⟩
        case measure => simp [Go.RowKit.intOf]; omega
      · have hiI : ¬ (i : Int) < n := by omega
        have hid : decide ((i : Int) < n) = false := decide_eq_false hiI
        clear hw
        go_wp2_with fail
        refine (HRU.out _ HW.out.below).mono ?_
        rintro e w7 ⟨vo, vp, rfl, ht⟩
        obtain ⟨ao, co, hs⟩ := own_shape ht.l
        rw [HLF.out] at hs
        subst hs
        obtain ⟨ap, cp, hs⟩ := own_shape ht.r
        rw [HRT.out] at hs
        subst hs
        have HT7 : Hid (TwoW wr w7 (.slice ao n co) (.slice ap n cp) LF RT) := ht
        clear ht
        go_wp2_with (first
          | (go_at_call_of 37 ([.slice ao n co, .slice ak n ck] : List Value); refine (HSW.out _ _ _ _ _ _ _ HT7.out.l (own_below HW.out.k HT7.out.below)).mono ?_; rintro e w8 ⟨rfl, hb⟩; have HB8 : Hid (Below w7.heap.size w7 w8) := hb; clear hb)
          | (go_at_call_of 37 ([.slice ap n cp, .slice ay n cy] : List Value); refine (HSV.out _ _ _ _ _ _ _ (own_below HT7.out.r HB8.out) (own_below (own_below HW.out.y HT7.out.below) HB8.out)).mono ?_; rintro e w9 ⟨rfl, hb⟩; have HB9 : Hid (Below w7.heap.size w7 w9) := go_on HB8.out hb; clear hb)
          | (go_at_call 10; refine (live14_any _).mono ?_; rintro e w10 ⟨rfl, hb⟩; have HL : Hid (Below w.heap.size w w10) := go_on HB1.out (go_on HW.out.below (go_on HT7.out.below (go_on HB9.out hb))); clear hb))
        go_ret
        exact ⟨rfl, HL.out⟩


/-! ### The row's step -/
theorem own : ownKnob Try.prog.godebug = none := by kernel_rfl
set_option maxRecDepth 100000 in
theorem lifted (os : Os) (started : os.Started) (H : Type) (enc : TypeId × Value → H) :
    ReturnsInHanded {} Try.checked os 6 .any (Rows.monoidRulesSpec.pre6 enc Try.prog Try.f6 Rows.monoidRulesRow.domain false) (Rows.monoidRulesSpec.post enc Try.prog Try.f6 false true false false) := by
  refine returnsInHanded_of_change_sized (C := Try.checked) own started (by kernel_rfl) Try.func6
    (ChangeSpec.witness6 (enc := enc) (C := Try.checked) false ⟨#[], #[.agg #[.int .i64 0, .slice none 0 0, .slice none 0 0]], []⟩ 8 (by kernel_rfl) (by kernel_rfl) (by kernel_rfl) (by kernel_rfl)) ?_
  intro W base args ds gs before hval0 hW hcnd hsz0 _
  have hval : ∀ (j : Nat) t v, Try.f6.params[j]? = some t → args[j]? = some v → Value.okWide Try.prog W .any base t v := hval0
  clear hval0
  have hsz : (DataW.weightsEach Try.prog (Try.f6.params.toList ++ Rows.monoidRulesSpec.plain.varTypes Try.prog) (ds ++ gs)).all (· ≤ reachBytes) = true := hsz0
  clear hsz0
  have hW' := hW
  obtain ⟨p, q, hA0, hV, rfl, hfz, hnd⟩ := hW
  have hA : DataW.TrodAll enc Try.prog W 0 (fun _ => true) true Try.f6.params.toList args.toList ds p := hA0
  rw [Try.params6] at hA hval hsz
  obtain ⟨v0, vs0, d0, ds0, p0, q0, hargs, rfl, rfl, h0, r0⟩ := trodAll_cons hA
  obtain ⟨rfl, rfl, rfl⟩ := trodAll_nil r0
  obtain rfl : args = #[v0] := by cases args; simp_all
  obtain ⟨rfl, rfl⟩ := trodVars_none hV
  obtain ⟨a0, x0, n0, w0, dk0, dn0, da0, e0, y0, z0⟩ := open_auto (hval 0 26 v0 rfl rfl) h0
  have b0 := auto_bounds hsz (j := 0) rfl (by rw [e0]; rfl) y0 z0
  have g0 : ∀ x ∈ p0, x.block < W.heap.size := fun x hx => hW'.lt x (by simp [hx])
  clear hA0
  refine (walk v0 a0 W x0 n0 b0.1 b0.2).mono fun e W' ⟨he, bel⟩ => ?_
  subst he
  exact ⟨_, rfl, _, _, _, [], _, [], hW', trodAll_mk1 (shut_bool Try.underlying4 _), (trodAll_cons_mk (Below.trod Try.laidOut (by kernel_rfl) (of_decide_eq_true (by kernel_rfl)) h0 bel g0) trodAll_mk0), rfl, bel.frame _, fun h => by cases h⟩

theorem over : Rows.monoidRulesRow.holds Try.pinned (OpenSpec.ofChange Rows.monoidRulesSpec) :=
  OpenClaim.holds_of_wide 6 Try.f6 rfl rfl rfl rfl rfl rfl rfl ⟨rfl, rfl, rfl, rfl, rfl⟩ rfl rfl rfl rfl rfl (by kernel_rfl) Try.func6 (by kernel_rfl)
    (of_decide_eq_true (by kernel_rfl)) (by unfold Func.isWrapper; first | (rw [if_pos (by decide +kernel)]; kernel_rfl) | (rw [if_neg (by decide +kernel)]; exact ⟨rfl, rfl⟩))
    (fun os started H enc _ => lifted os started H enc)

end Go.Proofs.Ytenpeomnmbnoaaa.monoidRules
namespace Go.Proofs.Ytenpeomnmbnoaaa
/-- The given statement. -/
theorem monoidRules_holds : Rows.MonoidRulesSaid := monoidRules.over
end Go.Proofs.Ytenpeomnmbnoaaa
