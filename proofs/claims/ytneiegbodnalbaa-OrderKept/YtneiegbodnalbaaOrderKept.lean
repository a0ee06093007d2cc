/- Proved: eggboxlaw18.OrderKept answers true at every automaton's data a and all numbers i, j, k (P18.5, P18.6): where Build makes a monoid, Leq is an order of its elements that products keep on either side, Same is both ways, and what stands above an accepted element is accepted; and the law's own monoid is as the law names it. No condition. -/
import Derived.Test.YtneiegbodnalbaaW4
import Derived.Test.YtneiegbodnalbaaE26
import Derived.ProofKit
import Derived.OpenShut
import Derived.ShutString
import Derived.ChangeOld
import Derived.SizedLaws
namespace Go.Proofs.Ytneiegbodnalbaa.orderKept
open Go Go.ChangeShapes Go.WideShapes Go.ChangeAt Go.RowKit Go.Lib
open Go.ChangeMaps (open_string shut_string)
set_option linter.unusedVariables false
attribute [-instance] List.instBEq instBEqProd

set_option maxHeartbeats 8000000 in
set_option maxRecDepth 100000 in
theorem walk (va : Value) (A : Aut) (a1 : Int) (a2 : Int) (a3 : Int) (W : World) (ha : AR W va A) (hna : NilOk va) (hma : (A.nx.length + 2) * 8 ≤ 140737488355328) (hma2 : A.ac.length ≤ 140737488355328) (h1 : I64 a1) (h2 : I64 a2) (h3 : I64 a3) :
    Calls Try.prog 5 #[va, .int .i64 a1, .int .i64 a2, .int .i64 a3] W fun e w' => e = .returned (.bool true) ∧ Below W.heap.size W w' := by
  obtain ⟨an, cn, aa, ca, ea, _, _⟩ := ha.is
  have HAA : Hid (∀ y, Below W.heap.size W y → AR y va A) := fun y hy => ha.stay hy
  subst ea
  have HBU : Hid (∀ y, Below W.heap.size W y → Calls Try.prog 9 #[.agg #[.int .i64 A.k, .slice an A.nx.length cn, .slice aa A.ac.length ca]] y (B18 A y)) := fun y hy => built18_any _ A y (HAA.out y hy) (by omega) (by omega)
  obtain ⟨w0, hw0⟩ : ∃ w0, w0 = W.alloc (.cells #[.int .i64 A.k, .slice an A.nx.length cn, .slice aa A.ac.length ca] 26) := ⟨_, rfl⟩
  have HB0 : Hid (Below W.heap.size W w0) := by show Below _ _ _; rw [hw0]; exact below_new _ _
  have HW0 : Hid (w0 = W.alloc (.cells #[.int .i64 A.k, .slice an A.nx.length cn, .slice aa A.ac.length ca] 26)) := hw0
  clear ha hna hma hma2 hw0
  go_enter Try.func5, Try.ntmps5
  go_wp2_with fail
  rw [← HW0.out]
  refine (HBU.out _ HB0.out).mono ?_
  rintro e w1 (⟨_, rfl, hb⟩ | ⟨ob, M, N, rfl, G, h64, hE, hmo, hb⟩)
  · have HB1 : Hid (Below W.heap.size W w1) := go_on HB0.out hb
    clear hb
    go_wp2_with fail
    refine (live18_any _).mono ?_
    rintro e w2 ⟨rfl, hb⟩
    have HB2 : Hid (Below W.heap.size W w2) := go_on HB1.out hb
    clear hb
    go_wp2_with fail
    go_ret
    exact ⟨rfl, HB2.out⟩
  have HB1 : Hid (Below W.heap.size W w1) := go_on HB0.out hb
  have HM1 : Hid (MO w1 ob A M N) := hmo
  have HMon : Hid (Mon A M N) := hmo.mon
  clear hb hmo G h64 hE
  go_wp2_with fail
  refine Calls.mono (at18_any HM1.out a1 h1) ?_
  rintro e w2 ⟨⟨i, hi, rfl⟩, hb⟩
  have HB2 : Hid (Below W.heap.size W w2) := go_on HB1.out hb
  have HM2 : Hid (MO w2 ob A M N) := HM1.out.below hb
  have HI : Hid (i < M.length) := hi
  clear hi
  clear hb
  go_wp2_with fail
  refine Calls.mono (at18_any HM2.out a2 h2) ?_
  rintro e w3 ⟨⟨j, hj, rfl⟩, hb⟩
  have HB3 : Hid (Below W.heap.size W w3) := go_on HB2.out hb
  have HM3 : Hid (MO w3 ob A M N) := HM2.out.below hb
  have HJ : Hid (j < M.length) := hj
  clear hj
  clear hb
  go_wp2_with fail
  refine Calls.mono (at18_any HM3.out a3 h3) ?_
  rintro e w4 ⟨⟨k, hk, rfl⟩, hb⟩
  have HB4 : Hid (Below W.heap.size W w4) := go_on HB3.out hb
  have HM4 : Hid (MO w4 ob A M N) := HM3.out.below hb
  have HK : Hid (k < M.length) := hk
  clear hk
  clear hb
  go_wp2_with fail
  refine Calls.mono (Leq_v HM4.out i i HI.out HI.out) ?_
  rintro e w5 ⟨rfl, hb⟩
  have HB5 : Hid (Below W.heap.size W w5) := go_on HB4.out hb
  have HM5 : Hid (MO w5 ob A M N) := HM4.out.below hb
  rw [show lqV A M N i i = true from lqV_iff.2 (LqO.refl i)]
  clear hb
  go_wp2_with fail
  obtain ⟨b1, hb1⟩ : ∃ b, lqV A M N i j = b := ⟨_, rfl⟩
  obtain ⟨b2, hb2⟩ : ∃ b, lqV A M N j i = b := ⟨_, rfl⟩
  obtain ⟨b3, hb3⟩ : ∃ b, lqV A M N j k = b := ⟨_, rfl⟩
  obtain ⟨b4, hb4⟩ : ∃ b, lqV A M N i k = b := ⟨_, rfl⟩
  have HBB : Hid (lqV A M N i j = b1 ∧ lqV A M N j i = b2 ∧ lqV A M N j k = b3 ∧ lqV A M N i k = b4) := ⟨hb1, hb2, hb3, hb4⟩
  have HTR : Hid (b1 = true → b3 = true → b4 = true) := fun q1 q2 => by
    rw [← hb4]
    exact lqV_iff.2 ((lqV_iff.1 (hb1.trans q1)).trans (lqV_iff.1 (hb3.trans q2)))
  clear hb1 hb2 hb3 hb4
  refine Calls.mono (Leq_v HM5.out i j HI.out HJ.out) ?_
  rintro e w6 ⟨rfl, hb⟩
  have HB6 : Hid (Below W.heap.size W w6) := go_on HB5.out hb
  have HM6 : Hid (MO w6 ob A M N) := HM5.out.below hb
  rw [HBB.out.1]
  clear hb
  go_wp2_with fail
  refine Calls.mono (Leq_v HM6.out j i HJ.out HI.out) ?_
  rintro e w7 ⟨rfl, hb⟩
  have HB7 : Hid (Below W.heap.size W w7) := go_on HB6.out hb
  have HM7 : Hid (MO w7 ob A M N) := HM6.out.below hb
  rw [HBB.out.2.1]
  clear hb
  go_wp2_with fail
  refine Calls.mono (Leq_v HM7.out j k HJ.out HK.out) ?_
  rintro e w8 ⟨rfl, hb⟩
  have HB8 : Hid (Below W.heap.size W w8) := go_on HB7.out hb
  have HM8 : Hid (MO w8 ob A M N) := HM7.out.below hb
  rw [HBB.out.2.2.1]
  clear hb
  go_wp2_with fail
  refine Calls.mono (Leq_v HM8.out i k HI.out HK.out) ?_
  rintro e w9 ⟨rfl, hb⟩
  have HB9 : Hid (Below W.heap.size W w9) := go_on HB8.out hb
  have HM9 : Hid (MO w9 ob A M N) := HM8.out.below hb
  rw [HBB.out.2.2.2]
  clear hb
  go_wp2_with fail
  refine Calls.mono (Same_v HM9.out i j HI.out HJ.out) ?_
  rintro e w10 ⟨rfl, hb⟩
  have HB10 : Hid (Below W.heap.size W w10) := go_on HB9.out hb
  have HM10 : Hid (MO w10 ob A M N) := HM9.out.below hb
  rw [HBB.out.1, HBB.out.2.1]
  clear hb
  cases b1 with
  | false =>
    go_wp2_with (first | (go_at_call 14; refine (num18_any _ _).mono ?_; rintro e yn ⟨rfl, hyn⟩; subst yn) | (go_at_call 8; refine (live18_any _).mono ?_; rintro e wv ⟨rfl, hb⟩; have HBV : Hid (Below W.heap.size W wv) := go_on HB10.out hb; clear hb))
    go_ret
    exact ⟨rfl, HBV.out⟩
  | true =>
    have HIJ : Hid (LqO A M N i j) := lqV_iff.1 HBB.out.1
    have hb34 : b3 = true → b4 = true := HTR.out rfl
    have hx : (!(b3 && !b4)) = true := by cases b3 <;> cases b4 <;> simp_all
    have HX : Hid (b3 = true → b4 = true) := hb34
    obtain ⟨p, hp⟩ : ∃ p, Go.Proofs.Ytneiegbodnalbaa.pr A.k.toNat N k i = p := ⟨_, rfl⟩
    obtain ⟨q, hq⟩ : ∃ p, Go.Proofs.Ytneiegbodnalbaa.pr A.k.toNat N k j = p := ⟨_, rfl⟩
    obtain ⟨x, hx1⟩ : ∃ p, Go.Proofs.Ytneiegbodnalbaa.pr A.k.toNat N i k = p := ⟨_, rfl⟩
    obtain ⟨y, hy1⟩ : ∃ p, Go.Proofs.Ytneiegbodnalbaa.pr A.k.toNat N j k = p := ⟨_, rfl⟩
    have HP : Hid (Go.Proofs.Ytneiegbodnalbaa.pr A.k.toNat N k i = p ∧ Go.Proofs.Ytneiegbodnalbaa.pr A.k.toNat N k j = q ∧ Go.Proofs.Ytneiegbodnalbaa.pr A.k.toNat N i k = x ∧ Go.Proofs.Ytneiegbodnalbaa.pr A.k.toNat N j k = y) := ⟨hp, hq, hx1, hy1⟩
    have HPQ : Hid (p < M.length ∧ q < M.length ∧ x < M.length ∧ y < M.length) := ⟨by rw [← hp]; exact HMon.out.pr_lt HK.out HI.out, by rw [← hq]; exact HMon.out.pr_lt HK.out HJ.out, by rw [← hx1]; exact HMon.out.pr_lt HI.out HK.out, by rw [← hy1]; exact HMon.out.pr_lt HJ.out HK.out⟩
    have HL1 : Hid (lqV A M N p q = true) := by show _ = _; rw [← hp, ← hq]; exact lqV_iff.2 (HIJ.out.left HMon.out HI.out HJ.out HK.out)
    have HL2 : Hid (lqV A M N x y = true) := by show _ = _; rw [← hx1, ← hy1]; exact lqV_iff.2 (HIJ.out.right HMon.out HI.out HJ.out HK.out)
    obtain ⟨ai, hai⟩ : ∃ b, acc A M i = b := ⟨_, rfl⟩
    obtain ⟨aj, haj⟩ : ∃ b, acc A M j = b := ⟨_, rfl⟩
    have HAI : Hid (acc A M i = ai ∧ acc A M j = aj) := ⟨hai, haj⟩
    have HAC : Hid (ai = true → aj = true) := by rw [← hai, ← haj]; exact HIJ.out.acc HMon.out HI.out HJ.out
    clear hp hq hx1 hy1 hx hb34 hai haj
    cases b3 with
    | false =>
      go_wp2_with ((go_at_call 14; refine (num18_any _ _).mono ?_; rintro e yn ⟨rfl, hyn⟩; subst yn))
      refine Calls.mono (mproduct_ok HM10.out k i HK.out HI.out) ?_
      rintro e w11 ⟨rfl, hb⟩
      have HB11 : Hid (Below W.heap.size W w11) := go_on HB10.out hb
      have HM11 : Hid (MO w11 ob A M N) := HM10.out.below hb
      rw [HP.out.1]
      clear hb
      go_wp2_with fail
      refine Calls.mono (mproduct_ok HM11.out k j HK.out HJ.out) ?_
      rintro e w12 ⟨rfl, hb⟩
      have HB12 : Hid (Below W.heap.size W w12) := go_on HB11.out hb
      have HM12 : Hid (MO w12 ob A M N) := HM11.out.below hb
      rw [HP.out.2.1]
      clear hb
      go_wp2_with fail
      refine Calls.mono (mproduct_ok HM12.out i k HI.out HK.out) ?_
      rintro e w13 ⟨rfl, hb⟩
      have HB13 : Hid (Below W.heap.size W w13) := go_on HB12.out hb
      have HM13 : Hid (MO w13 ob A M N) := HM12.out.below hb
      rw [HP.out.2.2.1]
      clear hb
      go_wp2_with fail
      refine Calls.mono (mproduct_ok HM13.out j k HJ.out HK.out) ?_
      rintro e w14 ⟨rfl, hb⟩
      have HB14 : Hid (Below W.heap.size W w14) := go_on HB13.out hb
      have HM14 : Hid (MO w14 ob A M N) := HM13.out.below hb
      rw [HP.out.2.2.2]
      clear hb
      go_wp2_with fail
      refine Calls.mono (Leq_v HM14.out p q HPQ.out.1 HPQ.out.2.1) ?_
      rintro e w15 ⟨rfl, hb⟩
      have HB15 : Hid (Below W.heap.size W w15) := go_on HB14.out hb
      have HM15 : Hid (MO w15 ob A M N) := HM14.out.below hb
      rw [HL1.out]
      clear hb
      go_wp2_with fail
      refine Calls.mono (Leq_v HM15.out x y HPQ.out.2.2.1 HPQ.out.2.2.2) ?_
      rintro e w16 ⟨rfl, hb⟩
      have HB16 : Hid (Below W.heap.size W w16) := go_on HB15.out hb
      have HM16 : Hid (MO w16 ob A M N) := HM15.out.below hb
      rw [HL2.out]
      clear hb
      go_wp2_with fail
      refine Calls.mono (maccept_ok HM16.out i HI.out) ?_
      rintro e yv ⟨rfl, rfl⟩
      rw [HAI.out.1]
      go_wp2_with fail
      refine Calls.mono (maccept_ok HM16.out j HJ.out) ?_
      rintro e yv ⟨rfl, rfl⟩
      rw [HAI.out.2]
      cases ai with
      | false =>
        go_wp2_with (first | (go_at_call 14; refine (num18_any _ _).mono ?_; rintro e yn ⟨rfl, hyn⟩; subst yn) | (go_at_call 8; refine (live18_any _).mono ?_; rintro e wv ⟨rfl, hb⟩; have HBV : Hid (Below W.heap.size W wv) := go_on HB16.out hb; clear hb))
        go_ret
        exact ⟨rfl, HBV.out⟩
      | true =>
        obtain rfl : aj = true := HAC.out rfl
        go_wp2_with (first | (go_at_call 14; refine (num18_any _ _).mono ?_; rintro e yn ⟨rfl, hyn⟩; subst yn) | (go_at_call 8; refine (live18_any _).mono ?_; rintro e wv ⟨rfl, hb⟩; have HBV : Hid (Below W.heap.size W wv) := go_on HB16.out hb; clear hb))
        go_ret
        exact ⟨rfl, HBV.out⟩
    | true =>
      obtain rfl : b4 = true := HX.out rfl
      go_wp2_with ((go_at_call 14; refine (num18_any _ _).mono ?_; rintro e yn ⟨rfl, hyn⟩; subst yn))
      refine Calls.mono (mproduct_ok HM10.out k i HK.out HI.out) ?_
      rintro e w11 ⟨rfl, hb⟩
      have HB11 : Hid (Below W.heap.size W w11) := go_on HB10.out hb
      have HM11 : Hid (MO w11 ob A M N) := HM10.out.below hb
      rw [HP.out.1]
      clear hb
      go_wp2_with fail
      refine Calls.mono (mproduct_ok HM11.out k j HK.out HJ.out) ?_
      rintro e w12 ⟨rfl, hb⟩
      have HB12 : Hid (Below W.heap.size W w12) := go_on HB11.out hb
      have HM12 : Hid (MO w12 ob A M N) := HM11.out.below hb
      rw [HP.out.2.1]
      clear hb
      go_wp2_with fail
      refine Calls.mono (mproduct_ok HM12.out i k HI.out HK.out) ?_
      rintro e w13 ⟨rfl, hb⟩
      have HB13 : Hid (Below W.heap.size W w13) := go_on HB12.out hb
      have HM13 : Hid (MO w13 ob A M N) := HM12.out.below hb
      rw [HP.out.2.2.1]
      clear hb
      go_wp2_with fail
      refine Calls.mono (mproduct_ok HM13.out j k HJ.out HK.out) ?_
      rintro e w14 ⟨rfl, hb⟩
      have HB14 : Hid (Below W.heap.size W w14) := go_on HB13.out hb
      have HM14 : Hid (MO w14 ob A M N) := HM13.out.below hb
      rw [HP.out.2.2.2]
      clear hb
      go_wp2_with fail
      refine Calls.mono (Leq_v HM14.out p q HPQ.out.1 HPQ.out.2.1) ?_
      rintro e w15 ⟨rfl, hb⟩
      have HB15 : Hid (Below W.heap.size W w15) := go_on HB14.out hb
      have HM15 : Hid (MO w15 ob A M N) := HM14.out.below hb
      rw [HL1.out]
      clear hb
      go_wp2_with fail
      refine Calls.mono (Leq_v HM15.out x y HPQ.out.2.2.1 HPQ.out.2.2.2) ?_
      rintro e w16 ⟨rfl, hb⟩
      have HB16 : Hid (Below W.heap.size W w16) := go_on HB15.out hb
      have HM16 : Hid (MO w16 ob A M N) := HM15.out.below hb
      rw [HL2.out]
      clear hb
      go_wp2_with fail
      refine Calls.mono (maccept_ok HM16.out i HI.out) ?_
      rintro e yv ⟨rfl, rfl⟩
      rw [HAI.out.1]
      go_wp2_with fail
      refine Calls.mono (maccept_ok HM16.out j HJ.out) ?_
      rintro e yv ⟨rfl, rfl⟩
      rw [HAI.out.2]
      cases ai with
      | false =>
        go_wp2_with (first | (go_at_call 14; refine (num18_any _ _).mono ?_; rintro e yn ⟨rfl, hyn⟩; subst yn) | (go_at_call 8; refine (live18_any _).mono ?_; rintro e wv ⟨rfl, hb⟩; have HBV : Hid (Below W.heap.size W wv) := go_on HB16.out hb; clear hb))
        go_ret
        exact ⟨rfl, HBV.out⟩
      | true =>
        obtain rfl : aj = true := HAC.out rfl
        go_wp2_with (first | (go_at_call 14; refine (num18_any _ _).mono ?_; rintro e yn ⟨rfl, hyn⟩; subst yn) | (go_at_call 8; refine (live18_any _).mono ?_; rintro e wv ⟨rfl, hb⟩; have HBV : Hid (Below W.heap.size W wv) := go_on HB16.out hb; clear hb))
        go_ret
        exact ⟨rfl, HBV.out⟩


/-! ### The row's step -/
theorem own : ownKnob Try.prog.godebug = none := by kernel_rfl
set_option maxRecDepth 100000 in
theorem lifted (os : Os) (started : os.Started) (H : Type) (enc : TypeId × Value → H) :
    ReturnsInHanded {} Try.checked os 5 .any (Rows.orderKeptSpec.pre6 enc Try.prog Try.f5 Rows.orderKeptRow.domain false) (Rows.orderKeptSpec.post enc Try.prog Try.f5 false true false false) := by
  refine returnsInHanded_of_change_sized (C := Try.checked) own started (by kernel_rfl) Try.func5
    (ChangeSpec.witness6 (enc := enc) (C := Try.checked) false ⟨#[], #[.agg #[.int .i64 0, .slice none 0 0, .slice none 0 0], .int .i64 0, .int .i64 0, .int .i64 0], []⟩ 8 (by kernel_rfl) (by kernel_rfl) (by kernel_rfl) (by kernel_rfl)) ?_
  intro W base args ds gs before hval0 hW hcnd hsz0 _
  have hval : ∀ (j : Nat) t v, Try.f5.params[j]? = some t → args[j]? = some v → Value.okWide Try.prog W .any base t v := hval0
  clear hval0
  have hsz : (DataW.weightsEach Try.prog (Try.f5.params.toList ++ Rows.orderKeptSpec.plain.varTypes Try.prog) (ds ++ gs)).all (· ≤ reachBytes) = true := hsz0
  clear hsz0
  have hW' := hW
  obtain ⟨p, q, hA0, hV, rfl, hfz, hnd⟩ := hW
  have hA : DataW.TrodAll enc Try.prog W 0 (fun _ => true) true Try.f5.params.toList args.toList ds p := hA0
  rw [Try.params5] at hA hval hsz
  obtain ⟨v0, vs0, d0, ds0, p0, q0, hargs, rfl, rfl, h0, r0⟩ := trodAll_cons hA
  obtain ⟨v1, vs1, d1, ds1, p1, q1, rfl, rfl, rfl, h1, r1⟩ := trodAll_cons r0
  obtain ⟨v2, vs2, d2, ds2, p2, q2, rfl, rfl, rfl, h2, r2⟩ := trodAll_cons r1
  obtain ⟨v3, vs3, d3, ds3, p3, q3, rfl, rfl, rfl, h3, r3⟩ := trodAll_cons r2
  obtain ⟨rfl, rfl, rfl⟩ := trodAll_nil r3
  obtain rfl : args = #[v0, v1, v2, v3] := by cases args; simp_all
  obtain ⟨rfl, rfl⟩ := trodVars_none hV
  obtain ⟨a0, x0, n0, w0, dk0, dn0, da0, e0, y0, z0⟩ := open_auto (hval 0 26 v0 rfl rfl) h0
  have b0 := auto_bounds hsz (j := 0) rfl (by rw [e0]; rfl) y0 z0
  have g0 : ∀ x ∈ p0, x.block < W.heap.size := fun x hx => hW'.lt x (by simp [hx])
  obtain ⟨a1, rfl, rfl, rfl, w1⟩ := open_int Try.underlying3 (hval 1 3 v1 rfl rfl) h1
  obtain ⟨a2, rfl, rfl, rfl, w2⟩ := open_int Try.underlying3 (hval 2 3 v2 rfl rfl) h2
  obtain ⟨a3, rfl, rfl, rfl, w3⟩ := open_int Try.underlying3 (hval 3 3 v3 rfl rfl) h3
  clear hA0
  refine (walk v0 a0 a1 a2 a3 W x0 n0 b0.1 b0.2 (i64_of w1) (i64_of w2) (i64_of w3)).mono fun e W' ⟨he, bel⟩ => ?_
  subst he
  exact ⟨_, rfl, _, _, _, [], _, [], hW', trodAll_mk1 (shut_bool Try.underlying4 _), (trodAll_cons_mk (Below.trod Try.laidOut (by kernel_rfl) (of_decide_eq_true (by kernel_rfl)) h0 bel g0) (trodAll_cons_mk (shut_int Try.underlying3 w1) (trodAll_cons_mk (shut_int Try.underlying3 w2) (trodAll_cons_mk (shut_int Try.underlying3 w3) trodAll_mk0)))), rfl, bel.frame _, fun h => by cases h⟩

theorem over : Rows.orderKeptRow.holds Try.pinned (OpenSpec.ofChange Rows.orderKeptSpec) :=
  OpenClaim.holds_of_wide 5 Try.f5 rfl rfl rfl rfl rfl rfl rfl ⟨rfl, rfl, rfl, rfl, rfl⟩ rfl rfl rfl rfl rfl (by kernel_rfl) Try.func5 (by kernel_rfl)
    (of_decide_eq_true (by kernel_rfl)) (by unfold Func.isWrapper; first | (rw [if_pos (by decide +kernel)]; kernel_rfl) | (rw [if_neg (by decide +kernel)]; exact ⟨rfl, rfl⟩))
    (fun os started H enc _ => lifted os started H enc)

end Go.Proofs.Ytneiegbodnalbaa.orderKept
namespace Go.Proofs.Ytneiegbodnalbaa
/-- The given statement. -/
theorem orderKept_holds : Rows.OrderKeptSaid := orderKept.over
end Go.Proofs.Ytneiegbodnalbaa
