/- Proved: eggboxlaw16.IdemPeriods answers true at every automaton's data a and all numbers i, j (P16.8): where Build makes a monoid, the period of a product of two elements is that of the product the other way round; and the law's own monoid is as the law names it. No condition. -/
import Derived.Test.YtflclnkaccbfcabW3
import Derived.Test.YtflclnkaccbfcabW4
import Derived.Test.YtflclnkaccbfcabE26
import Derived.ProofKit
import Derived.OpenShut
import Derived.ShutString
import Derived.ChangeOld
import Derived.SizedLaws
namespace Go.Proofs.Ytflclnkaccbfcab.idemPeriods
open Go Go.ChangeShapes Go.WideShapes Go.ChangeAt Go.RowKit Go.Lib
open Go.ChangeMaps (open_string shut_string)
set_option linter.unusedVariables false
attribute [-instance] List.instBEq instBEqProd

set_option maxHeartbeats 8000000 in
set_option maxRecDepth 100000 in
theorem walk (va : Value) (A : Aut) (a1 : Int) (a2 : Int) (W : World) (ha : AR W va A) (hna : NilOk va) (hma : (A.nx.length + 2) * 8 ≤ 140737488355328) (hma2 : A.ac.length ≤ 140737488355328) (h1 : I64 a1) (h2 : I64 a2) :
    Calls Try.prog 3 #[va, .int .i64 a1, .int .i64 a2] W fun e w' => e = .returned (.bool true) ∧ Below W.heap.size W w' := by
  obtain ⟨an, cn, aa, ca, ea, _, _⟩ := ha.is
  have HAA : Hid (∀ y, Below W.heap.size W y → AR y va A) := fun y hy => ha.stay hy
  subst ea
  have HBD : Hid (∀ y, Below W.heap.size W y → Calls Try.prog 4 #[.agg #[.int .i64 A.k, .slice an A.nx.length cn, .slice aa A.ac.length ca]] y (BdA A y)) := fun y hy => build_all _ A y (HAA.out y hy) (by omega) (by omega)
  obtain ⟨w0, hw0⟩ : ∃ w0, w0 = W.alloc (.cells #[.int .i64 A.k, .slice an A.nx.length cn, .slice aa A.ac.length ca] 25) := ⟨_, rfl⟩
  have HB0 : Hid (Below W.heap.size W w0) := by show Below _ _ _; rw [hw0]; exact below_new _ _
  have HW0 : Hid (w0 = W.alloc (.cells #[.int .i64 A.k, .slice an A.nx.length cn, .slice aa A.ac.length ca] 25)) := hw0
  clear ha hna hma hma2 hw0
  go_enter Try.func3, Try.ntmps3
  go_wp2_with fail
  rw [← HW0.out]
  refine (HBD.out _ HB0.out).mono ?_
  rintro e w1 (⟨hne, rfl, hb⟩ | ⟨ob, M, N, rfl, G, h64, hE, hmo, hb⟩)
  · have HB1 : Hid (Below W.heap.size W w1) := go_on HB0.out hb
    obtain ⟨E, hEE⟩ : ∃ E, bdE A = E := ⟨_, rfl⟩
    rw [hEE] at hne ⊢
    have hq0 : (E != 0) = true := by rw [bne_iff_ne]; exact hne
    have hqd : decide (E = 0) = false := decide_eq_false hne
    clear hb hEE
    go_wp2_with (first | (go_at_call 5; refine (num16_any _ _).mono ?_; rintro e yn ⟨rfl, hyn⟩; subst yn) | (go_at_call 7; refine (live16_any _).mono ?_; rintro e w2 ⟨rfl, hb2⟩; have HB2 : Hid (Below W.heap.size W w2) := go_on HB1.out hb2; clear hb2))
    go_ret
    exact ⟨rfl, HB2.out⟩
  · have HB1 : Hid (Below W.heap.size W w1) := go_on HB0.out hb
    have HM1 : Hid (MO w1 ob A M N) := hmo
    have HMon : Hid (Mon A M N) := mon_of G h64 hE
    have hnl := HMon.out.pos
    have hn5 := HMon.out.most
    have hn1 : ¬ (M.length : Int) < 1 := by omega
    have hn1d : decide ((M.length : Int) < 1) = false := decide_eq_false hn1
    have heq := eq_Mnil ⟨ob, 0, none⟩
    clear hb hmo G h64 hE
    go_wp2_with (first | (go_at_call 5; refine (num16_any _ _).mono ?_; rintro e yn ⟨rfl, hyn⟩; subst yn) | (go_at_call 6; refine (mlen_any HM1.out).mono ?_; rintro e yn ⟨rfl, hyn⟩; subst yn))
    clear heq hn1 hn1d
    refine (at16_any HM1.out a1 h1).mono ?_
    rintro e w2 ⟨⟨i, hi, rfl⟩, hb⟩
    have HB2 : Hid (Below W.heap.size W w2) := go_on HB1.out hb
    have HM2 : Hid (MO w2 ob A M N) := HM1.out.below hb
    clear hb
    go_wp2_with fail
    refine (at16_any HM2.out a2 h2).mono ?_
    rintro e w3 ⟨⟨j, hj, rfl⟩, hb⟩
    have HB3 : Hid (Below W.heap.size W w3) := go_on HB2.out hb
    have HM3 : Hid (MO w3 ob A M N) := HM2.out.below hb
    clear hb
    go_wp2_with fail
    refine (times16_any HM3.out i j hi hj).mono ?_
    rintro e w4 ⟨rfl, hb⟩
    have HB4 : Hid (Below W.heap.size W w4) := go_on HB3.out hb
    have HM4 : Hid (MO w4 ob A M N) := HM3.out.below hb
    have hij := HMon.out.pr_lt hi hj
    have hji := HMon.out.pr_lt hj hi
    obtain ⟨x, hx⟩ : ∃ x, pr A.k.toNat N i j = x := ⟨_, rfl⟩
    obtain ⟨y, hy⟩ : ∃ y, pr A.k.toNat N j i = y := ⟨_, rfl⟩
    have HX : Hid (pr A.k.toNat N i j = x) := hx
    have HY : Hid (pr A.k.toNat N j i = y) := hy
    rw [hx] at hij ⊢
    rw [hy] at hji
    clear hx hy
    clear hb
    go_wp2_with fail
    refine (iCycle_any HM4.out x hij).mono ?_
    rintro e w5 ⟨⟨t, r, rfl, hR⟩, hb⟩
    have HB5 : Hid (Below W.heap.size W w5) := go_on HB4.out hb
    have HM5 : Hid (MO w5 ob A M N) := HM4.out.below hb
    have HR : Hid (TR (rm A.k.toNat N x) 0 t r) := hR
    clear hR
    clear hb
    go_wp2_with fail
    refine (times16_any HM5.out j i hj hi).mono ?_
    rintro e w6 ⟨rfl, hb⟩
    have HB6 : Hid (Below W.heap.size W w6) := go_on HB5.out hb
    have HM6 : Hid (MO w6 ob A M N) := HM5.out.below hb
    rw [HY.out]
    clear hb
    go_wp2_with fail
    refine (iCycle_any HM6.out y hji).mono ?_
    rintro e w7 ⟨⟨t2, r2, rfl, hR⟩, hb⟩
    have HB7 : Hid (Below W.heap.size W w7) := go_on HB6.out hb
    have HM7 : Hid (MO w7 ob A M N) := HM6.out.below hb
    have hrr : r = r2 := by
      have R1 := HR.out
      have R2 := hR
      rw [← HX.out] at R1
      rw [← HY.out] at R2
      exact HMon.out.per_same hi hj R1 R2
    clear hR
    subst hrr
    clear hb
    go_wp2_with (first | (go_at_call 5; refine (num16_any _ _).mono ?_; rintro e yn ⟨rfl, hyn⟩; subst yn) | (go_at_call 7; refine (live16_any _).mono ?_; rintro e v3 ⟨rfl, hb⟩; have VB3 : Hid (Below W.heap.size W v3) := go_on HB7.out hb; clear hb))
    go_ret
    exact ⟨rfl, VB3.out⟩

/-! ### The row's step -/
theorem own : ownKnob Try.prog.godebug = none := by kernel_rfl
set_option maxRecDepth 100000 in
theorem lifted (os : Os) (started : os.Started) (H : Type) (enc : TypeId × Value → H) :
    ReturnsInHanded {} Try.checked os 3 .any (Rows.idemPeriodsSpec.pre6 enc Try.prog Try.f3 Rows.idemPeriodsRow.domain false) (Rows.idemPeriodsSpec.post enc Try.prog Try.f3 false true false false) := by
  refine returnsInHanded_of_change_sized (C := Try.checked) own started (by kernel_rfl) Try.func3
    (ChangeSpec.witness6 (enc := enc) (C := Try.checked) false ⟨#[], #[.agg #[.int .i64 0, .slice none 0 0, .slice none 0 0], .int .i64 0, .int .i64 0], []⟩ 8 (by kernel_rfl) (by kernel_rfl) (by kernel_rfl) (by kernel_rfl)) ?_
  intro W base args ds gs before hval0 hW hcnd hsz0 _
  have hval : ∀ (j : Nat) t v, Try.f3.params[j]? = some t → args[j]? = some v → Value.okWide Try.prog W .any base t v := hval0
  clear hval0
  have hsz : (DataW.weightsEach Try.prog (Try.f3.params.toList ++ Rows.idemPeriodsSpec.plain.varTypes Try.prog) (ds ++ gs)).all (· ≤ reachBytes) = true := hsz0
  clear hsz0
  have hW' := hW
  obtain ⟨p, q, hA0, hV, rfl, hfz, hnd⟩ := hW
  have hA : DataW.TrodAll enc Try.prog W 0 (fun _ => true) true Try.f3.params.toList args.toList ds p := hA0
  rw [Try.params3] at hA hval hsz
  obtain ⟨v0, vs0, d0, ds0, p0, q0, hargs, rfl, rfl, h0, r0⟩ := trodAll_cons hA
  obtain ⟨v1, vs1, d1, ds1, p1, q1, rfl, rfl, rfl, h1, r1⟩ := trodAll_cons r0
  obtain ⟨v2, vs2, d2, ds2, p2, q2, rfl, rfl, rfl, h2, r2⟩ := trodAll_cons r1
  obtain ⟨rfl, rfl, rfl⟩ := trodAll_nil r2
  obtain rfl : args = #[v0, v1, v2] := by cases args; simp_all
  obtain ⟨rfl, rfl⟩ := trodVars_none hV
  obtain ⟨a0, x0, n0, w0, dk0, dn0, da0, e0, y0, z0⟩ := open_auto (hval 0 25 v0 rfl rfl) h0
  have b0 := auto_bounds hsz (j := 0) rfl (by rw [e0]; rfl) y0 z0
  have g0 : ∀ x ∈ p0, x.block < W.heap.size := fun x hx => hW'.lt x (by simp [hx])
  obtain ⟨a1, rfl, rfl, rfl, w1⟩ := open_int Try.underlying3 (hval 1 3 v1 rfl rfl) h1
  obtain ⟨a2, rfl, rfl, rfl, w2⟩ := open_int Try.underlying3 (hval 2 3 v2 rfl rfl) h2
  clear hA0
  refine (walk v0 a0 a1 a2 W x0 n0 b0.1 b0.2 (i64_of w1) (i64_of w2)).mono fun e W' ⟨he, bel⟩ => ?_
  subst he
  exact ⟨_, rfl, _, _, _, [], _, [], hW', trodAll_mk1 (shut_bool Try.underlying4 _), (trodAll_cons_mk (Below.trod Try.laidOut (by kernel_rfl) (of_decide_eq_true (by kernel_rfl)) h0 bel g0) (trodAll_cons_mk (shut_int Try.underlying3 w1) (trodAll_cons_mk (shut_int Try.underlying3 w2) trodAll_mk0))), rfl, bel.frame _, fun h => by cases h⟩

theorem over : Rows.idemPeriodsRow.holds Try.pinned (OpenSpec.ofChange Rows.idemPeriodsSpec) :=
  OpenClaim.holds_of_wide 3 Try.f3 rfl rfl rfl rfl rfl rfl rfl ⟨rfl, rfl, rfl, rfl, rfl⟩ rfl rfl rfl rfl rfl (by kernel_rfl) Try.func3 (by kernel_rfl)
    (of_decide_eq_true (by kernel_rfl)) (by unfold Func.isWrapper; first | (rw [if_pos (by decide +kernel)]; kernel_rfl) | (rw [if_neg (by decide +kernel)]; exact ⟨rfl, rfl⟩))
    (fun os started H enc _ => lifted os started H enc)

end Go.Proofs.Ytflclnkaccbfcab.idemPeriods
namespace Go.Proofs.Ytflclnkaccbfcab
/-- The given statement. -/
theorem idemPeriods_holds : Rows.IdemPeriodsSaid := idemPeriods.over
end Go.Proofs.Ytflclnkaccbfcab
