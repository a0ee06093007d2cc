/- Proved: eggboxlaw16.IdemPowers answers true at every automaton's data a and every int i (P16.1, P16.2): where both build a monoid, the program's Idempotent, List, Omega, Cycle and Exponent answer what the document's answer, errors and all, and the lists of two calls lie apart; where none is built both refuse it alike; and the law's own monoid has the idempotents that the law names. No condition. -/
import Derived.Test.YtafcejipoioigaaW2
import Derived.Test.YtafcejipoioigaaW3
import Derived.SizedLaws
namespace Go.Proofs.Ytafcejipoioigaa.idemPowers
open Go Go.ChangeShapes Go.WideShapes Go.ChangeAt Go.RowKit Go.Lib
open Go.ChangeMaps (open_string shut_string)
set_option linter.unusedVariables false
attribute [-instance] List.instBEq instBEqProd

theorem ip_two (K n : Nat) (N : List Nat) (i : Int) : ∃ (x : Bool) (y : Int), ipV K n N i = .tuple #[.bool x, .int .i64 y] := by
  unfold ipV
  split
  · exact ⟨_, _, rfl⟩
  · exact ⟨_, _, rfl⟩

set_option maxHeartbeats 8000000 in
set_option maxRecDepth 100000 in
theorem walk (v : Value) (A : Aut) (i : Int) (w : World) (h : AR w v A) (hn : NilOk v) (hm : (A.nx.length + 2) * 8 ≤ 140737488355328) (hm2 : A.ac.length ≤ 140737488355328) :
    Calls Try.prog 4 #[v, .int .i64 i] w fun e w' => e = .returned (.bool true) ∧ Below w.heap.size w w' := by
  obtain ⟨an, cn, aa, ca, e, h1, h2⟩ := h.is
  have HBO : Hid (∀ w', Below w.heap.size w w' → Calls Try.prog 11 #[v] w' (BoQ A w')) := fun w' hb => both14_any v A w' (h.stay hb) hn hm hm2
  clear h h1 h2 hn
  subst e
  go_enter Try.func4, Try.ntmps4
  go_wp2_with fail
  refine (HBO.out _ (below_new _ _)).mono ?_
  rintro e w1 (⟨_, rfl, hb⟩ | ⟨ob, rb, M, N, rfl, G, h64, hE, hmo, hrf, hb⟩)
  · have HB1 : Hid (Below w.heap.size w w1) := go_on (below_new _ _) hb
    clear hb
    go_wp2_with fail
    refine (live16_any w1).mono ?_
    rintro e w2 ⟨rfl, hb⟩
    have HB2 : Hid (Below w.heap.size w w2) := go_on HB1.out hb
    clear hb
    go_wp2_with fail
    go_ret
    exact ⟨rfl, HB2.out⟩
  · have HB1 : Hid (Below w.heap.size w w1) := go_on (below_new _ _) hb
    have HMO : Hid (∀ y, Below w1.heap.size w1 y → MO y ob A M N) := fun y hy => hmo.below hy
    have HRF : Hid (∀ y, Below w1.heap.size w1 y → RF y rb A M N) := fun y hy => hrf.below hy
    have HMon : Hid (Mon A M N) := hmo.mon
    have HLL : Hid ((thL M.length (idE A.k.toNat N)).length ≤ 512) := by have h1 := thL_len M.length (idE A.k.toNat N); have h2 := hmo.mon.most; show _ ≤ _; omega
    obtain ⟨x1, z1, hip⟩ := ip_two A.k.toNat M.length N i
    obtain ⟨LL, hLL⟩ : ∃ LL, thL M.length (idE A.k.toNat N) = LL := ⟨_, rfl⟩
    rw [hLL] at HLL
    have HLE : Hid (thL M.length (idE A.k.toNat N) = LL) := hLL
    clear hb hmo hrf G h64 hE hLL
    go_wp2_with fail
    refine (iIdem_any (HMO.out _ (Below.refl _ _)) i).mono ?_
    rintro e w2 ⟨rfl, hb⟩
    have HY2 : Hid (Below w1.heap.size w1 w2) := hb
    rw [hip]
    clear hb
    go_wp2_with fail
    refine (ridem_any (HRF.out _ HY2.out) i).mono ?_
    rintro e w3 ⟨rfl, hb⟩
    have HY3 : Hid (Below w1.heap.size w1 w3) := go_on HY2.out hb
    rw [hip]
    clear hb
    go_wp2_with fail
    refine (iList_any (HMO.out _ HY3.out)).mono ?_
    rintro e w4 ⟨v4, rfl, ho, hb⟩
    rw [HLE.out] at ho
    obtain ⟨a4, c4, hs⟩ := own_shape ho
    subst hs
    have HY4 : Hid (Below w1.heap.size w1 w4) := go_on HY3.out hb
    have HO4 : Hid (OwnN w4 w3.heap.size (.slice a4 LL.length c4) LL) := ho
    clear hb ho
    go_wp2_with fail
    refine (iList_any (HMO.out _ HY4.out)).mono ?_
    rintro e w5 ⟨v5, rfl, ho, hb⟩
    rw [HLE.out] at ho
    obtain ⟨a5, c5, hs⟩ := own_shape ho
    subst hs
    have HY5 : Hid (Below w1.heap.size w1 w5) := go_on HY4.out hb
    have HD45 : Hid (Below w4.heap.size w4 w5) := hb
    have HO5 : Hid (OwnN w5 w4.heap.size (.slice a5 LL.length c5) LL) := ho
    clear hb ho
    go_wp2_with fail
    refine (omega_all (HMO.out _ HY5.out) i).mono ?_
    rintro e w6 ⟨⟨ox, oe, rfl, hq⟩, hb⟩
    have HQ6 : Hid (OmU A.k.toNat M.length N i ox oe) := hq
    have HY6 : Hid (Below w1.heap.size w1 w6) := go_on HY5.out hb
    have HZ6 : Hid (Below w5.heap.size w5 w6) := hb
    clear hb hq
    go_wp2_with fail
    refine (romega_all (HRF.out _ HY6.out) i).mono ?_
    rintro e w7 ⟨⟨ox', oe', rfl, hq⟩, hb⟩
    obtain ⟨rfl, rfl⟩ := OmU.uniq HMon.out hq HQ6.out
    have HY7 : Hid (Below w1.heap.size w1 w7) := go_on HY6.out hb
    have HZ7 : Hid (Below w5.heap.size w5 w7) := go_on HZ6.out hb
    clear hb hq
    go_wp2_with fail
    refine (cycle_all (HMO.out _ HY7.out) i).mono ?_
    rintro e w8 ⟨⟨cx, cy, ce, rfl, hq⟩, hb⟩
    have HQ8 : Hid (CyU A.k.toNat M.length N i cx cy ce) := hq
    have HY8 : Hid (Below w1.heap.size w1 w8) := go_on HY7.out hb
    have HZ8 : Hid (Below w5.heap.size w5 w8) := go_on HZ7.out hb
    clear hb hq
    go_wp2_with fail
    refine (rcycle_all (HRF.out _ HY8.out) i).mono ?_
    rintro e w9 ⟨⟨cx', cy', ce', rfl, hq⟩, hb⟩
    obtain ⟨rfl, rfl, rfl⟩ := CyU.uniq hq HQ8.out
    have HY9 : Hid (Below w1.heap.size w1 w9) := go_on HY8.out hb
    have HZ9 : Hid (Below w5.heap.size w5 w9) := go_on HZ8.out hb
    clear hb hq
    go_wp2_with fail
    refine (iExponent_any (HMO.out _ HY9.out)).mono ?_
    rintro e w10 ⟨⟨es, el, hq, rfl⟩, hb⟩
    have HQ10 : Hid (ExI A.k.toNat N M.length es el) := hq
    obtain ⟨ev, hev⟩ : ∃ ev, exV es el = ev := ⟨_, rfl⟩
    have HEV : Hid (exV es el = ev) := hev
    rw [hev]
    have HY10 : Hid (Below w1.heap.size w1 w10) := go_on HY9.out hb
    have HZ10 : Hid (Below w5.heap.size w5 w10) := go_on HZ9.out hb
    clear hb hq hev
    go_wp2_with fail
    refine (rlist_any (HRF.out _ HY10.out)).mono ?_
    rintro e w11 ⟨v11, rfl, ho, hb⟩
    rw [HLE.out] at ho
    obtain ⟨a11, c11, hs⟩ := own_shape ho
    subst hs
    have HY11 : Hid (Below w1.heap.size w1 w11) := go_on HY10.out hb
    have HZ11 : Hid (Below w5.heap.size w5 w11) := go_on HZ10.out hb
    have HO11 : Hid (OwnN w11 w10.heap.size (.slice a11 LL.length c11) LL) := ho
    clear hb ho
    have HS1 : Hid (∀ y, Below w11.heap.size w11 y → Calls Try.prog 23 #[.slice a4 LL.length c4, .slice a11 LL.length c11] y fun e w' => e = .returned (.bool true) ∧ Below y.heap.size y w') := fun y hy => isameN (own_below HO4.out (go_on (go_on HD45.out HZ11.out) hy)) (own_below HO11.out hy) HLL.out
    have HS2 : Hid (∀ y, Below w11.heap.size w11 y → Calls Try.prog 23 #[.slice a5 LL.length c5, .slice a11 LL.length c11] y fun e w' => e = .returned (.bool true) ∧ Below y.heap.size y w') := fun y hy => isameN (own_below HO5.out (go_on HZ11.out hy)) (own_below HO11.out hy) HLL.out
    have HAP : Hid (∀ y, Below w11.heap.size w11 y → Calls Try.prog 24 #[.slice (some ⟨y.heap.size, 0, none⟩) 2 2] (y.alloc (.cells #[.slice a4 LL.length c4, .slice a5 LL.length c5] 23)) fun e w' => e = .returned (.bool true) ∧ Below w.heap.size (y.alloc (.cells #[.slice a4 LL.length c4, .slice a5 LL.length c5] 23)) w') := fun y hy => apartN (own_below HO4.out (go_on (go_on HD45.out HZ11.out) hy)) (own_below HO5.out (go_on HZ11.out hy)) (fun b hb hb2 => by
      have h1 := (HO4.out.lt b hb).2
      have h2 := (HO5.out.lt b hb2).1
      omega) (by have := HB1.out.size; have := HY3.out.size; omega) (by have := HB1.out.size; have := HY4.out.size; omega) (by have := HB1.out.size; have := HY11.out.size; have := hy.size; omega) HLL.out HLL.out
    have HNM : Hid (∀ y (n : Int), Calls Try.prog 21 #[.int .i64 n] y fun e w' => e = .returned (.int .i64 n) ∧ y = w') := fun y n => num16_any n y
    have HEX : Hid (Calls Try.prog 22 #[.pointer (some ⟨rb, 0, none⟩)] w11 fun e w' => e = .returned (.int .i64 (ev : Nat)) ∧ Below w11.heap.size w11 w') := by
      refine (rexponent_any (HRF.out _ HY11.out)).mono ?_
      rintro e w' ⟨⟨s, l, hq, rfl⟩, hb⟩
      obtain ⟨rfl, rfl⟩ := hq.uniq HQ10.out
      exact ⟨by rw [HEV.out], hb⟩
    clear hip
    go_wp2_with (first
      | (go_at_call 21; refine (HNM.out _ _).mono ?_; rintro e yn ⟨rfl, hyn⟩; subst hyn)
      | (go_at_call 22; refine HEX.out.mono ?_; rintro e w12 ⟨rfl, hb⟩; have HT12 : Hid (Below w11.heap.size w11 w12) := hb; clear hb)
      | (go_at_call_of 23 ([.slice a4 LL.length c4, .slice a11 LL.length c11] : List Value); refine (HS1.out _ HT12.out).mono ?_; rintro e w13 ⟨rfl, hb⟩; have HT13 : Hid (Below w11.heap.size w11 w13) := go_on HT12.out hb; clear hb)
      | (go_at_call_of 23 ([.slice a5 LL.length c5, .slice a11 LL.length c11] : List Value); refine (HS2.out _ HT13.out).mono ?_; rintro e w14 ⟨rfl, hb⟩; have HT14 : Hid (Below w11.heap.size w11 w14) := go_on HT13.out hb; clear hb)
      | (go_at_call 24; refine (HAP.out _ HT14.out).mono ?_; rintro e w15 ⟨rfl, hb⟩; have HT15 : Hid (Below w.heap.size w w15) := (go_on (go_on HB1.out (go_on HY11.out HT14.out)) (below_new _ _)).trans hb; clear hb)
      | (go_at_call 10; refine (live16_any _).mono ?_; rintro e w16 ⟨rfl, hb⟩; have HL : Hid (Below w.heap.size w w16) := go_on HT15.out hb; clear hb))
    go_ret
    exact ⟨rfl, HL.out⟩

/-! ### The row's step -/
theorem own : ownKnob Try.prog.godebug = none := by kernel_rfl
set_option maxRecDepth 100000 in
theorem lifted (os : Os) (started : os.Started) (H : Type) (enc : TypeId × Value → H) :
    ReturnsInHanded {} Try.checked os 4 .any (Rows.idemPowersSpec.pre6 enc Try.prog Try.f4 Rows.idemPowersRow.domain false) (Rows.idemPowersSpec.post enc Try.prog Try.f4 false true false false) := by
  refine returnsInHanded_of_change_sized (C := Try.checked) own started (by kernel_rfl) Try.func4
    (ChangeSpec.witness6 (enc := enc) (C := Try.checked) false ⟨#[], #[.agg #[.int .i64 0, .slice none 0 0, .slice none 0 0], .int .i64 0], []⟩ 8 (by kernel_rfl) (by kernel_rfl) (by kernel_rfl) (by kernel_rfl)) ?_
  intro W base args ds gs before hval0 hW hcnd hsz0 _
  have hval : ∀ (j : Nat) t v, Try.f4.params[j]? = some t → args[j]? = some v → Value.okWide Try.prog W .any base t v := hval0
  clear hval0
  have hsz : (DataW.weightsEach Try.prog (Try.f4.params.toList ++ Rows.idemPowersSpec.plain.varTypes Try.prog) (ds ++ gs)).all (· ≤ reachBytes) = true := hsz0
  clear hsz0
  have hW' := hW
  obtain ⟨p, q, hA0, hV, rfl, hfz, hnd⟩ := hW
  have hA : DataW.TrodAll enc Try.prog W 0 (fun _ => true) true Try.f4.params.toList args.toList ds p := hA0
  rw [Try.params4] at hA hval hsz
  obtain ⟨v0, vs0, d0, ds0, p0, q0, hargs, rfl, rfl, h0, r0⟩ := trodAll_cons hA
  obtain ⟨v1, vs1, d1, ds1, p1, q1, rfl, rfl, rfl, h1, r1⟩ := trodAll_cons r0
  obtain ⟨rfl, rfl, rfl⟩ := trodAll_nil r1
  obtain rfl : args = #[v0, v1] := by cases args; simp_all
  obtain ⟨rfl, rfl⟩ := trodVars_none hV
  obtain ⟨a0, x0, n0, w0, dk0, dn0, da0, e0, y0, z0⟩ := open_auto (hval 0 26 v0 rfl rfl) h0
  have b0 := auto_bounds hsz (j := 0) rfl (by rw [e0]; rfl) y0 z0
  have g0 : ∀ x ∈ p0, x.block < W.heap.size := fun x hx => hW'.lt x (by simp [hx])
  obtain ⟨a1, rfl, rfl, rfl, w1⟩ := open_int Try.underlying3 (hval 1 3 v1 rfl rfl) h1
  clear hA0
  refine (walk v0 a0 a1 W x0 n0 b0.1 b0.2).mono fun e W' ⟨he, bel⟩ => ?_
  subst he
  exact ⟨_, rfl, _, _, _, [], _, [], hW', trodAll_mk1 (shut_bool Try.underlying4 _), (trodAll_cons_mk (Below.trod Try.laidOut (by kernel_rfl) (of_decide_eq_true (by kernel_rfl)) h0 bel g0) (trodAll_cons_mk (shut_int Try.underlying3 w1) trodAll_mk0)), rfl, bel.frame _, fun h => by cases h⟩

theorem over : Rows.idemPowersRow.holds Try.pinned (OpenSpec.ofChange Rows.idemPowersSpec) :=
  OpenClaim.holds_of_wide 4 Try.f4 rfl rfl rfl rfl rfl rfl rfl ⟨rfl, rfl, rfl, rfl, rfl⟩ rfl rfl rfl rfl rfl (by kernel_rfl) Try.func4 (by kernel_rfl)
    (of_decide_eq_true (by kernel_rfl)) (by unfold Func.isWrapper; first | (rw [if_pos (by decide +kernel)]; kernel_rfl) | (rw [if_neg (by decide +kernel)]; exact ⟨rfl, rfl⟩))
    (fun os started H enc _ => lifted os started H enc)

end Go.Proofs.Ytafcejipoioigaa.idemPowers
namespace Go.Proofs.Ytafcejipoioigaa
/-- The given statement. -/
theorem idemPowers_holds : Rows.IdemPowersSaid := idemPowers.over
end Go.Proofs.Ytafcejipoioigaa
