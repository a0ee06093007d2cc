/- Proved: eggboxlaw16.IdemInverses answers true at every automaton's data a and all ints i and j (P16.3, P16.4): where both build a monoid, the program's Regular, Inverses, Below and Between answer what the document's answer, errors and all, and the two lists lie apart; where none is built both refuse it alike; and the law's own monoid has the idempotents that the law names. No condition. -/
import Derived.Test.YtafcejipoioigaaW2
import Derived.Test.YtafcejipoioigaaW3
import Derived.SizedLaws
namespace Go.Proofs.Ytafcejipoioigaa.idemInverses
open Go Go.ChangeShapes Go.WideShapes Go.ChangeAt Go.RowKit Go.Lib
open Go.ChangeMaps (open_string shut_string)
set_option linter.unusedVariables false
attribute [-instance] List.instBEq instBEqProd

theorem rg_two (K n : Nat) (N : List Nat) (i : Int) : ∃ (x : Bool) (y : Int), rgV K n N i = .tuple #[.bool x, .int .i64 y] := by
  unfold rgV
  split
  · exact ⟨_, _, rfl⟩
  · exact ⟨_, _, rfl⟩

theorem bl_two (K n : Nat) (N : List Nat) (i j : Int) : ∃ (x : Bool) (y : Int), blV K n N i j = .tuple #[.bool x, .int .i64 y] := by
  unfold blV
  split
  · exact ⟨_, _, rfl⟩
  · exact ⟨_, _, rfl⟩

theorem iv_len (K n : Nat) (N : List Nat) (i : Int) : (ivL K n N i).length ≤ n := by
  unfold ivL
  split
  · exact thL_len _ _
  · simp

theorem bw_len (K n : Nat) (N : List Nat) (i : Int) : (bwL K n N i).length ≤ n := by
  unfold bwL
  split
  · exact thL_len _ _
  · simp

set_option maxHeartbeats 8000000 in
set_option maxRecDepth 100000 in
theorem walk (v : Value) (A : Aut) (i j : Int) (w : World) (h : AR w v A) (hn : NilOk v) (hm : (A.nx.length + 2) * 8 ≤ 140737488355328) (hm2 : A.ac.length ≤ 140737488355328) :
    Calls Try.prog 5 #[v, .int .i64 i, .int .i64 j] w fun e w' => e = .returned (.bool true) ∧ Below w.heap.size w w' := by
  obtain ⟨an, cn, aa, ca, e, h1, h2⟩ := h.is
  have HBO : Hid (∀ w', Below w.heap.size w w' → Calls Try.prog 11 #[v] w' (BoQ A w')) := fun w' hb => both14_any v A w' (h.stay hb) hn hm hm2
  clear h h1 h2 hn
  subst e
  go_enter Try.func5, Try.ntmps5
  go_wp2_with fail
  refine (HBO.out _ (below_new _ _)).mono ?_
  rintro e w1 (⟨_, rfl, hb⟩ | ⟨ob, rb, M, N, rfl, G, h64, hE, hmo, hrf, hb⟩)
  · have HB1 : Hid (Below w.heap.size w w1) := go_on (below_new _ _) hb
    clear hb
    go_wp2_with fail
    refine (live16_any w1).mono ?_
    rintro e w2 ⟨rfl, hb⟩
    have HB2 : Hid (Below w.heap.size w w2) := go_on HB1.out hb
    clear hb
    go_wp2_with fail
    go_ret
    exact ⟨rfl, HB2.out⟩
  · have HB1 : Hid (Below w.heap.size w w1) := go_on (below_new _ _) hb
    have HMO : Hid (∀ y, Below w1.heap.size w1 y → MO y ob A M N) := fun y hy => hmo.below hy
    have HRF : Hid (∀ y, Below w1.heap.size w1 y → RF y rb A M N) := fun y hy => hrf.below hy
    have HMon : Hid (Mon A M N) := hmo.mon
    obtain ⟨x1, z1, hrg⟩ := rg_two A.k.toNat M.length N i
    obtain ⟨x2, z2, hbl⟩ := bl_two A.k.toNat M.length N i j
    obtain ⟨L1, hL1⟩ : ∃ L1, ivL A.k.toNat M.length N i = L1 := ⟨_, rfl⟩
    obtain ⟨L2, hL2⟩ : ∃ L2, bwL A.k.toNat M.length N i = L2 := ⟨_, rfl⟩
    obtain ⟨e1, he1⟩ : ∃ e1, ivX M.length i = e1 := ⟨_, rfl⟩
    obtain ⟨e2, he2⟩ : ∃ e2, icV A.k.toNat M.length N [i] = e2 := ⟨_, rfl⟩
    have HL1 : Hid (L1.length ≤ 512) := by have h1 := iv_len A.k.toNat M.length N i; have h2 := hmo.mon.most; rw [hL1] at h1; show _ ≤ _; omega
    have HL2 : Hid (L2.length ≤ 512) := by have h1 := bw_len A.k.toNat M.length N i; have h2 := hmo.mon.most; rw [hL2] at h1; show _ ≤ _; omega
    have HN1 : Hid (ivL A.k.toNat M.length N i = L1 ∧ ivX M.length i = e1) := ⟨hL1, he1⟩
    have HN2 : Hid (bwL A.k.toNat M.length N i = L2 ∧ icV A.k.toNat M.length N [i] = e2) := ⟨hL2, he2⟩
    clear hb hmo hrf G h64 hE hL1 hL2 he1 he2
    go_wp2_with fail
    refine (iRegular_all (HMO.out _ (Below.refl _ _)) i).mono ?_
    rintro e w2 ⟨rfl, hb⟩
    have HY2 : Hid (Below w1.heap.size w1 w2) := hb
    rw [hrg]
    clear hb
    go_wp2_with fail
    refine (rregular_all (HRF.out _ HY2.out) i).mono ?_
    rintro e w3 ⟨rfl, hb⟩
    have HY3 : Hid (Below w1.heap.size w1 w3) := go_on HY2.out hb
    rw [hrg]
    clear hb
    go_wp2_with fail
    refine (iInverses_all (HMO.out _ HY3.out) i).mono ?_
    rintro e w4 ⟨v4, rfl, ho, hb⟩
    rw [HN1.out.1] at ho
    rw [HN1.out.2]
    obtain ⟨a4, c4, hs⟩ := own_shape ho
    subst hs
    have HY4 : Hid (Below w1.heap.size w1 w4) := go_on HY3.out hb
    have HO4 : Hid (OwnN w4 w3.heap.size (.slice a4 L1.length c4) L1) := ho
    have HD4 : Hid (Below w3.heap.size w3 w4) := hb
    clear hb ho
    go_wp2_with fail
    refine (rinverses_all (HRF.out _ HY4.out) i).mono ?_
    rintro e w5 ⟨v5, rfl, ho, hb⟩
    rw [HN1.out.1] at ho
    rw [HN1.out.2]
    obtain ⟨a5, c5, hs⟩ := own_shape ho
    subst hs
    have HY5 : Hid (Below w1.heap.size w1 w5) := go_on HY4.out hb
    have HO5 : Hid (OwnN w5 w4.heap.size (.slice a5 L1.length c5) L1) := ho
    have HD5 : Hid (Below w4.heap.size w4 w5) := hb
    clear hb ho
    go_wp2_with fail
    refine (iBelow_all (HMO.out _ HY5.out) i j).mono ?_
    rintro e w6 ⟨rfl, hb⟩
    have HY6 : Hid (Below w1.heap.size w1 w6) := go_on HY5.out hb
    have HD6 : Hid (Below w5.heap.size w5 w6) := hb
    rw [hbl]
    clear hb
    go_wp2_with fail
    refine (rbelow_all (HRF.out _ HY6.out) i j).mono ?_
    rintro e w7 ⟨rfl, hb⟩
    have HY7 : Hid (Below w1.heap.size w1 w7) := go_on HY6.out hb
    have HD7 : Hid (Below w6.heap.size w6 w7) := hb
    rw [hbl]
    clear hb
    go_wp2_with fail
    refine (iBetween_all (HMO.out _ HY7.out) i).mono ?_
    rintro e w8 ⟨v8, rfl, ho, hb⟩
    rw [HN2.out.1] at ho
    rw [HN2.out.2]
    obtain ⟨a8, c8, hs⟩ := own_shape ho
    subst hs
    have HY8 : Hid (Below w1.heap.size w1 w8) := go_on HY7.out hb
    have HO8 : Hid (OwnN w8 w7.heap.size (.slice a8 L2.length c8) L2) := ho
    have HD8 : Hid (Below w7.heap.size w7 w8) := hb
    clear hb ho
    go_wp2_with fail
    refine (rbetween_all (HRF.out _ HY8.out) i).mono ?_
    rintro e w9 ⟨v9, rfl, ho, hb⟩
    rw [HN2.out.1] at ho
    rw [HN2.out.2]
    obtain ⟨a9, c9, hs⟩ := own_shape ho
    subst hs
    have HY9 : Hid (Below w1.heap.size w1 w9) := go_on HY8.out hb
    have HO9 : Hid (OwnN w9 w8.heap.size (.slice a9 L2.length c9) L2) := ho
    have HD9 : Hid (Below w8.heap.size w8 w9) := hb
    clear hb ho
    have H59 : Hid (Below w5.heap.size w5 w9) := go_on (go_on (go_on HD6.out HD7.out) HD8.out) HD9.out
    have H49 : Hid (Below w4.heap.size w4 w9) := go_on HD5.out H59.out
    have HS1 : Hid (∀ y, Below w9.heap.size w9 y → Calls Try.prog 23 #[.slice a4 L1.length c4, .slice a5 L1.length c5] y fun e w' => e = .returned (.bool true) ∧ Below y.heap.size y w') := fun y hy => isameN (own_below HO4.out (go_on H49.out hy)) (own_below HO5.out (go_on H59.out hy)) HL1.out
    have HS2 : Hid (∀ y, Below w9.heap.size w9 y → Calls Try.prog 23 #[.slice a8 L2.length c8, .slice a9 L2.length c9] y fun e w' => e = .returned (.bool true) ∧ Below y.heap.size y w') := fun y hy => isameN (own_below HO8.out (go_on HD9.out hy)) (own_below HO9.out hy) HL2.out
    have HAP : Hid (∀ y, Below w9.heap.size w9 y → Calls Try.prog 24 #[.slice (some ⟨y.heap.size, 0, none⟩) 2 2] (y.alloc (.cells #[.slice a4 L1.length c4, .slice a8 L2.length c8] 23)) fun e w' => e = .returned (.bool true) ∧ Below w.heap.size (y.alloc (.cells #[.slice a4 L1.length c4, .slice a8 L2.length c8] 23)) w') := fun y hy => apartN (own_below HO4.out (go_on H49.out hy)) (own_below HO8.out (go_on HD9.out hy)) (fun b hb hb2 => by
      have h1 := (HO4.out.lt b hb).2
      have h2 := (HO8.out.lt b hb2).1
      have h3 := HD5.out.size
      have h4 := HD6.out.size
      have h5 := HD7.out.size
      omega) (by have := HB1.out.size; have := HY3.out.size; omega) (by have := HB1.out.size; have := HY7.out.size; omega) (by have := HB1.out.size; have := HY9.out.size; have := hy.size; omega) HL1.out HL2.out
    have HNM : Hid (∀ y (n : Int), Calls Try.prog 21 #[.int .i64 n] y fun e w' => e = .returned (.int .i64 n) ∧ y = w') := fun y n => num16_any n y
    clear hrg hbl
    go_wp2_with (first
      | (go_at_call 21; refine (HNM.out _ _).mono ?_; rintro e yn ⟨rfl, hyn⟩; subst hyn)
      | (go_at_call_of 23 ([.slice a4 L1.length c4, .slice a5 L1.length c5] : List Value); refine (HS1.out _ (Below.refl _ _)).mono ?_; rintro e w13 ⟨rfl, hb⟩; have HT13 : Hid (Below w9.heap.size w9 w13) := hb; clear hb)
      | (go_at_call_of 23 ([.slice a8 L2.length c8, .slice a9 L2.length c9] : List Value); refine (HS2.out _ HT13.out).mono ?_; rintro e w14 ⟨rfl, hb⟩; have HT14 : Hid (Below w9.heap.size w9 w14) := go_on HT13.out hb; clear hb)
      | (go_at_call 24; refine (HAP.out _ HT14.out).mono ?_; rintro e w15 ⟨rfl, hb⟩; have HT15 : Hid (Below w.heap.size w w15) := (go_on (go_on HB1.out (go_on HY9.out HT14.out)) (below_new _ _)).trans hb; clear hb)
      | (go_at_call 10; refine (live16_any _).mono ?_; rintro e w16 ⟨rfl, hb⟩; have HL : Hid (Below w.heap.size w w16) := go_on HT15.out hb; clear hb))
    go_ret
    exact ⟨rfl, HL.out⟩

/-! ### The row's step -/
theorem own : ownKnob Try.prog.godebug = none := by kernel_rfl
set_option maxRecDepth 100000 in
theorem lifted (os : Os) (started : os.Started) (H : Type) (enc : TypeId × Value → H) :
    ReturnsInHanded {} Try.checked os 5 .any (Rows.idemInversesSpec.pre6 enc Try.prog Try.f5 Rows.idemInversesRow.domain false) (Rows.idemInversesSpec.post enc Try.prog Try.f5 false true false false) := by
  refine returnsInHanded_of_change_sized (C := Try.checked) own started (by kernel_rfl) Try.func5
    (ChangeSpec.witness6 (enc := enc) (C := Try.checked) false ⟨#[], #[.agg #[.int .i64 0, .slice none 0 0, .slice none 0 0], .int .i64 0, .int .i64 0], []⟩ 8 (by kernel_rfl) (by kernel_rfl) (by kernel_rfl) (by kernel_rfl)) ?_
  intro W base args ds gs before hval0 hW hcnd hsz0 _
  have hval : ∀ (j : Nat) t v, Try.f5.params[j]? = some t → args[j]? = some v → Value.okWide Try.prog W .any base t v := hval0
  clear hval0
  have hsz : (DataW.weightsEach Try.prog (Try.f5.params.toList ++ Rows.idemInversesSpec.plain.varTypes Try.prog) (ds ++ gs)).all (· ≤ reachBytes) = true := hsz0
  clear hsz0
  have hW' := hW
  obtain ⟨p, q, hA0, hV, rfl, hfz, hnd⟩ := hW
  have hA : DataW.TrodAll enc Try.prog W 0 (fun _ => true) true Try.f5.params.toList args.toList ds p := hA0
  rw [Try.params5] at hA hval hsz
  obtain ⟨v0, vs0, d0, ds0, p0, q0, hargs, rfl, rfl, h0, r0⟩ := trodAll_cons hA
  obtain ⟨v1, vs1, d1, ds1, p1, q1, rfl, rfl, rfl, h1, r1⟩ := trodAll_cons r0
  obtain ⟨v2, vs2, d2, ds2, p2, q2, rfl, rfl, rfl, h2, r2⟩ := trodAll_cons r1
  obtain ⟨rfl, rfl, rfl⟩ := trodAll_nil r2
  obtain rfl : args = #[v0, v1, v2] := by cases args; simp_all
  obtain ⟨rfl, rfl⟩ := trodVars_none hV
  obtain ⟨a0, x0, n0, w0, dk0, dn0, da0, e0, y0, z0⟩ := open_auto (hval 0 26 v0 rfl rfl) h0
  have b0 := auto_bounds hsz (j := 0) rfl (by rw [e0]; rfl) y0 z0
  have g0 : ∀ x ∈ p0, x.block < W.heap.size := fun x hx => hW'.lt x (by simp [hx])
  obtain ⟨a1, rfl, rfl, rfl, w1⟩ := open_int Try.underlying3 (hval 1 3 v1 rfl rfl) h1
  obtain ⟨a2, rfl, rfl, rfl, w2⟩ := open_int Try.underlying3 (hval 2 3 v2 rfl rfl) h2
  clear hA0
  refine (walk v0 a0 a1 a2 W x0 n0 b0.1 b0.2).mono fun e W' ⟨he, bel⟩ => ?_
  subst he
  exact ⟨_, rfl, _, _, _, [], _, [], hW', trodAll_mk1 (shut_bool Try.underlying4 _), (trodAll_cons_mk (Below.trod Try.laidOut (by kernel_rfl) (of_decide_eq_true (by kernel_rfl)) h0 bel g0) (trodAll_cons_mk (shut_int Try.underlying3 w1) (trodAll_cons_mk (shut_int Try.underlying3 w2) trodAll_mk0))), rfl, bel.frame _, fun h => by cases h⟩

theorem over : Rows.idemInversesRow.holds Try.pinned (OpenSpec.ofChange Rows.idemInversesSpec) :=
  OpenClaim.holds_of_wide 5 Try.f5 rfl rfl rfl rfl rfl rfl rfl ⟨rfl, rfl, rfl, rfl, rfl⟩ rfl rfl rfl rfl rfl (by kernel_rfl) Try.func5 (by kernel_rfl)
    (of_decide_eq_true (by kernel_rfl)) (by unfold Func.isWrapper; first | (rw [if_pos (by decide +kernel)]; kernel_rfl) | (rw [if_neg (by decide +kernel)]; exact ⟨rfl, rfl⟩))
    (fun os started H enc _ => lifted os started H enc)

end Go.Proofs.Ytafcejipoioigaa.idemInverses
namespace Go.Proofs.Ytafcejipoioigaa
/-- The given statement. -/
theorem idemInverses_holds : Rows.IdemInversesSaid := idemInverses.over
end Go.Proofs.Ytafcejipoioigaa
