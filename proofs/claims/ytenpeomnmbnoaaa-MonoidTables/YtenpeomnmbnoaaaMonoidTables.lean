/- Proved: eggboxlaw14.MonoidTables answers true at every automaton's data a, all ints i and j and every byte letter (P14.3, P14.4): where both build a monoid, the program's Product, Right, Left and Zero answer what the document's answer, errors and all; where none is built both refuse it alike; and the law's own automaton has the monoid that the law names. No condition. -/
import Derived.Test.YtenpeomnmbnoaaaW3
import Derived.Test.YtenpeomnmbnoaaaW2
import Derived.SizedLaws
namespace Go.Proofs.Ytenpeomnmbnoaaa.monoidTables
open Go Go.ChangeShapes Go.WideShapes Go.ChangeAt Go.RowKit Go.Lib
open Go.ChangeMaps (open_string shut_string)
set_option linter.unusedVariables false
attribute [-instance] List.instBEq instBEqProd

theorem rp_two (A : Aut) (n : Nat) (N : List Nat) (i j : Int) : ∃ x y : Int, rpV A n N i j = .tuple #[.int .i64 x, .int .i64 y] := by
  unfold rpV
  split
  · exact ⟨_, _, rfl⟩
  · exact ⟨_, _, rfl⟩

theorem rb_two (A : Aut) (n : Nat) (N : List Nat) (i : Int) (x : Nat) (b : Bool) : ∃ y z : Int, rbV A n N i x b = .tuple #[.int .i64 y, .int .i64 z] := by
  unfold rbV
  split
  · split
    · exact ⟨_, _, rfl⟩
    · exact ⟨_, _, rfl⟩
  · exact ⟨_, _, rfl⟩

theorem zq_two {K n : Nat} {N : List Nat} {v : Value} (h : ZQ K n N v) : ∃ (y : Int) (b : Bool), v = .tuple #[.int .i64 y, .bool b] := by
  rcases h with ⟨z, _, _, _, rfl⟩ | ⟨_, rfl⟩
  · exact ⟨_, _, rfl⟩
  · exact ⟨_, _, rfl⟩

theorem u8_of {n : Int} (h : (Lit.int .u8 n).wf = true) : ∃ m : Nat, n = m ∧ m < 256 := by
  simp [Lit.wf, IntKind.min, IntKind.max, IntKind.signed, IntKind.bits] at h
  exact ⟨n.toNat, by omega, by omega⟩

set_option maxHeartbeats 8000000 in
set_option maxRecDepth 100000 in
theorem walk (v : Value) (A : Aut) (i j : Int) (x : Nat) (w : World) (h : AR w v A) (hn : NilOk v) (hm : (A.nx.length + 2) * 8 ≤ 140737488355328) (hm2 : A.ac.length ≤ 140737488355328) (hx : x < 256) :
    Calls Try.prog 5 #[v, .int .i64 i, .int .i64 j, .int .u8 x] w fun e w' => e = .returned (.bool true) ∧ Below w.heap.size w w' := by
  obtain ⟨an, cn, aa, ca, e, h1, h2⟩ := h.is
  have HBO : Hid (∀ w', Below w.heap.size w w' → Calls Try.prog 11 #[v] w' (BoQ A w')) := fun w' hb => both14_any v A w' (h.stay hb) hn hm hm2
  have HX : Hid (x < 256) := hx
  clear h h1 h2 hn hx
  subst e
  go_enter Try.func5, Try.ntmps5
  go_wp2_with fail
  refine (HBO.out _ (below_new _ _)).mono ?_
  rintro e w1 (⟨_, rfl, hb⟩ | ⟨ob, rb, M, N, rfl, G, h64, hE, hmo, hrf, hb⟩)
  · have HB1 : Hid (Below w.heap.size w w1) := go_on (below_new _ _) hb
    clear hb
    go_wp2_with fail
    refine (live14_any w1).mono ?_
    rintro e w2 ⟨rfl, hb⟩
    have HB2 : Hid (Below w.heap.size w w2) := go_on HB1.out hb
    clear hb
    go_wp2_with fail
    go_ret
    exact ⟨rfl, HB2.out⟩
  · have HB1 : Hid (Below w.heap.size w w1) := go_on (below_new _ _) hb
    have HMO : Hid (∀ y, Below w1.heap.size w1 y → MO y ob A M N) := fun y hy => hmo.below hy
    have HRF : Hid (∀ y, Below w1.heap.size w1 y → RF y rb A M N) := fun y hy => hrf.below hy
    obtain ⟨p1, e1, hp1⟩ := rp_two A M.length N i j
    obtain ⟨p2, e2, hp2⟩ := rb_two A M.length N i x false
    obtain ⟨p3, e3, hp3⟩ := rb_two A M.length N i x true
    clear hb hmo hrf G h64 hE
    go_wp2_with fail
    refine (mproduct_all (HMO.out _ (Below.refl _ _)) i j).mono ?_
    rintro e w2 ⟨rfl, hb⟩
    have HY2 : Hid (Below w1.heap.size w1 w2) := hb
    clear hb
    rw [hp1]
    go_wp2_with fail
    refine (rproduct_any (HRF.out _ HY2.out) i j).mono ?_
    rintro e w3 ⟨rfl, hb⟩
    have HY3 : Hid (Below w1.heap.size w1 w3) := go_on HY2.out hb
    clear hb
    rw [hp1]
    go_wp2_with fail
    refine (mright_all (HMO.out _ HY3.out) i x HX.out).mono ?_
    rintro e w4 ⟨rfl, hb⟩
    have HY4 : Hid (Below w1.heap.size w1 w4) := go_on HY3.out hb
    clear hb
    rw [hp2]
    go_wp2_with fail
    refine (rbeside_any (HRF.out _ HY4.out) i x HX.out false).mono ?_
    rintro e w5 ⟨rfl, hb⟩
    have HY5 : Hid (Below w1.heap.size w1 w5) := go_on HY4.out hb
    clear hb
    rw [hp2]
    go_wp2_with fail
    refine (mleft_all (HMO.out _ HY5.out) i x HX.out).mono ?_
    rintro e w6 ⟨rfl, hb⟩
    have HY6 : Hid (Below w1.heap.size w1 w6) := go_on HY5.out hb
    clear hb
    rw [hp3]
    go_wp2_with fail
    refine (rbeside_any (HRF.out _ HY6.out) i x HX.out true).mono ?_
    rintro e w7 ⟨rfl, hb⟩
    have HY7 : Hid (Below w1.heap.size w1 w7) := go_on HY6.out hb
    clear hb
    rw [hp3]
    go_wp2_with fail
    refine (mzero_any (HMO.out _ HY7.out)).mono ?_
    rintro e w8 ⟨⟨vz, rfl, hz⟩, hb⟩
    have HY8 : Hid (Below w1.heap.size w1 w8) := go_on HY7.out hb
    have HZ : Hid (ZQ A.k.toNat M.length N vz) := hz
    obtain ⟨z1, z2, hz3⟩ := zq_two hz
    subst hz3
    clear hb hz
    go_wp2_with fail
    refine (rzero_any (HRF.out _ HY8.out)).mono ?_
    rintro e w9 ⟨⟨vy, rfl, hz⟩, hb⟩
    have HY9 : Hid (Below w1.heap.size w1 w9) := go_on HY8.out hb
    obtain rfl := HZ.out.same hz
    clear hb hz HZ
    have HNM : Hid (∀ y (n : Int), Calls Try.prog 23 #[.int .i64 n] y fun e w' => e = .returned (.int .i64 n) ∧ y = w') := fun y n => num14_any n y
    go_wp2_with (first
      | (go_at_call 23; refine (HNM.out _ _).mono ?_; rintro e yn ⟨rfl, hyn⟩; subst hyn)
      | (go_at_call 10; refine (live14_any _).mono ?_; rintro e w10 ⟨rfl, hb⟩; have HL : Hid (Below w.heap.size w w10) := go_on (go_on HB1.out HY9.out) hb; clear hb))
    go_ret
    exact ⟨rfl, HL.out⟩

/-! ### The row's step -/
theorem own : ownKnob Try.prog.godebug = none := by kernel_rfl
set_option maxRecDepth 100000 in
theorem lifted (os : Os) (started : os.Started) (H : Type) (enc : TypeId × Value → H) :
    ReturnsInHanded {} Try.checked os 5 .any (Rows.monoidTablesSpec.pre6 enc Try.prog Try.f5 Rows.monoidTablesRow.domain false) (Rows.monoidTablesSpec.post enc Try.prog Try.f5 false true false false) := by
  refine returnsInHanded_of_change_sized (C := Try.checked) own started (by kernel_rfl) Try.func5
    (ChangeSpec.witness6 (enc := enc) (C := Try.checked) false ⟨#[], #[.agg #[.int .i64 0, .slice none 0 0, .slice none 0 0], .int .i64 0, .int .i64 0, .int .u8 0], []⟩ 8 (by kernel_rfl) (by kernel_rfl) (by kernel_rfl) (by kernel_rfl)) ?_
  intro W base args ds gs before hval0 hW hcnd hsz0 _
  have hval : ∀ (j : Nat) t v, Try.f5.params[j]? = some t → args[j]? = some v → Value.okWide Try.prog W .any base t v := hval0
  clear hval0
  have hsz : (DataW.weightsEach Try.prog (Try.f5.params.toList ++ Rows.monoidTablesSpec.plain.varTypes Try.prog) (ds ++ gs)).all (· ≤ reachBytes) = true := hsz0
  clear hsz0
  have hW' := hW
  obtain ⟨p, q, hA0, hV, rfl, hfz, hnd⟩ := hW
  have hA : DataW.TrodAll enc Try.prog W 0 (fun _ => true) true Try.f5.params.toList args.toList ds p := hA0
  rw [Try.params5] at hA hval hsz
  obtain ⟨v0, vs0, d0, ds0, p0, q0, hargs, rfl, rfl, h0, r0⟩ := trodAll_cons hA
  obtain ⟨v1, vs1, d1, ds1, p1, q1, rfl, rfl, rfl, h1, r1⟩ := trodAll_cons r0
  obtain ⟨v2, vs2, d2, ds2, p2, q2, rfl, rfl, rfl, h2, r2⟩ := trodAll_cons r1
  obtain ⟨v3, vs3, d3, ds3, p3, q3, rfl, rfl, rfl, h3, r3⟩ := trodAll_cons r2
  obtain ⟨rfl, rfl, rfl⟩ := trodAll_nil r3
  obtain rfl : args = #[v0, v1, v2, v3] := by cases args; simp_all
  obtain ⟨rfl, rfl⟩ := trodVars_none hV
  obtain ⟨a0, x0, n0, w0, dk0, dn0, da0, e0, y0, z0⟩ := open_auto (hval 0 26 v0 rfl rfl) h0
  have b0 := auto_bounds hsz (j := 0) rfl (by rw [e0]; rfl) y0 z0
  have g0 : ∀ x ∈ p0, x.block < W.heap.size := fun x hx => hW'.lt x (by simp [hx])
  obtain ⟨a1, rfl, rfl, rfl, w1⟩ := open_int Try.underlying3 (hval 1 3 v1 rfl rfl) h1
  obtain ⟨a2, rfl, rfl, rfl, w2⟩ := open_int Try.underlying3 (hval 2 3 v2 rfl rfl) h2
  obtain ⟨b3, rfl, rfl, rfl, w3⟩ := open_int Try.underlying5 (hval 3 5 v3 rfl rfl) h3
  obtain ⟨a3, rfl, x3⟩ := u8_of w3
  clear hA0
  refine (walk v0 a0 a1 a2 a3 W x0 n0 b0.1 b0.2 x3).mono fun e W' ⟨he, bel⟩ => ?_
  subst he
  exact ⟨_, rfl, _, _, _, [], _, [], hW', trodAll_mk1 (shut_bool Try.underlying4 _), (trodAll_cons_mk (Below.trod Try.laidOut (by kernel_rfl) (of_decide_eq_true (by kernel_rfl)) h0 bel g0) (trodAll_cons_mk (shut_int Try.underlying3 w1) (trodAll_cons_mk (shut_int Try.underlying3 w2) (trodAll_cons_mk (shut_int Try.underlying5 w3) trodAll_mk0)))), rfl, bel.frame _, fun h => by cases h⟩

theorem over : Rows.monoidTablesRow.holds Try.pinned (OpenSpec.ofChange Rows.monoidTablesSpec) :=
  OpenClaim.holds_of_wide 5 Try.f5 rfl rfl rfl rfl rfl rfl rfl ⟨rfl, rfl, rfl, rfl, rfl⟩ rfl rfl rfl rfl rfl (by kernel_rfl) Try.func5 (by kernel_rfl)
    (of_decide_eq_true (by kernel_rfl)) (by unfold Func.isWrapper; first | (rw [if_pos (by decide +kernel)]; kernel_rfl) | (rw [if_neg (by decide +kernel)]; exact ⟨rfl, rfl⟩))
    (fun os started H enc _ => lifted os started H enc)

end Go.Proofs.Ytenpeomnmbnoaaa.monoidTables
namespace Go.Proofs.Ytenpeomnmbnoaaa
/-- The given statement. -/
theorem monoidTables_holds : Rows.MonoidTablesSaid := monoidTables.over
end Go.Proofs.Ytenpeomnmbnoaaa
