/- Proved: eggboxlaw10.MinimApart answers true at every automaton's data a, all s, t and every word x (P10.9): the word of minim.Differ that tells two states apart is shorter than there are states, is a word of a, and no word ahead of it tells them apart; its arguments read behind the call as before. -/
import Derived.Test.YthjenemmhlljfabJu
import Derived.Test.YthjenemmhlljfabMp
import Derived.Test.YthjenemmhlljfabLl
import Derived.Test.YthjenemmhlljfabLr
import Derived.Deep.RegionHeld3
namespace Go.Proofs.Ythjenemmhlljfab.minimApart
open Go Go.ChangeShapes Go.WideShapes Go.ChangeAt Go.RowKit Go.Lib
open Go.ChangeMaps (open_string shut_string)
set_option linter.unusedVariables false

/-- What Differ's answer is: an error or none, or a word. -/
theorem df_cases (A : Aut) (s t : Int) : (dfO A s t = none) ∨ (dfE A s t = 0 ∧ Good A ∧ stO A s ∧ stO A t ∧ ∃ u, dfO A s t = some u ∧ Lsh (dd A A) A.k.toNat (sx A A) (s.toNat, t.toNat) u) := by
  cases h : dfO A s t with
  | none => exact .inl rfl
  | some u =>
    refine .inr ?_
    have h0 : dfE A s t = 0 := by
      unfold dfO at h
      split at h
      · assumption
      · cases h
    have hc : chkA A = 0 := by
      unfold dfE at h0
      split at h0
      · assumption
      · cases h0
    have hst : stO A s ∧ stO A t := by
      unfold dfE at h0
      rw [if_pos hc] at h0
      split at h0
      · assumption
      · cases h0
    refine ⟨h0, chkA_good hc, hst.1, hst.2, u, rfl, ?_⟩
    unfold dfO at h
    rw [if_pos h0] at h
    exact lsh_is h

set_option maxHeartbeats 8000000 in
set_option maxRecDepth 100000 in
theorem walk (va : Value) (A : Aut) (s t : Int) (x : ByteArray) (w : World) (ha : AR w va A) (hna : NilOk va) (hma : (A.nx.length + 2) * 8 ≤ 140737488355328) (hma2 : A.ac.length ≤ 140737488355328) (hz : x.size ≤ maxLen) :
    Calls Try.prog 4 #[va, .int .i64 s, .int .i64 t, .string x] w fun e w' => e = .returned (.bool true) ∧ Below w.heap.size w w' := by
  obtain ⟨an, cn, aa, ca, ea, _, k2⟩ := ha.is
  have HAA : Hid (∀ y, Below w.heap.size w y → AR y va A) := fun y hy => ha.stay hy
  have K2 : Hid (∀ y, Below w.heap.size w y → SR y aa (bC A.ac)) := fun y hy => k2.stay hy
  have hz2 : x.size ≤ 9223372036854775807 := by unfold maxLen at hz; omega
  subst ea
  have C1 : Hid (∀ y, Below w.heap.size w y → Calls Try.prog 12 #[.agg #[.int .i64 A.k, .slice an A.nx.length cn, .slice aa A.ac.length ca], .int .i64 s, .int .i64 t] y (DfQ A s t y)) := fun y hy => mdiffer_any _ A y (HAA.out y hy) (by omega) (by omega) s t
  have HRV : Hid (RowAt (w.alloc (.cells #[.int .i64 A.k, .slice an A.nx.length cn, .slice aa A.ac.length ca] 25)) w.heap.size #[.int .i64 A.k, .slice an A.nx.length cn, .slice aa A.ac.length ca]) := RowAt.last _ _ _
  clear ha hna hma hma2 k2
  go_enter Try.func4, Try.ntmps4
  go_wp2_with fail
  refine (C1.out _ (below_new _ _)).mono ?_
  rintro e w1 ⟨rfl, hl1, hb1⟩
  have HB1 : Hid (Below w.heap.size w w1) := go_on (below_new _ _) hb1
  have HR1 : Hid (RowAt w1 w.heap.size #[.int .i64 A.k, .slice an A.nx.length cn, .slice aa A.ac.length ca]) := HRV.out.stay hb1
  clear hb1
  rcases df_cases A s t with hd | ⟨h0, G, p1, p2, u, hd, hL⟩
  · rw [hd]
    rw [show apS none = ByteArray.empty from rfl, show apF none = false from rfl]
    obtain ⟨E, hE⟩ : ∃ E, dfE A s t = E := ⟨_, rfl⟩
    rw [hE]
    clear hd hl1 hE
    by_cases q : E = 0
    · subst q
      go_wp2_with (first
        | (go_at_call 6; refine (num10_any _ _).mono ?_; rintro e yn ⟨rfl, hyn⟩; subst yn)
        | (go_at_call 7; refine (live10_any _).mono ?_; rintro e y6 ⟨rfl, hy6⟩; have HY6 : Hid (Below w.heap.size w y6) := go_on HB1.out hy6; clear hy6))
      go_ret
      exact ⟨rfl, HY6.out⟩
    · have qd : decide (E = 0) = false := decide_eq_false q
      have qb : (E != 0) = true := by simpa using q
      go_wp2_with (first
        | (go_at_call 6; refine (num10_any _ _).mono ?_; rintro e yn ⟨rfl, hyn⟩; subst yn)
        | (go_at_call 7; refine (live10_any _).mono ?_; rintro e y6 ⟨rfl, hy6⟩; have HY6 : Hid (Below w.heap.size w y6) := go_on HB1.out hy6; clear hy6))
      go_ret
      exact ⟨rfl, HY6.out⟩
  · have hlen := hl1 u hd
    have hn2 := G.n2
    have hk1 := G.k1
    have hk8 := G.k8
    obtain ⟨wl, wc⟩ := wB_lts hk1 hk8 (w := u) hL.1
    have hws : (wB u).size = u.length := wB_size u
    rw [hd, h0]
    rw [show apS (some u) = wB u from rfl, show apF (some u) = true from rfl]
    obtain ⟨X, rfl⟩ : ∃ X : Nat, s = X := ⟨s.toNat, by have := p1.1; omega⟩
    obtain ⟨Y, rfl⟩ : ∃ Y : Nat, t = Y := ⟨t.toNat, by have := p2.1; omega⟩
    have hX : X < A.ac.length := by have := p1.2; omega
    have hY : Y < A.ac.length := by have := p2.2; omega
    rw [Int.toNat_natCast, Int.toNat_natCast] at hL
    have HG : Hid (Good A) := G
    have HL : Hid (Lsh (dd A A) A.k.toNat (sx A A) (X, Y) u) := hL
    have HUS : Hid (lets (wB u) = u ∧ Lts A.k (wB u)) := ⟨lets_wB (k := A.k.toNat) (by omega) hL.1, wl⟩
    have HCW : Hid (∀ y, Calls Try.prog 13 #[.int .i64 A.k, .string (wB u)] y fun e w' => e = .returned (.int .i64 0) ∧ Below y.heap.size y w') := fun y => by have := rcheck_any A.k (wB u) y (by rw [hws]; unfold maxLen; omega); rw [wc] at this; exact this
    have HCX : Hid (∀ y, Calls Try.prog 13 #[.int .i64 A.k, .string x] y fun e w' => e = .returned (.int .i64 (chk A.k x)) ∧ Below y.heap.size y w') := fun y => rcheck_any A.k x y hz
    obtain ⟨U, hU⟩ : ∃ U, wB u = U := ⟨_, rfl⟩
    rw [hU] at HUS HCW hws ⊢
    have hsz : U.size ≤ 4096 := by omega
    have hgI : ¬ (A.ac.length : Int) ≤ U.size := by omega
    have hgd : decide ((A.ac.length : Int) ≤ U.size) = false := decide_eq_false hgI
    have cs1 := HR1.out.cell
    clear hl1 hd h0 p1 p2 hL G wl wc hU hlen hws C1 HRV
    go_wp2_with (first
      | (go_at_call 6; refine (num10_any _ _).mono ?_; rintro e yn ⟨rfl, hyn⟩; subst yn))
    refine (HCW.out _).mono ?_
    rintro e w2 ⟨rfl, hb2⟩
    have HB2 : Hid (Below w.heap.size w w2) := go_on HB1.out hb2
    have HR2 : Hid (RowAt w2 w.heap.size #[.int .i64 A.k, .slice an A.nx.length cn, .slice aa A.ac.length ca]) := HR1.out.stay hb2
    have cs2 := HR2.out.cell
    clear hb2 cs1
    go_wp2_with fail
    refine (HCX.out _).mono ?_
    rintro e w3 ⟨rfl, hb3⟩
    have HB3 : Hid (Below w.heap.size w w3) := go_on HB2.out hb3
    have HR3 : Hid (RowAt w3 w.heap.size #[.int .i64 A.k, .slice an A.nx.length cn, .slice aa A.ac.length ca]) := HR2.out.stay hb3
    have cs3 := HR3.out.cell
    clear hb3 cs2
    by_cases hcx : chk A.k x = 0
    · have hxl := chk_all hcx
      rw [hcx]
      have HXL : Hid (Lts A.k x) := hxl
      have HXK : Hid (Lk A.k.toNat (lets x)) := hxl.lk
      clear hcx hxl
      obtain ⟨O, hO⟩ : ∃ O, ord x U = O := ⟨_, rfl⟩
      have HOR : Hid (∀ y, Calls Try.prog 14 #[.string x, .string U] y fun e w' => e = .returned (.int .i64 O) ∧ w' = y) := fun y => by rw [← hO]; exact order_any x U y
      by_cases hO0 : O < 0
      · have HNO : Hid (acW A X (lets x) = acW A Y (lets x)) := by
          show _ = _
          have h1 : ¬ sle u (lets x) := by have := (ord_sle HXL.out HUS.out.2).1 (by rw [hO]; exact hO0); rw [HUS.out.1] at this; exact this
          by_cases q : acW A X (lets x) = acW A Y (lets x)
          · exact q
          · exact absurd (HL.out.2.2 (lets x) HXK.out ((sx_ac A A (X, Y) (lets x)).2 q)) h1
        obtain ⟨ga, oa, rfl, _, _⟩ := (K2.out w3 HB3.out).bool (i := 0) (by omega)
        have CA : Hid (∀ y i, Below w.heap.size w y → i < A.ac.length → y.cell? ⟨ga, oa + i, none⟩ = some (.bool (A.ac.getD i false))) := fun y i hy hi => by
          obtain ⟨g', o', e', _, hc'⟩ := (K2.out y hy).bool hi
          simp only [Option.some.injEq, Addr.mk.injEq] at e'
          obtain ⟨rfl, rfl, _⟩ := e'
          exact hc'
        have hg1 : goN A X (lets x) < A.ac.length := wrun_lt HG.out hX HXK.out
        have hg2 : goN A Y (lets x) < A.ac.length := wrun_lt HG.out hY HXK.out
        have G1 : Hid (∀ y, Below w.heap.size w y → Calls Try.prog 15 #[.agg #[.int .i64 A.k, .slice an A.nx.length cn, .slice (some ⟨ga, oa, none⟩) A.ac.length ca], .int .i64 (X : Int), .string x] y fun e w' => e = .returned (.int .i64 (goN A X (lets x))) ∧ Below y.heap.size y w') := fun y hy => rgo_any _ A y (HAA.out y hy) HG.out X hX x HXL.out hz2
        have G2 : Hid (∀ y, Below w.heap.size w y → Calls Try.prog 15 #[.agg #[.int .i64 A.k, .slice an A.nx.length cn, .slice (some ⟨ga, oa, none⟩) A.ac.length ca], .int .i64 (Y : Int), .string x] y fun e w' => e = .returned (.int .i64 (goN A Y (lets x))) ∧ Below y.heap.size y w') := fun y hy => rgo_any _ A y (HAA.out y hy) HG.out Y hY x HXL.out hz2
        have e1 : A.ac.getD (goN A X (lets x)) false = A.ac.getD (goN A Y (lets x)) false := HNO.out
        have c1 := fun y hy => CA.out y _ hy hg1
        have c2 := fun y hy => CA.out y _ hy hg2
        obtain ⟨X', hX'⟩ : ∃ X', goN A X (lets x) = X' := ⟨_, rfl⟩
        obtain ⟨Y', hY'⟩ : ∃ Y', goN A Y (lets x) = Y' := ⟨_, rfl⟩
        rw [hX'] at c1 e1 hg1 G1
        rw [hY'] at c2 e1 hg2 G2
        obtain ⟨p, hp⟩ : ∃ p, A.ac.getD Y' false = p := ⟨_, rfl⟩
        rw [hp] at c2 e1
        rw [e1] at c1
        have KS : Hid (∀ y, Below w3.heap.size w3 y → (∀ o, y.cell? ⟨w.heap.size, o, none⟩ = (#[.int .i64 A.k, .slice an A.nx.length cn, .slice (some ⟨ga, oa, none⟩) A.ac.length ca] : Array Value)[o]?) ∧ y.cell? ⟨ga, oa + X', none⟩ = some (.bool p) ∧ y.cell? ⟨ga, oa + Y', none⟩ = some (.bool p) ∧ Below w3.heap.size w3 y) := fun y hy => ⟨(HR3.out.stay hy).cell, c1 y (go_on HB3.out hy), c2 y (go_on HB3.out hy), hy⟩
        have hOd : decide (0 ≤ O) = false := decide_eq_false (by omega)
        have hOd2 : ¬ 0 ≤ O := by omega
        have hXI : (X' : Int) < A.ac.length := by omega
        have hYI : (Y' : Int) < A.ac.length := by omega
        clear c1 c2 e1 hp hX' hY' hO
        go_wp2_with (first
          | (go_at_call 14; refine (HOR.out _).mono ?_; rintro e yn ⟨rfl, hyn⟩; subst yn))
        have S0 := KS.out w3.drew (Below.refl _ _).drew
        go_region_held3 (fun y => (∀ o, y.cell? ⟨w.heap.size, o, none⟩ = (#[.int .i64 A.k, .slice an A.nx.length cn, .slice (some ⟨ga, oa, none⟩) A.ac.length ca] : Array Value)[o]?) ∧ y.cell? ⟨ga, oa + X', none⟩ = some (.bool p) ∧ y.cell? ⟨ga, oa + Y', none⟩ = some (.bool p) ∧ Below w3.heap.size w3 y) (first | exact S0 | assumption | exact KS.out _ (go_on (And.right (And.right (And.right (by assumption)))) (by assumption))) (first
          | (go_at_call_of 15 (Value.int IntKind.i64 (X : Int)); refine (G1.out _ (go_on HB3.out (And.right (And.right (And.right (by assumption)))))).mono ?_; rintro e y1 ⟨rfl, hy1⟩)
          | (go_at_call_of 15 (Value.int IntKind.i64 (Y : Int)); refine (G2.out _ (go_on HB3.out (And.right (And.right (And.right (by assumption)))))).mono ?_; rintro e y2 ⟨rfl, hy2⟩)
          | (go_at_call 7; refine (live10_any _).mono ?_; rintro e y6 ⟨rfl, hy6⟩))
        all_goals (
          go_wp2_with fail
          go_ret
          exact ⟨rfl, go_on HB3.out (And.right (And.right (And.right (by assumption))))⟩)
      · have hOd : decide (0 ≤ O) = true := decide_eq_true (by omega)
        have hOd2 : 0 ≤ O := by omega
        clear hO
        go_wp2_with (first
          | (go_at_call 14; refine (HOR.out _).mono ?_; rintro e yn ⟨rfl, hyn⟩; subst yn)
          | (go_at_call 7; refine (live10_any _).mono ?_; rintro e y6 ⟨rfl, hy6⟩; have HY6 : Hid (Below w.heap.size w y6) := go_on HB3.out hy6; clear hy6))
        go_ret
        exact ⟨rfl, HY6.out⟩
    · obtain ⟨E, hE⟩ : ∃ E, chk A.k x = E := ⟨_, rfl⟩
      rw [hE] at hcx ⊢
      have qd : decide (E = 0) = false := decide_eq_false hcx
      have qb : (E != 0) = true := by simpa using hcx
      clear hE
      go_wp2_with (first
        | (go_at_call 7; refine (live10_any _).mono ?_; rintro e y6 ⟨rfl, hy6⟩; have HY6 : Hid (Below w.heap.size w y6) := go_on HB3.out hy6; clear hy6))
      go_ret
      exact ⟨rfl, HY6.out⟩

/-! ### The row's step -/
theorem own : ownKnob Try.prog.godebug = none := by kernel_rfl
set_option maxRecDepth 100000 in
theorem lifted (os : Os) (started : os.Started) (H : Type) (enc : TypeId × Value → H) :
    ReturnsInHanded {} Try.checked os 4 .any (Rows.minimApartSpec.pre6 enc Try.prog Try.f4 Rows.minimApartRow.domain false) (Rows.minimApartSpec.post enc Try.prog Try.f4 false true false false) := by
  refine returnsInHanded_of_change_sized (C := Try.checked) own started (by kernel_rfl) Try.func4
    (ChangeSpec.witness6 (enc := enc) (C := Try.checked) false ⟨#[], #[.agg #[.int .i64 0, .slice none 0 0, .slice none 0 0], .int .i64 0, .int .i64 0, .string ByteArray.empty], []⟩ 8 (by kernel_rfl) (by kernel_rfl) (by kernel_rfl) (by kernel_rfl)) ?_
  intro W base args ds gs before hval0 hW hcnd hsz0 _
  have hval : ∀ (j : Nat) t v, Try.f4.params[j]? = some t → args[j]? = some v → Value.okWide Try.prog W .any base t v := hval0
  clear hval0
  have hsz : (DataW.weightsEach Try.prog (Try.f4.params.toList ++ Rows.minimApartSpec.plain.varTypes Try.prog) (ds ++ gs)).all (· ≤ reachBytes) = true := hsz0
  clear hsz0
  have hW' := hW
  obtain ⟨p, q, hA0, hV, rfl, hfz, hnd⟩ := hW
  have hA : DataW.TrodAll enc Try.prog W 0 (fun _ => true) true Try.f4.params.toList args.toList ds p := hA0
  rw [Try.params4] at hA hval hsz
  obtain ⟨v0, vs0, d0, ds0, p0, q0, hargs, rfl, rfl, h0, r0⟩ := trodAll_cons hA
  obtain ⟨v1, vs1, d1, ds1, p1, q1, rfl, rfl, rfl, h1, r1⟩ := trodAll_cons r0
  obtain ⟨v2, vs2, d2, ds2, p2, q2, rfl, rfl, rfl, h2, r2⟩ := trodAll_cons r1
  obtain ⟨v3, vs3, d3, ds3, p3, q3, rfl, rfl, rfl, h3, r3⟩ := trodAll_cons r2
  obtain ⟨rfl, rfl, rfl⟩ := trodAll_nil r3
  obtain rfl : args = #[v0, v1, v2, v3] := by cases args; simp_all
  obtain ⟨rfl, rfl⟩ := trodVars_none hV
  obtain ⟨a0, x0, n0, w0, dk0, dn0, da0, e0, y0, z0⟩ := open_auto (hval 0 25 v0 rfl rfl) h0
  have b0 := auto_bounds hsz (j := 0) rfl (by rw [e0]; rfl) y0 z0
  have g0 : ∀ x ∈ p0, x.block < W.heap.size := fun x hx => hW'.lt x (by simp [hx])
  obtain ⟨a1, rfl, rfl, rfl, w1⟩ := open_int Try.underlying3 (hval 1 3 v1 rfl rfl) h1
  obtain ⟨a2, rfl, rfl, rfl, w2⟩ := open_int Try.underlying3 (hval 2 3 v2 rfl rfl) h2
  obtain ⟨a3, rfl, rfl, rfl, w3⟩ := open_string Try.underlying9 (hval 3 9 v3 rfl rfl) h3
  clear hA0
  refine (walk v0 a0 a1 a2 a3 W x0 n0 b0.1 b0.2   w3).mono fun e W' ⟨he, bel⟩ => ?_
  subst he
  exact ⟨_, rfl, _, _, _, [], _, [], hW', trodAll_mk1 (shut_bool Try.underlying4 _), (trodAll_cons_mk (Below.trod Try.laidOut (by kernel_rfl) (of_decide_eq_true (by kernel_rfl)) h0 bel g0) (trodAll_cons_mk (shut_int Try.underlying3 w1) (trodAll_cons_mk (shut_int Try.underlying3 w2) (trodAll_cons_mk (shut_string Try.underlying9 w3) trodAll_mk0)))), rfl, bel.frame _, fun h => by cases h⟩

theorem over : Rows.minimApartRow.holds Try.pinned (OpenSpec.ofChange Rows.minimApartSpec) :=
  OpenClaim.holds_of_wide 4 Try.f4 rfl rfl rfl rfl rfl rfl rfl ⟨rfl, rfl, rfl, rfl, rfl⟩ rfl rfl rfl rfl rfl (by kernel_rfl) Try.func4 (by kernel_rfl)
    (of_decide_eq_true (by kernel_rfl)) (by unfold Func.isWrapper; first | (rw [if_pos (by decide +kernel)]; kernel_rfl) | (rw [if_neg (by decide +kernel)]; exact ⟨rfl, rfl⟩))
    (fun os started H enc _ => lifted os started H enc)

end Go.Proofs.Ythjenemmhlljfab.minimApart
namespace Go.Proofs.Ythjenemmhlljfab
/-- The given statement. -/
theorem minimApart_holds : Rows.MinimApartSaid := minimApart.over
end Go.Proofs.Ythjenemmhlljfab
