/- Proved: eggboxlaw08.AutoRuns answers true at every automaton's data a, every s and every w (P8.1, P8.2): auto.Check, Run and Accepts answer what the document's answer; what is handed in stays; its arguments read behind the call as before. -/
import Derived.Test.YtpaadopmmpdodaaJu
import Derived.Deep.RegionHeld3
namespace Go.Proofs.Ytpaadopmmpdodaa.autoRuns
open Go Go.ChangeShapes Go.WideShapes Go.ChangeAt Go.RowKit Go.Lib
open Go.ChangeMaps (open_string shut_string)
set_option linter.unusedVariables false

set_option maxHeartbeats 16000000 in
set_option maxRecDepth 100000 in
theorem walk (v : Value) (A : Aut) (s : Int) (b : ByteArray) (w : World) (h : AR w v A) (hn : NilOk v) (hm : (A.nx.length + 2) * 8 ≤ 140737488355328) (hm2 : A.ac.length ≤ 140737488355328) (hz : b.size ≤ maxLen) :
    Calls Try.prog 3 #[v, .int .i64 s, .string b] w fun e w' => e = .returned (.bool true) ∧ Below w.heap.size w w' := by
  obtain ⟨an, cn, aa, ca, e, h1, h2⟩ := h.is
  have HAR : Hid (∀ w', Below w.heap.size w w' → AR w' v A) := fun w' hb => h.stay hb
  have HLE : Hid (∀ w', Below w.heap.size w w' → Calls Try.prog 7 #[v] w' (LQ A w')) := fun w' hb => lentAuto_any v A w' (h.stay hb) hn hm hm2
  have HZ : Hid (b.size ≤ maxLen) := hz
  have hz2 : b.size ≤ 9223372036854775807 := by unfold maxLen at hz; exact hz
  clear h h1 h2 hn hz
  subst e
  have R1 : RowAt (w.alloc (.cells #[.int .i64 A.k, .slice an A.nx.length cn, .slice aa A.ac.length ca] 25)) w.heap.size #[.int .i64 A.k, .slice an A.nx.length cn, .slice aa A.ac.length ca] := RowAt.last _ _ _
  have HR1 : Hid (RowAt (w.alloc (.cells #[.int .i64 A.k, .slice an A.nx.length cn, .slice aa A.ac.length ca] 25)) w.heap.size #[.int .i64 A.k, .slice an A.nx.length cn, .slice aa A.ac.length ca]) := R1
  clear R1
  go_enter Try.func3, Try.ntmps3
  go_wp2_with fail
  refine (HLE.out _ (below_new _ _)).mono ?_
  rintro e w1 ⟨g, gc, ba, bc, rfl, hi1, hb1, hl1⟩
  have HI1 : Hid _ := hi1
  have HBO : Hid _ := hb1
  have HB1 : Hid (Below w.heap.size w w1) := go_on (below_new _ _) hl1
  have HRA : Hid (RowAt w1 w.heap.size #[.int .i64 A.k, .slice an A.nx.length cn, .slice aa A.ac.length ca]) := HR1.out.stay hl1
  clear hi1 hb1 hl1 HLE HR1
  have RX : RowAt (w1.alloc (.cells #[.int .i64 A.k, .slice (some ⟨g, 0, none⟩) A.nx.length gc, .slice ba A.ac.length bc] 25)) w1.heap.size #[.int .i64 A.k, .slice (some ⟨g, 0, none⟩) A.nx.length gc, .slice ba A.ac.length bc] := RowAt.last _ _ _
  obtain ⟨W, hW⟩ : ∃ W, W = w1.alloc (.cells #[.int .i64 A.k, .slice (some ⟨g, 0, none⟩) A.nx.length gc, .slice ba A.ac.length bc] 25) := ⟨_, rfl⟩
  have HWE : Hid (W = w1.alloc (.cells #[.int .i64 A.k, .slice (some ⟨g, 0, none⟩) A.nx.length gc, .slice ba A.ac.length bc] 25)) := hW
  have hWb : Below w1.heap.size w1 W := by rw [hW]; exact below_new _ _
  rw [← hW] at RX
  have HRX : Hid (RowAt W w1.heap.size #[.int .i64 A.k, .slice (some ⟨g, 0, none⟩) A.nx.length gc, .slice ba A.ac.length bc]) := RX
  have HRAW : Hid (RowAt W w.heap.size #[.int .i64 A.k, .slice an A.nx.length cn, .slice aa A.ac.length ca]) := HRA.out.stay hWb
  have HBW : Hid (Below w.heap.size w W) := go_on HB1.out hWb
  have HX : Hid (∀ y, Below W.heap.size W y → AR y (.agg #[.int .i64 A.k, .slice (some ⟨g, 0, none⟩) A.nx.length gc, .slice ba A.ac.length bc]) A) := fun y hy => ⟨_, _, _, _, rfl, (lent_sr HI1.out).stay (hWb.trans (hy.mono hWb.size)), (own_sr HBO.out).stay (hWb.trans (hy.mono hWb.size))⟩
  have HSTY : Hid (∀ y, Below W.heap.size W y → Calls Try.prog 15 #[.agg #[.int .i64 A.k, .slice (some ⟨g, 0, none⟩) A.nx.length gc, .slice ba A.ac.length bc], .agg #[.int .i64 A.k, .slice an A.nx.length cn, .slice aa A.ac.length ca]] y fun e w' => e = .returned (.bool true) ∧ Below y.heap.size y w') := fun y hy =>
    stay8_any A y _ (HAR.out y (go_on HBW.out hy)) _ g gc ba bc (by omega) (by omega) (own_below (own_below HI1.out hWb) hy) (((own_sr HBO.out).stay hWb).stay hy)
  have hn1 : A.nx.length ≤ 9223372036854775806 := by omega
  have hn2 : A.ac.length ≤ 9223372036854775806 := by omega
  clear hW hWb RX HRA
  go_wp2_with fail
  rw [← HWE.out]
  refine (run_any _ A _ (HX.out _ (Below.refl _ _)) hn1 hn2 s b hz2).mono ?_
  rintro e w2 ⟨rfl, hb2⟩
  have HB2 : Hid (Below W.heap.size W w2) := hb2
  have cs2 := (HRAW.out.stay hb2).cell
  obtain ⟨rv, hrv⟩ : ∃ rv, runV A s b = rv := ⟨_, rfl⟩
  obtain ⟨re, hre⟩ : ∃ re, runE A s b = re := ⟨_, rfl⟩
  rw [hrv, hre]
  have HRV : Hid (runV A s b = rv ∧ runE A s b = re) := ⟨hrv, hre⟩
  clear hb2 hrv hre
  go_wp2_with fail
  refine (rrun_any _ A _ (HAR.out _ (go_on HBW.out HB2.out)) hn1 hn2 s b HZ.out).mono ?_
  rintro e w3 ⟨rfl, hb3⟩
  rw [HRV.out.1, HRV.out.2]
  have HB3 : Hid (Below W.heap.size W w3) := go_on HB2.out hb3
  have cs3 := (HRX.out.stay HB3.out).cell
  clear hb3 cs2
  go_wp2_with fail
  refine (accepts_any _ A _ (HX.out _ HB3.out) hn1 hn2 b hz2).mono ?_
  rintro e w4 ⟨rfl, hb4⟩
  have HB4 : Hid (Below W.heap.size W w4) := go_on HB3.out hb4
  have cs4 := (HRAW.out.stay HB4.out).cell
  obtain ⟨av, hav⟩ : ∃ av, accV A b = av := ⟨_, rfl⟩
  obtain ⟨ae, hae⟩ : ∃ ae, cwE A b = ae := ⟨_, rfl⟩
  rw [hav, hae]
  have HAV : Hid (accV A b = av ∧ cwE A b = ae) := ⟨hav, hae⟩
  clear hb4 hav hae cs3
  go_wp2_with fail
  refine (raccepts_any _ A _ (HAR.out _ (go_on HBW.out HB4.out)) hn1 hn2 b HZ.out).mono ?_
  rintro e w5 ⟨rfl, hb5⟩
  rw [HAV.out.1, HAV.out.2]
  have HB5 : Hid (Below W.heap.size W w5) := go_on HB4.out hb5
  have HRA5 := HRAW.out.stay HB5.out
  have HRX5 := HRX.out.stay HB5.out
  obtain ⟨ck, hck⟩ : ∃ ck, chkA A = ck := ⟨_, rfl⟩
  have HCK : Hid (chkA A = ck) := hck
  have S0 : SB2 w5 w.heap.size w1.heap.size #[.int .i64 A.k, .slice an A.nx.length cn, .slice aa A.ac.length ca] #[.int .i64 A.k, .slice (some ⟨g, 0, none⟩) A.nx.length gc, .slice ba A.ac.length bc] w5.drew := sb2_of HRA5 HRX5 (Below.refl _ _).drew
  clear hb5 cs4 hck HRV HAV
  go_wp2_with fail
  go_region_held3 (fun y => SB2 w5 w.heap.size w1.heap.size #[.int .i64 A.k, .slice an A.nx.length cn, .slice aa A.ac.length ca] #[.int .i64 A.k, .slice (some ⟨g, 0, none⟩) A.nx.length gc, .slice ba A.ac.length bc] y) (first | exact S0 | assumption | exact sb2_step HRA5 HRX5 (by assumption) (by assumption)) (first
    | (go_at_call 13; refine (acheck_any _ A _ (HX.out _ (go_on HB5.out (And.right (And.right (by assumption))))) hn1 hn2).mono ?_; rintro e y1 ⟨rfl, hy1⟩; rw [HCK.out])
    | (go_at_call 14; refine (racheck_any _ A _ (HAR.out _ (go_on (go_on HBW.out HB5.out) (And.right (And.right (by assumption))))) hn1 hn2).mono ?_; rintro e y2 ⟨rfl, hy2⟩; rw [HCK.out])
    | (go_at_call 12; refine (num8_any _ _).mono ?_; rintro e y3 ⟨rfl, rfl⟩)
    | (go_at_call 15; refine (HSTY.out _ (go_on HB5.out (And.right (And.right (by assumption))))).mono ?_; rintro e y4 ⟨rfl, hy4⟩)
    | (go_at_call 16; refine (live8_any _).mono ?_; rintro e y5 ⟨rfl, hy5⟩))
  all_goals (
    have hS : SB2 w5 w.heap.size w1.heap.size #[.int .i64 A.k, .slice an A.nx.length cn, .slice aa A.ac.length ca] #[.int .i64 A.k, .slice (some ⟨g, 0, none⟩) A.nx.length gc, .slice ba A.ac.length bc] y5 := by first | assumption | exact sb2_step HRA5 HRX5 (by assumption) (by assumption)
    have HBY : Hid (Below w.heap.size w y5) := go_on (go_on HBW.out HB5.out) hS.2.2
    clear hS S0
    go_wp2_with fail
    go_ret
    exact ⟨rfl, HBY.out⟩)

/-! ### The row's step -/
theorem own : ownKnob Try.prog.godebug = none := by kernel_rfl
set_option maxRecDepth 100000 in
theorem lifted (os : Os) (started : os.Started) (H : Type) (enc : TypeId × Value → H) :
    ReturnsInHanded {} Try.checked os 3 .any (Rows.autoRunsSpec.pre6 enc Try.prog Try.f3 Rows.autoRunsRow.domain false) (Rows.autoRunsSpec.post enc Try.prog Try.f3 false true false false) := by
  refine returnsInHanded_of_change_sized (C := Try.checked) own started (by kernel_rfl) Try.func3
    (ChangeSpec.witness6 (enc := enc) (C := Try.checked) false ⟨#[], #[.agg #[.int .i64 0, .slice none 0 0, .slice none 0 0], .int .i64 0, .string ByteArray.empty], []⟩ 8 (by kernel_rfl) (by kernel_rfl) (by kernel_rfl) (by kernel_rfl)) ?_
  intro W base args ds gs before hval0 hW hcnd hsz0 _
  have hval : ∀ (j : Nat) t v, Try.f3.params[j]? = some t → args[j]? = some v → Value.okWide Try.prog W .any base t v := hval0
  clear hval0
  have hsz : (DataW.weightsEach Try.prog (Try.f3.params.toList ++ Rows.autoRunsSpec.plain.varTypes Try.prog) (ds ++ gs)).all (· ≤ reachBytes) = true := hsz0
  clear hsz0
  have hW' := hW
  obtain ⟨p, q, hA0, hV, rfl, hfz, hnd⟩ := hW
  have hA : DataW.TrodAll enc Try.prog W 0 (fun _ => true) true Try.f3.params.toList args.toList ds p := hA0
  rw [Try.params3] at hA hval hsz
  obtain ⟨v0, vs0, d0, ds0, p0, q0, hargs, rfl, rfl, h0, r0⟩ := trodAll_cons hA
  obtain ⟨v1, vs1, d1, ds1, p1, q1, rfl, rfl, rfl, h1, r1⟩ := trodAll_cons r0
  obtain ⟨v2, vs2, d2, ds2, p2, q2, rfl, rfl, rfl, h2, r2⟩ := trodAll_cons r1
  obtain ⟨rfl, rfl, rfl⟩ := trodAll_nil r2
  obtain rfl : args = #[v0, v1, v2] := by cases args; simp_all
  obtain ⟨rfl, rfl⟩ := trodVars_none hV
  obtain ⟨a0, x0, n0, w0, dk0, dn0, da0, e0, y0, z0⟩ := open_auto (hval 0 25 v0 rfl rfl) h0
  have b0 := auto_bounds hsz (j := 0) rfl (by rw [e0]; rfl) y0 z0
  have g0 : ∀ x ∈ p0, x.block < W.heap.size := fun x hx => hW'.lt x (by simp [hx])
  obtain ⟨a1, rfl, rfl, rfl, w1⟩ := open_int Try.underlying3 (hval 1 3 v1 rfl rfl) h1
  obtain ⟨a2, rfl, rfl, rfl, w2⟩ := open_string Try.underlying9 (hval 2 9 v2 rfl rfl) h2
  clear hA0
  refine (walk v0 a0 a1 a2 W x0 n0 b0.1 b0.2  w2).mono fun e W' ⟨he, bel⟩ => ?_
  subst he
  exact ⟨_, rfl, _, _, _, [], _, [], hW', trodAll_mk1 (shut_bool Try.underlying4 _), (trodAll_cons_mk (Below.trod Try.laidOut (by kernel_rfl) (of_decide_eq_true (by kernel_rfl)) h0 bel g0) (trodAll_cons_mk (shut_int Try.underlying3 w1) (trodAll_cons_mk (shut_string Try.underlying9 w2) trodAll_mk0))), rfl, bel.frame _, fun h => by cases h⟩

theorem over : Rows.autoRunsRow.holds Try.pinned (OpenSpec.ofChange Rows.autoRunsSpec) :=
  OpenClaim.holds_of_wide 3 Try.f3 rfl rfl rfl rfl rfl rfl rfl ⟨rfl, rfl, rfl, rfl, rfl⟩ rfl rfl rfl rfl rfl (by kernel_rfl) Try.func3 (by kernel_rfl)
    (of_decide_eq_true (by kernel_rfl)) (by unfold Func.isWrapper; first | (rw [if_pos (by decide +kernel)]; kernel_rfl) | (rw [if_neg (by decide +kernel)]; exact ⟨rfl, rfl⟩))
    (fun os started H enc _ => lifted os started H enc)

end Go.Proofs.Ytpaadopmmpdodaa.autoRuns
namespace Go.Proofs.Ytpaadopmmpdodaa
/-- The given statement. -/
theorem autoRuns_holds : Rows.AutoRunsSaid := autoRuns.over
end Go.Proofs.Ytpaadopmmpdodaa
