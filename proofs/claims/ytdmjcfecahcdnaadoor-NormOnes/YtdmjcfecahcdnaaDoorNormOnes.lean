/- Proved: the card of eggboxlaw05.NormOnes: it answers true at every list of nodes (P503), with tree.partsOf as the program's text lays it: norm.Star and norm.Not answer what the document's answer, ErrSize among it, leave what they were handed as it was, and what they answer is the caller's own. -/
import Derived.Test.YtdmjcfecahcdnaaDoorUe
import Derived.Test.YtdmjcfecahcdnaaDoorXu
import Derived.Test.YtdmjcfecahcdnaaDoorTn
import Derived.LaidMore
import Derived.Stop.Joined
import Derived.Lib.LaidTab
import Derived.SevenTiedAt
import Derived.ShutString
import Derived.ChangeMaps5
import Derived.Test.YtdmjcfecahcdnaaDoorTie
import Derived.Test.YtdmjcfecahcdnaaDoorCards
namespace Go.Proofs.YtdmjcfecahcdnaaDoor.normOnes
open Go.ChangeShapes Go.WideShapes Go.ChangeAt Go.RowKit
open Go.ChangeMaps (open_string shut_string)
set_option linter.unusedVariables false

set_option maxHeartbeats 16000000 in
set_option maxRecDepth 100000 in
theorem walk (v : Value) (ts : List Nd) (w : World) (hv : NReads w v ts) (hx : (∀ c, v = .slice none 0 c → c = 0) ∧ ∀ a n c, v = .slice a n c → n ≤ c) (hl : (ts.length + 2) * 16 ≤ 140737488355328) (hP : PTab w) :
    Calls Tryd.prog 5 #[v] w fun e w' => e = .returned (.bool true) ∧ Below w.heap.size w w' := by
  have HV : Hid (NReads w v ts) := hv
  have HP : Hid (PTab w) := hP
  have HX : Hid ((∀ c, v = .slice none 0 c → c = 0) ∧ ∀ a n c, v = .slice a n c → n ≤ c) := hx
  obtain ⟨av, cv, rfl, _⟩ := hv
  have hcv : ts.length ≤ cv := hx.2 _ _ _ rfl
  obtain ⟨E, R, hN⟩ := one_ex 8 ts
  obtain ⟨E2, R2', hN2⟩ := one_ex 9 ts
  have HN : Hid (OneR 8 ts E R) := hN
  have HN2 : Hid (OneR 9 ts E2 R2') := hN2
  have h4hN : R.length ≤ 4000 := by
    rcases hN with ⟨h0, rfl, rfl⟩ | ⟨T, ho, rfl, h0, hF⟩
    · simp
    · rcases hF with ⟨_, rfl, rfl⟩ | ⟨h, rfl, rfl⟩
      · simp
      · exact h
  have h4hN2 : R2'.length ≤ 4000 := by
    rcases hN2 with ⟨h0, rfl, rfl⟩ | ⟨T, ho, rfl, h0, hF⟩
    · simp
    · rcases hF with ⟨_, rfl, rfl⟩ | ⟨h, rfl, rfl⟩
      · simp
      · exact h
  clear hP hx hN hN2
  go_enter Tryd.func5, Tryd.ntmps5
  go_wp2_with fail
  refine (lent_any _ ts _ HV.out HX.out.1 hl).mono ?_
  rintro e w1 ⟨g, cap, rfl, ho, hb⟩
  have hww := hb.size
  have hg1 : g < w1.heap.size := (lent_reads ho).2.1
  have HB1 : Hid (Below w.heap.size w w1) := hb
  have hs1 := hb.size
  have HO1 : Hid (w1.ownsRow w.heap.size 52 2 (.slice (some ⟨g, 0, none⟩) (ts.length + 2) cap) (ts.length + 2) (ndC (ts ++ [(-7, 0), (-8, 0)]))) := ho
  clear hb ho
  go_wp2_with fail
  refine (starN_jn HN.out _ _ (lent_reads HO1.out).1 (by omega) (HP.out.stay HB1.out)).mono ?_
  rintro e w2 ⟨u, rfl, ho, hb⟩
  obtain ⟨aa, ac, rfl⟩ := own_shape ho
  have HB2 : Hid (Below w.heap.size w w2) := go_on HB1.out hb
  have hs2 := hb.size
  have HO2 : Hid (w2.ownsRow w.heap.size 52 2 (.slice (some ⟨g, 0, none⟩) (ts.length + 2) cap) (ts.length + 2) (ndC (ts ++ [(-7, 0), (-8, 0)]))) := own_below HO1.out hb
  have HA2 : Hid (w2.ownsRow w1.heap.size 52 2 (.slice aa R.length ac) R.length (ndC R)) := ho
  clear hb ho HO1
  have HAB : Hid (∀ b, (Value.slice aa R.length ac).ownBlock = some b → b < w2.heap.size) := fun b hb => (HA2.out.lt b hb).2
  go_wp2_with fail
  refine (notN_jn HN2.out _ _ (lent_reads HO2.out).1 (by omega) (HP.out.stay HB2.out)).mono ?_
  rintro e w3 ⟨u, rfl, ho, hb⟩
  obtain ⟨ra, rc, rfl⟩ := own_shape ho
  have HB3 : Hid (Below w.heap.size w w3) := go_on HB2.out hb
  have hs3 := hb.size
  have HO3 : Hid (w3.ownsRow w.heap.size 52 2 (.slice (some ⟨g, 0, none⟩) (ts.length + 2) cap) (ts.length + 2) (ndC (ts ++ [(-7, 0), (-8, 0)]))) := own_below HO2.out hb
  have HA3 : Hid (w3.ownsRow w1.heap.size 52 2 (.slice aa R.length ac) R.length (ndC R)) := own_below HA2.out hb
  have HR3 : Hid (w3.ownsRow w2.heap.size 52 2 (.slice ra R2'.length rc) R2'.length (ndC R2')) := ho
  clear hb ho HO2 HA2 HB2
  go_wp2_with fail
  refine (rone8_jn HN.out _ _ _ (HV.out.stay HB3.out) (by omega) hcv).mono ?_
  rintro e w4 ⟨u, rfl, ho, hb⟩
  obtain ⟨ca, cc, rfl⟩ := own_shape ho
  have HB4 : Hid (Below w.heap.size w w4) := go_on HB3.out hb
  have hs4 := hb.size
  have HO4 : Hid (w4.ownsRow w.heap.size 52 2 (.slice (some ⟨g, 0, none⟩) (ts.length + 2) cap) (ts.length + 2) (ndC (ts ++ [(-7, 0), (-8, 0)]))) := own_below HO3.out hb
  have HA4 : Hid (w4.ownsRow w1.heap.size 52 2 (.slice aa R.length ac) R.length (ndC R)) := own_below HA3.out hb
  have HR4 : Hid (w4.ownsRow w2.heap.size 52 2 (.slice ra R2'.length rc) R2'.length (ndC R2')) := own_below HR3.out hb
  have HC4 : Hid (w4.ownsRow w3.heap.size 52 2 (.slice ca R.length cc) R.length (ndC R)) := ho
  clear hb ho HO3 HA3 HR3 HB3
  go_wp2_with fail
  refine (rone9_jn HN2.out _ _ _ (HV.out.stay HB4.out) (by omega) hcv).mono ?_
  rintro e w5 ⟨u, rfl, ho, hb⟩
  obtain ⟨da, dc, rfl⟩ := own_shape ho
  have HB5 : Hid (Below w.heap.size w w5) := go_on HB4.out hb
  have hs5 := hb.size
  have HO5 : Hid (w5.ownsRow w.heap.size 52 2 (.slice (some ⟨g, 0, none⟩) (ts.length + 2) cap) (ts.length + 2) (ndC (ts ++ [(-7, 0), (-8, 0)]))) := own_below HO4.out hb
  have HA5 : Hid (w5.ownsRow w1.heap.size 52 2 (.slice aa R.length ac) R.length (ndC R)) := own_below HA4.out hb
  have HR5 : Hid (w5.ownsRow w2.heap.size 52 2 (.slice ra R2'.length rc) R2'.length (ndC R2')) := own_below HR4.out hb
  have HC5 : Hid (w5.ownsRow w3.heap.size 52 2 (.slice ca R.length cc) R.length (ndC R)) := own_below HC4.out hb
  have HD5 : Hid (w5.ownsRow w4.heap.size 52 2 (.slice da R2'.length dc) R2'.length (ndC R2')) := ho
  clear hb ho HO4 HA4 HR4 HC4 HB4
  go_wp2_with fail
  refine (num5_any _ _).mono ?_
  rintro e wp ⟨rfl, rfl⟩
  go_wp2_with fail
  refine (num5_any _ _).mono ?_
  rintro e wp ⟨rfl, rfl⟩
  go_wp2_with fail
  refine (stay_any _ ts _ (HV.out.stay HB5.out) _ g cap (by omega) HO5.out).mono ?_
  rintro e w6 ⟨rfl, hb⟩
  have HB6 : Hid (Below w.heap.size w w6) := go_on HB5.out hb
  have hs6 := hb.size
  have HO6 : Hid (w6.ownsRow w.heap.size 52 2 (.slice (some ⟨g, 0, none⟩) (ts.length + 2) cap) (ts.length + 2) (ndC (ts ++ [(-7, 0), (-8, 0)]))) := own_below HO5.out hb
  have HA6 : Hid (w6.ownsRow w1.heap.size 52 2 (.slice aa R.length ac) R.length (ndC R)) := own_below HA5.out hb
  have HR6 : Hid (w6.ownsRow w2.heap.size 52 2 (.slice ra R2'.length rc) R2'.length (ndC R2')) := own_below HR5.out hb
  have HC6 : Hid (w6.ownsRow w3.heap.size 52 2 (.slice ca R.length cc) R.length (ndC R)) := own_below HC5.out hb
  have HD6 : Hid (w6.ownsRow w4.heap.size 52 2 (.slice da R2'.length dc) R2'.length (ndC R2')) := own_below HD5.out hb
  clear hb HO5 HA5 HR5 HC5 HD5 HB5
  go_wp2_with fail
  refine (knows5_any _ (HP.out.stay HB6.out)).mono ?_
  rintro e w7 ⟨rfl, hb⟩
  have HB7 : Hid (Below w.heap.size w w7) := go_on HB6.out hb
  have hs7 := hb.size
  have HO7 : Hid (w7.ownsRow w.heap.size 52 2 (.slice (some ⟨g, 0, none⟩) (ts.length + 2) cap) (ts.length + 2) (ndC (ts ++ [(-7, 0), (-8, 0)]))) := own_below HO6.out hb
  have HA7 : Hid (w7.ownsRow w1.heap.size 52 2 (.slice aa R.length ac) R.length (ndC R)) := own_below HA6.out hb
  have HR7 : Hid (w7.ownsRow w2.heap.size 52 2 (.slice ra R2'.length rc) R2'.length (ndC R2')) := own_below HR6.out hb
  have HC7 : Hid (w7.ownsRow w3.heap.size 52 2 (.slice ca R.length cc) R.length (ndC R)) := own_below HC6.out hb
  have HD7 : Hid (w7.ownsRow w4.heap.size 52 2 (.slice da R2'.length dc) R2'.length (ndC R2')) := own_below HD6.out hb
  clear hb HO6 HA6 HR6 HC6 HD6 HB6
  go_wp2_with fail
  refine (spoil_any w.heap.size g (ts.length + 2) ts.length cap (ts ++ [(-7, 0), (-8, 0)]) _ HO7.out (by simp) (by omega) (by omega) cap).mono ?_
  rintro e w8 ⟨rfl, hg⟩
  have hgb8 := HO7.out.lt g rfl
  have HB8 : Hid (Below w.heap.size w w8) := HB7.out.grown hg HB7.out.size (fun k hk => by simp only [Option.some.injEq] at hk; omega)
  have hs8 := hg.size
  have HA8 : Hid (w8.ownsRow w1.heap.size 52 2 (.slice aa R.length ac) R.length (ndC R)) := own_of_heap HA7.out (fun b hb => hg.block b (HA7.out.lt b hb).2 (fun e => by simp only [Option.some.injEq] at e; have x := (HA7.out.lt b hb).1; have y := hg1; omega))
  have HR8 : Hid (w8.ownsRow w2.heap.size 52 2 (.slice ra R2'.length rc) R2'.length (ndC R2')) := own_of_heap HR7.out (fun b hb => hg.block b (HR7.out.lt b hb).2 (fun e => by simp only [Option.some.injEq] at e; have x := (HR7.out.lt b hb).1; have y := hg1; omega))
  have HC8 : Hid (w8.ownsRow w3.heap.size 52 2 (.slice ca R.length cc) R.length (ndC R)) := own_of_heap HC7.out (fun b hb => hg.block b (HC7.out.lt b hb).2 (fun e => by simp only [Option.some.injEq] at e; have x := (HC7.out.lt b hb).1; have y := hg1; omega))
  have HD8 : Hid (w8.ownsRow w4.heap.size 52 2 (.slice da R2'.length dc) R2'.length (ndC R2')) := own_of_heap HD7.out (fun b hb => hg.block b (HD7.out.lt b hb).2 (fun e => by simp only [Option.some.injEq] at e; have x := (HD7.out.lt b hb).1; have y := hg1; omega))
  clear hg HO7 HA7 HR7 HC7 HD7 HB7
  go_wp2_with fail
  refine (same_any _ _ R R _ (own_nreads HA8.out) (own_nreads HC8.out) (by omega)).mono ?_
  rintro e w9 ⟨rfl, hb⟩
  rw [decide_eq_true (Eq.refl R)]
  have HB9 : Hid (Below w.heap.size w w9) := go_on HB8.out hb
  have hs9 := hb.size
  have HA9 : Hid (w9.ownsRow w1.heap.size 52 2 (.slice aa R.length ac) R.length (ndC R)) := own_below HA8.out hb
  have HR9 : Hid (w9.ownsRow w2.heap.size 52 2 (.slice ra R2'.length rc) R2'.length (ndC R2')) := own_below HR8.out hb
  have HC9 : Hid (w9.ownsRow w3.heap.size 52 2 (.slice ca R.length cc) R.length (ndC R)) := own_below HC8.out hb
  have HD9 : Hid (w9.ownsRow w4.heap.size 52 2 (.slice da R2'.length dc) R2'.length (ndC R2')) := own_below HD8.out hb
  clear hb HA8 HR8 HC8 HD8 HB8
  go_wp2_with fail
  refine (same_any _ _ R2' R2' _ (own_nreads HR9.out) (own_nreads HD9.out) (by omega)).mono ?_
  rintro e w10 ⟨rfl, hb⟩
  rw [decide_eq_true (Eq.refl R2')]
  have HB10 : Hid (Below w.heap.size w w10) := go_on HB9.out hb
  have hs10 := hb.size
  have HA10 : Hid (w10.ownsRow w1.heap.size 52 2 (.slice aa R.length ac) R.length (ndC R)) := own_below HA9.out hb
  have HR10 : Hid (w10.ownsRow w2.heap.size 52 2 (.slice ra R2'.length rc) R2'.length (ndC R2')) := own_below HR9.out hb
  have HC10 : Hid (w10.ownsRow w3.heap.size 52 2 (.slice ca R.length cc) R.length (ndC R)) := own_below HC9.out hb
  have HD10 : Hid (w10.ownsRow w4.heap.size 52 2 (.slice da R2'.length dc) R2'.length (ndC R2')) := own_below HD9.out hb
  clear hb HA9 HR9 HC9 HD9 HB9
  go_wp2_with fail
  have hTold : Told (w10.alloc (.cells #[.slice aa R.length ac, .slice ra R2'.length rc] 22)) w1.heap.size w10.heap.size [.slice aa R.length ac, .slice ra R2'.length rc] [R, R2'] := by
    refine ⟨rfl, heap_alloc_new w10 _, by omega, fun j hj => ?_, fun j j2 hj hj2 hne b hb hb2 => ?_⟩
    · have hj : j < 2 := hj
      have hc : j = 0 ∨ j = 1 := by omega
      rcases hc with rfl | rfl
      · exact own_mono (HA10.out.alloc _) (by omega)
      · exact own_mono (HR10.out.alloc _) (by omega)
    · have hj : j < 2 := hj
      have hj2 : j2 < 2 := hj2
      have hc : (j = 0 ∧ j2 = 1) ∨ (j = 1 ∧ j2 = 0) := by omega
      rcases hc with ⟨rfl, rfl⟩ | ⟨rfl, rfl⟩
      · have x := HAB.out b hb; have y := (HR10.out.lt b hb2).1; omega
      · have x := HAB.out b hb2; have y := (HR10.out.lt b hb).1; omega
  have HBl : Hid (Below w.heap.size w (w10.alloc (.cells #[.slice aa R.length ac, .slice ra R2'.length rc] 22))) := HB10.out.alloc HB10.out.size _
  refine (apart_told hTold 2 (by simp; omega) (by simp) (by simp) (fun j hj => by
    have hj : j < 2 := hj
    have hc : j = 0 ∨ j = 1 := by omega
    rcases hc with rfl | rfl
    · show R.length ≤ 1048576; omega
    · show R2'.length ≤ 1048576; omega)).mono ?_
  rintro e wz ⟨rfl, hbz⟩
  have HBZ : Hid (Below w.heap.size w wz) := HBl.out.trans (hbz.mono hww)
  clear hbz hTold
  go_wp2_with fail
  go_ret
  exact ⟨rfl, HBZ.out⟩

/-! ### The row's step -/
theorem own : ownKnob Tryd.prog.godebug = none := by kernel_rfl
def laid1 : List (String × DataW Unit) := [("eggbox/tree.partsOf", Rows.laid_eggbox_tree_partsOf)]
def tabZ : List Int := [0, 0, 0, 0, 0, 2, 2, 2, 1, 1]
theorem gTab : Tryd.prog.globalNamed "eggbox/tree.partsOf" = some 0 := by kernel_rfl
theorem tTab : (Tryd.prog.globals[0]?).map (·.type) = some 104 := by kernel_rfl
theorem of_laid {W : World} (h : laidMetH Tryd.prog laid1 W) : PTab W := by
  rw [MakeChecks.laidMetH_plain _ _ _ (by kernel_rfl)] at h
  have ht : Lib.TabIs Tryd.prog W "eggbox/tree.partsOf" .i64 tabZ :=
    Lib.tabIs_of_head (rest := []) gTab tTab Tryd.underlying104 Tryd.underlying3 (by kernel_rfl) (by kernel_rfl) h
  intro j hj
  have := ht.cell gTab j hj
  rw [this]
  have hc : j = 0 ∨ j = 1 ∨ j = 2 ∨ j = 3 ∨ j = 4 ∨ j = 5 ∨ j = 6 ∨ j = 7 ∨ j = 8 ∨ j = 9 := by omega
  rcases hc with rfl | rfl | rfl | rfl | rfl | rfl | rfl | rfl | rfl | rfl <;> rfl
/-- The door's own heap meets the condition. -/
theorem door_met (os : Os) (args : Array Value) : laidMetH Tryd.prog laid1 ((World.doorLaid Tryd.prog 400 os).forCall (fun _ _ => 0) ⟨#[], args, []⟩).memory :=
  laidMetH_of_parts3 (fuel := 8) (laidMet_of_run' 8 (by kernel_rfl) (by kernel_rfl)) (by kernel_rfl) (by kernel_rfl)

set_option maxRecDepth 100000 in
theorem lifted (os : Os) (started : os.Started) (H : Type) (enc : TypeId × Value → H) :
    ReturnsInHanded {} Tryd.checked os 5 .any (fun w args => (Rows.normOnesSpec.pre enc Tryd.prog Tryd.f5 [] false w args ∧ laidMetH Tryd.prog laid1 w) ∧ sizedMet enc Tryd.prog Tryd.f5 (OpenSpec.ofChange Rows.normOnesSpec) false w args)
      (Rows.normOnesSpec.post enc Tryd.prog Tryd.f5 false true false false) := by
  refine returnsInHanded_of_change_and (C := Tryd.checked) (X := fun w _ => laidMetH Tryd.prog laid1 w) (fun _ _ _ hh h => h.of_heap hh) own started (by kernel_rfl) Tryd.func5
    (ChangeSpec.witness_shaped (enc := enc) (C := Tryd.checked) (os := os) (X := fun w _ => laidMetH Tryd.prog laid1 w) false (World.doorLaid Tryd.prog 400 os) #[.slice none 0 0] 8 rfl (World.shaped_of_RefB (by kernel_rfl) (by kernel_rfl)) (by kernel_rfl) (by kernel_rfl) (by kernel_rfl) (door_met os _)) ?_
  intro W base args ds gs before hval0 hW _ hsz0 hL _
  have hval : ∀ (j : Nat) t v, Tryd.f5.params[j]? = some t → args[j]? = some v → Value.okWide Tryd.prog W .any base t v := hval0
  have hW' := hW
  obtain ⟨p, q, hA0, hV, rfl, hfz, hnd⟩ := hW
  have hA : DataW.TrodAll enc Tryd.prog W 0 (fun _ => true) true Tryd.f5.params.toList args.toList ds p := hA0
  have hsz : (DataW.weightsEach Tryd.prog (Tryd.f5.params.toList ++ Rows.normOnesSpec.plain.varTypes Tryd.prog) (ds ++ gs)).all (· ≤ reachBytes) = true := hsz0
  rw [Tryd.params5] at hA hval hsz
  obtain ⟨v0, vs0, d0, ds0, p0, q0, hargs, rfl, rfl, h0, r0⟩ := trodAll_cons hA
  obtain ⟨rfl, rfl, rfl⟩ := trodAll_nil r0
  obtain rfl : args = #[v0] := by cases args; simp_all
  obtain ⟨rfl, rfl⟩ := trodVars_none hV
  obtain ⟨a0, w0, x0, y0⟩ := open_nodes (hval 0 22 v0 rfl rfl) h0
  have s0 : (a0.length + 2) * 16 ≤ 140737488355328 := by
    rcases y0 with ⟨_, rfl⟩ | ⟨e, s, rfl, hy⟩
    · decide
    · have := sized_slice hsz (j := 0) (t := 22) rfl rfl Tryd.underlying22
      rw [Tryd.bytes_node] at this
      simp only [reachBytes] at this
      omega
  have z0 : a0.length ≤ 9223372036854775806 := by omega
  have g0 : ∀ x ∈ p0, x.block < W.heap.size := fun x hx => hW'.lt x (by simp [hx])
  have hTz := of_laid hL
  clear hA0 hval0
  refine (walk v0 a0 W w0 x0 s0 hTz).mono fun e W' ⟨he, bel⟩ => ?_
  subst he
  exact ⟨_, rfl, _, _, _, [], _, [], hW', trodAll_mk1 (shut_bool Tryd.underlying4 _), (trodAll_cons_mk (Below.trod Tryd.laidOut (by kernel_rfl) (of_decide_eq_true (by kernel_rfl)) h0 bel g0) trodAll_mk0), rfl, bel.frame _, fun h => by cases h⟩

theorem over : Rows.NormOnesSaid :=
  OpenClaim.holds_of_wide 5 Tryd.f5 rfl rfl rfl rfl rfl rfl rfl ⟨rfl, rfl, rfl, rfl, rfl⟩ rfl rfl rfl rfl rfl (by kernel_rfl) Tryd.func5 (by kernel_rfl)
    (of_decide_eq_true (by kernel_rfl)) (by unfold Func.isWrapper; first | (rw [if_pos (by decide +kernel)]; kernel_rfl) | (rw [if_neg (by decide +kernel)]; exact ⟨rfl, rfl⟩))
    (fun os started H enc _ => lifted os started H enc)

theorem card : Rows.NormOnesCardSaid :=
  Claim7.holds_tied_plain_at .later [] [.data] true (true, "b414daad54b9d0b08494abd64e408f62d117ebfe8175e1cfde69e226fd2cc268") false
    over (fun _ h => by cases h) (by kernel_rfl) (fun _ h => by cases h) normOnes_row_tie rfl ⟨rfl, rfl⟩ (by kernel_rfl) rfl
    (fun f fn hf hfn => by
      obtain rfl : f = 5 := Option.some.inj ((show Tryd.prog.funcNamed "eggbox/eggboxlaw05.NormOnes" = some 5 by kernel_rfl).symm.trans hf) |>.symm
      obtain rfl : fn = Tryd.f5 := (Option.some.inj (Tryd.func5.symm.trans hfn)).symm
      exact ⟨by kernel_rfl, fun j t ht => by
        rw [Tryd.params5] at ht
        have hm : t ∈ [22] := by simpa using Array.mem_of_getElem? ht
        have hall : ([22].all fun u => !Tryd.prog.wantsStandIn u) = true := by kernel_rfl
        exact (show Tryd.prog.wantsStandIn t = false by simpa using List.all_eq_true.1 hall t hm)⟩)
    (by kernel_rfl)

end Go.Proofs.YtdmjcfecahcdnaaDoor.normOnes
namespace Go.Proofs.YtdmjcfecahcdnaaDoor
/-- The given statement. -/
theorem normOnes_holds : Rows.NormOnesCardSaid := normOnes.card
end Go.Proofs.YtdmjcfecahcdnaaDoor
