/- Proved: the card of eggboxlaw03.TreeTurns: it answers true at every list of nodes and every text (P306), with tree.partsOf as the program's text lays it: tree.Reverse and tree.Rename answer what the document's answer, leave what they were handed as it was, and what they answer is the caller's own. -/
import Derived.Test.YtchaggigabccaaaDoorQb
import Derived.Test.YtchaggigabccaaaDoorTl
import Derived.Test.YtchaggigabccaaaDoorTn
import Derived.LaidMore
import Derived.Stop.Joined
import Derived.Lib.LaidTab
import Derived.SevenTiedAt
import Derived.ShutString
import Derived.ChangeMaps5
import Derived.Test.YtchaggigabccaaaDoorTie
import Derived.Test.YtchaggigabccaaaDoorCards
namespace Go.Proofs.YtchaggigabccaaaDoor.treeTurns
open Go.ChangeShapes Go.WideShapes Go.ChangeAt Go.RowKit
open Go.ChangeMaps (open_string shut_string)
set_option linter.unusedVariables false

theorem turn_len (ts : List Nd) : (revT ts).length ≤ 4000 := by
  by_cases h : wrong ts = 0
  · obtain ⟨t, _, h2, h3⟩ := revT_good h
    rw [h3, Tr.rev_len, h2]
    exact (wrong_len h).1
  · rw [revT_bad h]; simp
theorem ren_len (s : ByteArray) (ts : List Nd) : (renT s ts).length ≤ 4000 := by
  unfold renT
  by_cases h : renE s ts = 0
  · rw [if_pos h, List.length_map]
    unfold renE at h
    by_cases h0 : wrong ts = 0
    · exact (wrong_len h0).1
    · rw [if_pos h0] at h; exact absurd h h0
  · rw [if_neg h]; simp
theorem turn_case (ts : List Nd) : (wrong ts ≠ 0 ∧ revT ts = []) ∨ (wrong ts = 0 ∧ ∃ t : Tr, t.ok ∧ t.flat = ts ∧ revT ts = t.rev.flat) := by
  by_cases h : wrong ts = 0
  · exact .inr ⟨h, revT_good h⟩
  · exact .inl ⟨h, revT_bad h⟩

set_option maxHeartbeats 16000000 in
set_option maxRecDepth 100000 in
theorem walk (v : Value) (ts : List Nd) (s : ByteArray) (w : World) (hv : NReads w v ts) (hx : (∀ c, v = .slice none 0 c → c = 0) ∧ ∀ a n c, v = .slice a n c → n ≤ c) (hl : (ts.length + 2) * 16 ≤ 140737488355328) (hs : s.size ≤ maxLen) (hP : PTab w) :
    Calls Tryd.prog 7 #[v, .string s] w fun e w' => e = .returned (.bool true) ∧ Below w.heap.size w w' := by
  have HV : Hid (NReads w v ts) := hv
  have HP : Hid (PTab w) := hP
  have HX : Hid ((∀ c, v = .slice none 0 c → c = 0) ∧ ∀ a n c, v = .slice a n c → n ≤ c) := hx
  have hA4 := turn_len ts
  have hB4 := ren_len s ts
  obtain ⟨av, cv, rfl, _⟩ := hv
  obtain ⟨A, hA⟩ : ∃ A, revT ts = A := ⟨_, rfl⟩
  obtain ⟨B, hB⟩ : ∃ B, renT s ts = B := ⟨_, rfl⟩
  obtain ⟨x, hxx⟩ : ∃ x, wrong ts = x := ⟨_, rfl⟩
  obtain ⟨y, hyy⟩ : ∃ y, renE s ts = y := ⟨_, rfl⟩
  have HQ : Hid (revT ts = A ∧ renT s ts = B ∧ wrong ts = x ∧ renE s ts = y) := ⟨hA, hB, hxx, hyy⟩
  rw [hA] at hA4
  rw [hB] at hB4
  clear hP hx hA hB hxx hyy
  go_enter Tryd.func7, Tryd.ntmps7
  go_wp2_with fail
  refine (lent_any _ ts _ HV.out HX.out.1 hl).mono ?_
  rintro e w1 ⟨g, cap, rfl, ho, hb1⟩
  have HO1 : Hid (w1.ownsRow w.heap.size 36 2 (.slice (some ⟨g, 0, none⟩) (ts.length + 2) cap) (ts.length + 2) (ndC (ts ++ [(-7, 0), (-8, 0)]))) := ho
  have HB1 : Hid (Below w.heap.size w w1) := hb1
  have hg1 : g < w1.heap.size := (lent_reads HO1.out).2.1
  have HB1w := hb1.size
  clear ho hb1
  go_wp2_with fail
  refine (reverse_any _ ts _ (lent_reads HO1.out).1 (by omega) (HP.out.stay HB1.out)).mono ?_
  rintro e w2 ⟨a, rfl, ha, hb2⟩
  rw [HQ.out.1] at ha
  rw [HQ.out.2.2.1]
  obtain ⟨aa, ac, rfl⟩ := own_shape ha
  have HA2 : Hid (w2.ownsRow w1.heap.size 36 2 (.slice aa A.length ac) A.length (ndC A)) := ha
  clear ha
  have HO2 : Hid (w2.ownsRow w.heap.size 36 2 (.slice (some ⟨g, 0, none⟩) (ts.length + 2) cap) (ts.length + 2) (ndC (ts ++ [(-7, 0), (-8, 0)]))) := own_below HO1.out hb2
  have HB2 : Hid (Below w.heap.size w w2) := go_on HB1.out hb2
  have hs2 := hb2.size
  clear hb2 HO1 HB1
  go_wp2_with fail
  refine (rename_any _ ts s _ (lent_reads HO2.out).1 (by omega) (HP.out.stay HB2.out)).mono ?_
  rintro e w3 ⟨b, rfl, hb, hb3⟩
  rw [HQ.out.2.1] at hb
  rw [HQ.out.2.2.2]
  obtain ⟨ba, bc, rfl⟩ := own_shape hb
  have HR3 : Hid (w3.ownsRow w2.heap.size 36 2 (.slice ba B.length bc) B.length (ndC B)) := hb
  have HAB : Hid (∀ b', (Value.slice aa A.length ac).ownBlock = some b' → b' < w2.heap.size) := fun b' hb' => (HA2.out.lt b' hb').2
  clear hb
  have HO3 : Hid (w3.ownsRow w.heap.size 36 2 (.slice (some ⟨g, 0, none⟩) (ts.length + 2) cap) (ts.length + 2) (ndC (ts ++ [(-7, 0), (-8, 0)]))) := own_below HO2.out hb3
  have HB3 : Hid (Below w.heap.size w w3) := go_on HB2.out hb3
  have hs3 := hb3.size
  have HA3 : Hid (w3.ownsRow w1.heap.size 36 2 (.slice aa A.length ac) A.length (ndC A)) := own_below HA2.out hb3
  clear hb3 HO2 HB2 HA2
  go_wp2_with fail
  refine (rreverse_any _ ts _ (HV.out.stay HB3.out) (by omega) HX.out.2 A (by rw [← HQ.out.1]; exact turn_case ts)).mono ?_
  rintro e w4 ⟨c, rfl, hc, hb4⟩
  rw [HQ.out.2.2.1]
  obtain ⟨ca, cc, rfl⟩ := own_shape hc
  have HC4 : Hid (w4.ownsRow w3.heap.size 36 2 (.slice ca A.length cc) A.length (ndC A)) := hc
  clear hc
  have HO4 : Hid (w4.ownsRow w.heap.size 36 2 (.slice (some ⟨g, 0, none⟩) (ts.length + 2) cap) (ts.length + 2) (ndC (ts ++ [(-7, 0), (-8, 0)]))) := own_below HO3.out hb4
  have HB4 : Hid (Below w.heap.size w w4) := go_on HB3.out hb4
  have hs4 := hb4.size
  have HA4 : Hid (w4.ownsRow w1.heap.size 36 2 (.slice aa A.length ac) A.length (ndC A)) := own_below HA3.out hb4
  have HR4 : Hid (w4.ownsRow w2.heap.size 36 2 (.slice ba B.length bc) B.length (ndC B)) := own_below HR3.out hb4
  clear hb4 HO3 HB3 HA3 HR3
  go_wp2_with fail
  refine (rrename_any _ ts s _ (HV.out.stay HB4.out) (by omega)).mono ?_
  rintro e w5 ⟨d, rfl, hd, hb5⟩
  rw [HQ.out.2.1] at hd
  rw [HQ.out.2.2.2]
  obtain ⟨da, dc, rfl⟩ := own_shape hd
  have HD5 : Hid (w5.ownsRow w4.heap.size 36 2 (.slice da B.length dc) B.length (ndC B)) := hd
  clear hd
  have HO5 : Hid (w5.ownsRow w.heap.size 36 2 (.slice (some ⟨g, 0, none⟩) (ts.length + 2) cap) (ts.length + 2) (ndC (ts ++ [(-7, 0), (-8, 0)]))) := own_below HO4.out hb5
  have HB5 : Hid (Below w.heap.size w w5) := go_on HB4.out hb5
  have hs5 := hb5.size
  have HA5 : Hid (w5.ownsRow w1.heap.size 36 2 (.slice aa A.length ac) A.length (ndC A)) := own_below HA4.out hb5
  have HR5 : Hid (w5.ownsRow w2.heap.size 36 2 (.slice ba B.length bc) B.length (ndC B)) := own_below HR4.out hb5
  have HC5 : Hid (w5.ownsRow w3.heap.size 36 2 (.slice ca A.length cc) A.length (ndC A)) := own_below HC4.out hb5
  clear hb5 HO4 HB4 HA4 HR4 HC4
  go_wp2_with fail
  refine (num_any _ _).mono ?_
  rintro e w20 ⟨rfl, rfl⟩
  go_wp2_with fail
  refine (num_any _ _).mono ?_
  rintro e w21 ⟨rfl, rfl⟩
  go_wp2_with fail
  refine (stay_any _ ts _ (HV.out.stay HB5.out) _ g cap (by omega) HO5.out).mono ?_
  rintro e w6 ⟨rfl, hb6⟩
  have HO6 : Hid (w6.ownsRow w.heap.size 36 2 (.slice (some ⟨g, 0, none⟩) (ts.length + 2) cap) (ts.length + 2) (ndC (ts ++ [(-7, 0), (-8, 0)]))) := own_below HO5.out hb6
  have HB6 : Hid (Below w.heap.size w w6) := go_on HB5.out hb6
  have hs6 := hb6.size
  have HA6 : Hid (w6.ownsRow w1.heap.size 36 2 (.slice aa A.length ac) A.length (ndC A)) := own_below HA5.out hb6
  have HR6 : Hid (w6.ownsRow w2.heap.size 36 2 (.slice ba B.length bc) B.length (ndC B)) := own_below HR5.out hb6
  have HC6 : Hid (w6.ownsRow w3.heap.size 36 2 (.slice ca A.length cc) A.length (ndC A)) := own_below HC5.out hb6
  have HD6 : Hid (w6.ownsRow w4.heap.size 36 2 (.slice da B.length dc) B.length (ndC B)) := own_below HD5.out hb6
  clear hb6 HO5 HB5 HA5 HR5 HC5 HD5
  go_wp2_with fail
  refine (knows_any _ (HP.out.stay HB6.out)).mono ?_
  rintro e w7 ⟨rfl, hb7⟩
  have HO7 : Hid (w7.ownsRow w.heap.size 36 2 (.slice (some ⟨g, 0, none⟩) (ts.length + 2) cap) (ts.length + 2) (ndC (ts ++ [(-7, 0), (-8, 0)]))) := own_below HO6.out hb7
  have HB7 : Hid (Below w.heap.size w w7) := go_on HB6.out hb7
  have hs7 := hb7.size
  have HA7 : Hid (w7.ownsRow w1.heap.size 36 2 (.slice aa A.length ac) A.length (ndC A)) := own_below HA6.out hb7
  have HR7 : Hid (w7.ownsRow w2.heap.size 36 2 (.slice ba B.length bc) B.length (ndC B)) := own_below HR6.out hb7
  have HC7 : Hid (w7.ownsRow w3.heap.size 36 2 (.slice ca A.length cc) A.length (ndC A)) := own_below HC6.out hb7
  have HD7 : Hid (w7.ownsRow w4.heap.size 36 2 (.slice da B.length dc) B.length (ndC B)) := own_below HD6.out hb7
  clear hb7 HO6 HB6 HA6 HR6 HC6 HD6
  go_wp2_with fail
  refine (spoil_any w.heap.size g (ts.length + 2) ts.length cap (ts ++ [(-7, 0), (-8, 0)]) _ HO7.out (by simp) (by omega) (by omega) cap).mono ?_
  rintro e w8 ⟨rfl, hg8⟩
  have hgw : w.heap.size ≤ g := (HO7.out.lt g rfl).1
  have HB8 : Hid (Below w.heap.size w w8) := HB7.out.grown hg8 HB7.out.size (fun k' hk' => by simp only [Option.some.injEq] at hk'; omega)
  have hs8 := hg8.size
  have KEEP : ∀ {Bs : Nat} {vv : Value} {n : Nat} {xs : List Value}, w1.heap.size ≤ Bs → w7.ownsRow Bs 36 2 vv n xs → w8.ownsRow Bs 36 2 vv n xs := fun hBs hv => own_of_heap hv (fun b hb => hg8.block b (hv.lt b hb).2 (fun e => by simp only [Option.some.injEq] at e; have := (hv.lt b hb).1; omega))
  have HA8 : Hid (w8.ownsRow w1.heap.size 36 2 (.slice aa A.length ac) A.length (ndC A)) := KEEP (by omega) HA7.out
  have HR8 : Hid (w8.ownsRow w2.heap.size 36 2 (.slice ba B.length bc) B.length (ndC B)) := KEEP (by omega) HR7.out
  have HC8 : Hid (w8.ownsRow w3.heap.size 36 2 (.slice ca A.length cc) A.length (ndC A)) := KEEP (by omega) HC7.out
  have HD8 : Hid (w8.ownsRow w4.heap.size 36 2 (.slice da B.length dc) B.length (ndC B)) := KEEP (by omega) HD7.out
  have hww : w.heap.size ≤ w1.heap.size := HB1w
  clear hg8 HO7 HB7 HA7 HR7 HC7 HD7 KEEP
  go_wp2_with fail
  refine (same_any _ _ A A _ (own_nreads HA8.out) (own_nreads HC8.out) (by omega)).mono ?_
  rintro e w9 ⟨rfl, hb9⟩
  rw [decide_eq_true (Eq.refl A)]
  have HB9 : Hid (Below w.heap.size w w9) := go_on HB8.out hb9
  have hs9 := hb9.size
  have HA9 : Hid (w9.ownsRow w1.heap.size 36 2 (.slice aa A.length ac) A.length (ndC A)) := own_below HA8.out hb9
  have HR9 : Hid (w9.ownsRow w2.heap.size 36 2 (.slice ba B.length bc) B.length (ndC B)) := own_below HR8.out hb9
  have HC9 : Hid (w9.ownsRow w3.heap.size 36 2 (.slice ca A.length cc) A.length (ndC A)) := own_below HC8.out hb9
  have HD9 : Hid (w9.ownsRow w4.heap.size 36 2 (.slice da B.length dc) B.length (ndC B)) := own_below HD8.out hb9
  clear hb9 HB8 HA8 HR8 HC8 HD8
  go_wp2_with fail
  refine (same_any _ _ B B _ (own_nreads HR9.out) (own_nreads HD9.out) (by omega)).mono ?_
  rintro e w10 ⟨rfl, hb10⟩
  rw [decide_eq_true (Eq.refl B)]
  have HB10 : Hid (Below w.heap.size w w10) := go_on HB9.out hb10
  have hs10 := hb10.size
  have HA10 : Hid (w10.ownsRow w1.heap.size 36 2 (.slice aa A.length ac) A.length (ndC A)) := own_below HA9.out hb10
  have HR10 : Hid (w10.ownsRow w2.heap.size 36 2 (.slice ba B.length bc) B.length (ndC B)) := own_below HR9.out hb10
  have HC10 : Hid (w10.ownsRow w3.heap.size 36 2 (.slice ca A.length cc) A.length (ndC A)) := own_below HC9.out hb10
  have HD10 : Hid (w10.ownsRow w4.heap.size 36 2 (.slice da B.length dc) B.length (ndC B)) := own_below HD9.out hb10
  clear hb10 HB9 HA9 HR9 HC9 HD9
  go_wp2_with fail
  have hTold : Told (w10.alloc (.cells #[.slice aa A.length ac, .slice ba B.length bc] 22)) w1.heap.size w10.heap.size [.slice aa A.length ac, .slice ba B.length bc] [A, B] := by
    refine ⟨rfl, heap_alloc_new w10 _, by omega, fun j hj => ?_, fun j j' hj hj' hne b hb hb' => ?_⟩
    · have hj : j < 2 := hj
      have hc : j = 0 ∨ j = 1 := by omega
      rcases hc with rfl | rfl
      · exact HA10.out.alloc _
      · exact own_mono (HR10.out.alloc _) (by omega)
    · have hj : j < 2 := hj
      have hj' : j' < 2 := hj'
      have hc : (j = 0 ∧ j' = 1) ∨ (j = 1 ∧ j' = 0) := by omega
      rcases hc with ⟨rfl, rfl⟩ | ⟨rfl, rfl⟩
      · have x := HAB.out b hb
        have y := (HR10.out.lt b hb').1
        omega
      · have x := HAB.out b hb'
        have y := (HR10.out.lt b hb).1
        omega
  have HBl : Hid (Below w.heap.size w (w10.alloc (.cells #[.slice aa A.length ac, .slice ba B.length bc] 22))) := HB10.out.alloc HB10.out.size _
  refine (apart_told hTold 2 (by simp; omega) (by simp) (by simp) (fun j hj => by
    have hj : j < 2 := hj
    have hc : j = 0 ∨ j = 1 := by omega
    rcases hc with rfl | rfl
    · show A.length ≤ 1048576; omega
    · show B.length ≤ 1048576; omega)).mono ?_
  rintro e w12 ⟨rfl, hb12⟩
  have HB12 : Hid (Below w.heap.size w w12) := HBl.out.trans (hb12.mono hww)
  clear hb12 hTold
  go_wp2_with fail
  go_ret
  exact ⟨rfl, HB12.out⟩
/-! ### The row's step -/
theorem own : ownKnob Tryd.prog.godebug = none := by kernel_rfl
def laid1 : List (String × DataW Unit) := [("eggbox/tree.partsOf", Rows.laid_eggbox_tree_partsOf)]
def tabZ : List Int := [0, 0, 0, 0, 0, 2, 2, 2, 1, 1]
theorem gTab : Tryd.prog.globalNamed "eggbox/tree.partsOf" = some 0 := by kernel_rfl
theorem tTab : (Tryd.prog.globals[0]?).map (·.type) = some 63 := by kernel_rfl
theorem of_laid {W : World} (h : laidMetH Tryd.prog laid1 W) : PTab W := by
  rw [MakeChecks.laidMetH_plain _ _ _ (by kernel_rfl)] at h
  have ht : Lib.TabIs Tryd.prog W "eggbox/tree.partsOf" .i64 tabZ :=
    Lib.tabIs_of_head (rest := []) gTab tTab Tryd.underlying63 Tryd.underlying3 (by kernel_rfl) (by kernel_rfl) h
  intro j hj
  have := ht.cell gTab j hj
  rw [this]
  have hc : j = 0 ∨ j = 1 ∨ j = 2 ∨ j = 3 ∨ j = 4 ∨ j = 5 ∨ j = 6 ∨ j = 7 ∨ j = 8 ∨ j = 9 := by omega
  rcases hc with rfl | rfl | rfl | rfl | rfl | rfl | rfl | rfl | rfl | rfl <;> rfl
/-- The door's own heap meets the condition. -/
theorem door_met (os : Os) (args : Array Value) : laidMetH Tryd.prog laid1 ((World.doorLaid Tryd.prog 400 os).forCall (fun _ _ => 0) ⟨#[], args, []⟩).memory :=
  laidMetH_of_parts3 (fuel := 8) (laidMet_of_run' 8 (by kernel_rfl) (by kernel_rfl)) (by kernel_rfl) (by kernel_rfl)

set_option maxRecDepth 100000 in
theorem lifted (os : Os) (started : os.Started) (H : Type) (enc : TypeId × Value → H) :
    ReturnsInHanded {} Tryd.checked os 7 .any (fun w args => (Rows.treeTurnsSpec.pre enc Tryd.prog Tryd.f7 [] false w args ∧ laidMetH Tryd.prog laid1 w) ∧ sizedMet enc Tryd.prog Tryd.f7 (OpenSpec.ofChange Rows.treeTurnsSpec) false w args)
      (Rows.treeTurnsSpec.post enc Tryd.prog Tryd.f7 false true false false) := by
  refine returnsInHanded_of_change_and (C := Tryd.checked) (X := fun w _ => laidMetH Tryd.prog laid1 w) (fun _ _ _ hh h => h.of_heap hh) own started (by kernel_rfl) Tryd.func7
    (ChangeSpec.witness_shaped (enc := enc) (C := Tryd.checked) (os := os) (X := fun w _ => laidMetH Tryd.prog laid1 w) false (World.doorLaid Tryd.prog 400 os) #[.slice none 0 0, .string ByteArray.empty] 8 rfl (World.shaped_of_RefB (by kernel_rfl) (by kernel_rfl)) (by kernel_rfl) (by kernel_rfl) (by kernel_rfl) (door_met os _)) ?_
  intro W base args ds gs before hval0 hW _ hsz0 hL _
  have hval : ∀ (j : Nat) t v, Tryd.f7.params[j]? = some t → args[j]? = some v → Value.okWide Tryd.prog W .any base t v := hval0
  have hW' := hW
  obtain ⟨p, q, hA0, hV, rfl, hfz, hnd⟩ := hW
  have hA : DataW.TrodAll enc Tryd.prog W 0 (fun _ => true) true Tryd.f7.params.toList args.toList ds p := hA0
  have hsz : (DataW.weightsEach Tryd.prog (Tryd.f7.params.toList ++ Rows.treeTurnsSpec.plain.varTypes Tryd.prog) (ds ++ gs)).all (· ≤ reachBytes) = true := hsz0
  rw [Tryd.params7] at hA hval hsz
  obtain ⟨v0, vs0, d0, ds0, p0, q0, hargs, rfl, rfl, h0, r0⟩ := trodAll_cons hA
  obtain ⟨v1, vs1, d1, ds1, p1, q1, rfl, rfl, rfl, h1, r1⟩ := trodAll_cons r0
  obtain ⟨rfl, rfl, rfl⟩ := trodAll_nil r1
  obtain rfl : args = #[v0, v1] := by cases args; simp_all
  obtain ⟨rfl, rfl⟩ := trodVars_none hV
  obtain ⟨a0, w0, x0, y0⟩ := open_nodes (hval 0 22 v0 rfl rfl) h0
  have s0 : (a0.length + 2) * 16 ≤ 140737488355328 := by
    rcases y0 with ⟨_, rfl⟩ | ⟨e, s, rfl, hy⟩
    · decide
    · have := sized_slice hsz (j := 0) (t := 22) rfl rfl Tryd.underlying22
      rw [Tryd.bytes_node] at this
      simp only [reachBytes] at this
      omega
  have z0 : a0.length ≤ 9223372036854775806 := by omega
  have g0 : ∀ x ∈ p0, x.block < W.heap.size := fun x hx => hW'.lt x (by simp [hx])
  obtain ⟨a1, rfl, rfl, rfl, w1⟩ := open_string Tryd.underlying9 (hval 1 9 v1 rfl rfl) h1
  have hTz := of_laid hL
  clear hA0 hval0
  refine (walk v0 a0 a1 W w0 x0 s0 w1 hTz).mono fun e W' ⟨he, bel⟩ => ?_
  subst he
  exact ⟨_, rfl, _, _, _, [], _, [], hW', trodAll_mk1 (shut_bool Tryd.underlying4 _), (trodAll_cons_mk (Below.trod Tryd.laidOut (by kernel_rfl) (of_decide_eq_true (by kernel_rfl)) h0 bel g0) (trodAll_cons_mk (shut_string Tryd.underlying9 w1) trodAll_mk0)), rfl, bel.frame _, fun h => by cases h⟩

theorem over : Rows.TreeTurnsSaid :=
  OpenClaim.holds_of_wide 7 Tryd.f7 rfl rfl rfl rfl rfl rfl rfl ⟨rfl, rfl, rfl, rfl, rfl⟩ rfl rfl rfl rfl rfl (by kernel_rfl) Tryd.func7 (by kernel_rfl)
    (of_decide_eq_true (by kernel_rfl)) (by unfold Func.isWrapper; first | (rw [if_pos (by decide +kernel)]; kernel_rfl) | (rw [if_neg (by decide +kernel)]; exact ⟨rfl, rfl⟩))
    (fun os started H enc _ => lifted os started H enc)

theorem card : Rows.TreeTurnsCardSaid :=
  Claim7.holds_tied_plain_at .later [] [.data] true (true, "014b10a7dc2b80ed82ed1e55c7eae7f3da860af38cf5edac7383b099fbb40189") false
    over (fun _ h => by cases h) (by kernel_rfl) (fun _ h => by cases h) treeTurns_row_tie rfl ⟨rfl, rfl⟩ (by kernel_rfl) rfl
    (fun f fn hf hfn => by
      obtain rfl : f = 7 := Option.some.inj ((show Tryd.prog.funcNamed "eggbox/eggboxlaw03.TreeTurns" = some 7 by kernel_rfl).symm.trans hf) |>.symm
      obtain rfl : fn = Tryd.f7 := (Option.some.inj (Tryd.func7.symm.trans hfn)).symm
      exact ⟨by kernel_rfl, fun j t ht => by
        rw [Tryd.params7] at ht
        have hm : t ∈ [22, 9] := by simpa using Array.mem_of_getElem? ht
        have hall : ([22, 9].all fun u => !Tryd.prog.wantsStandIn u) = true := by kernel_rfl
        exact (show Tryd.prog.wantsStandIn t = false by simpa using List.all_eq_true.1 hall t hm)⟩)
    (by kernel_rfl)

end Go.Proofs.YtchaggigabccaaaDoor.treeTurns
namespace Go.Proofs.YtchaggigabccaaaDoor
/-- The given statement. -/
theorem treeTurns_holds : Rows.TreeTurnsCardSaid := treeTurns.card
end Go.Proofs.YtchaggigabccaaaDoor
