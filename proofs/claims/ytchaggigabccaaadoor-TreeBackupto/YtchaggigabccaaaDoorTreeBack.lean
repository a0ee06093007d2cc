/- Proved: the card of eggboxlaw03.TreeBack, for arguments up to the statement's bulk: it answers true at every list of nodes (P307), with tree.partsOf as the program's text lays it: a tree is its parts joined by tree.Join, and has one node more than its parts together; the parts are trees, whose depth is one less; and what is no tree has no parts. -/
import Derived.Test.YtchaggigabccaaaDoorTz
import Derived.Test.YtchaggigabccaaaDoorTs
import Derived.Test.YtchaggigabccaaaDoorTn
import Derived.LaidMore
import Derived.Stop.Joined
import Derived.Lib.LaidTab
import Derived.SevenTiedAt
import Derived.Deep.DeepHandedRow
import Derived.Test.YtchaggigabccaaaDoorTie
import Derived.Test.YtchaggigabccaaaDoorCards
namespace Go.Proofs.YtchaggigabccaaaDoor.treeBack
open Go.ChangeShapes Go.WideShapes Go.ChangeAt Go.RowKit
set_option linter.unusedVariables false

set_option maxHeartbeats 8000000 in
set_option maxRecDepth 100000 in
theorem walk (v : Value) (ts : List Nd) (w : World) (hv : NReads w v ts) (hcap : ∀ a n c, v = .slice a n c → n ≤ c) (hm : ts.length ≤ 9223372036854775806) (hP : PTab w) :
    Calls Tryd.prog 8 #[v] w fun e w' => e = .returned (.bool true) ∧ Below w.heap.size w w' := by
  have HV : Hid (NReads w v ts) := hv
  have HP : Hid (PTab w) := hP
  have HC : Hid (∀ a n c, v = .slice a n c → n ≤ c) := hcap
  clear hP hcap
  by_cases h0 : wrong ts = 0
  · have HW : Hid (wrong ts = 0) := h0
    obtain ⟨h4, hf⟩ := wrong_len h0
    have HF : Hid (freeN ts = some 1) := hf
    obtain ⟨av, cv, rfl, _⟩ := hv
    clear h0 hf
    go_enter Tryd.func8, Tryd.ntmps8
    go_wp2_with fail
    refine (parts_good _ ts _ HV.out HP.out HW.out HC.out).mono ?_
    rintro e w1 ⟨⟨k, s⟩, G, ps, rfl, hg, hpo, hpr, hb1⟩
    have HPO : Hid (PartsOf ts (k, s) ps) := hpo
    have HPR : Hid (PReads w1 (.slice (some ⟨G, 0, none⟩) ps.length ps.length) ps) := hpr
    have HB1 : Hid (Below w.heap.size w w1) := hb1
    have HG : Hid (good (k, s) = true) := hg
    clear hpo hpr hb1 hg
    simp only [ndV]
    go_wp2_with fail
    have HBA : Hid (Below w1.heap.size w1 (w1.alloc (.cells #[.int .i64 k, .int .u8 s] 36))) := (Below.refl _ _).alloc (Nat.le_refl _) _
    have HNA : Hid (NB (w1.alloc (.cells #[.int .i64 k, .int .u8 s] 36)) w1.heap.size k s) := NB.new w1 k s
    generalize w1.alloc (.cells #[.int .i64 k, .int .u8 s] 36) = wA at HBA HNA ⊢
    have HB2 : Hid (Below w.heap.size w wA) := go_on HB1.out HBA.out
    have HPR2 : Hid (PReads wA (.slice (some ⟨G, 0, none⟩) ps.length ps.length) ps) := HPR.out.stay HBA.out
    obtain ⟨B, hB⟩ : ∃ B, w1.heap.size = B := ⟨_, rfl⟩
    rw [hB] at HNA ⊢
    clear HB1 HPR HBA hB
    refine (depth_any _ ts _ (HV.out.stay HB2.out) h4 (HP.out.stay HB2.out) HW.out HF.out).mono ?_
    rintro e w2 ⟨rfl, hb2⟩
    have HB3 : Hid (Below w.heap.size w w2) := go_on HB2.out hb2
    have HPR3 : Hid (PReads w2 (.slice (some ⟨G, 0, none⟩) ps.length ps.length) ps) := HPR2.out.stay hb2
    have HN3 : Hid (NB w2 B k s) := HNA.out.keep hb2
    obtain ⟨d, hd⟩ : ∃ d, (heavyN (fun _ => 1) ts).getD 0 0 = d := ⟨_, rfl⟩
    have HD : Hid (d = ways (fun _ => 1) ps + 1) := by show _ = _; rw [← hd]; exact HPO.out.way _
    rw [hd]
    clear hb2 HB2 HPR2 HNA hd
    go_wp2_with fail
    refine (num_any _ _).mono ?_
    rintro e w3 ⟨rfl, rfl⟩
    go_wp2_with fail
    refine (knows_any _ (HP.out.stay HB3.out)).mono ?_
    rintro e w4 ⟨rfl, hb4⟩
    have HB4 : Hid (Below w.heap.size w w4) := go_on HB3.out hb4
    have HPR4 : Hid (PReads w4 (.slice (some ⟨G, 0, none⟩) ps.length ps.length) ps) := HPR3.out.stay hb4
    have HN4 : Hid (NB w4 B k s) := HN3.out.keep hb4
    have d0 := HN4.out.fst
    have d1 := HN4.out.snd
    clear hb4 HB3 HPR3 HN3
    go_wp2_with fail
    have hje : joinE (k, s) ps = 0 := parts_join HPO.out h4 HG.out
    refine (join_any k s _ ps _ HPR4.out (parts_small HPO.out h4) (by rw [HPO.out.len]; have := arity_le k; simp only; omega) (HP.out.stay HB4.out)).mono ?_
    rintro e w5 ⟨hc, hb5⟩
    rcases hc with ⟨hne, _⟩ | ⟨_, u, rfl, hu⟩
    · exact absurd hje hne
    rw [HPO.out.join] at hu
    have HU : Hid (w5.ownsRow w4.heap.size 36 2 u ts.length (ndC ts)) := hu
    have HB5 : Hid (Below w.heap.size w w5) := go_on HB4.out hb5
    have HPR5 : Hid (PReads w5 (.slice (some ⟨G, 0, none⟩) ps.length ps.length) ps) := HPR4.out.stay hb5
    clear hu hb5 d0 d1 HB4 HPR4 HN4 hje
    have hsl := HPO.out.len
    have hal := arity_le k
    have hl2 : ps.length ≤ 2 := by rw [hsl]; exact hal
    clear hsl hal
    have HTR : Hid (∀ i, i < ps.length → freeN (ps.getD i []) = some 1 ∧ (ps.getD i []).length ≤ 4000 ∧ wrong (ps.getD i []) = 0 ∧ (heavyN (fun _ => 1) (ps.getD i [])).getD 0 0 ≤ 4000) := parts_each HPO.out h4
    obtain ⟨au, cu, hus⟩ := own_shape HU.out
    subst hus
    go_wp2_with fail
    go_loopw [10, 11, 12] (fun vn vd vi wr => ∃ i n d : Nat, i ≤ ps.length ∧ vi = .int .i64 i ∧ vn = .int .i64 n ∧ vd = .int .i64 d ∧ n = tot (ps.take i) + 1 ∧ n ≤ i * 4000 + 1 ∧ d = ways (fun _ => 1) (ps.take i) ∧ d ≤ 4000 ∧ Below w5.heap.size w5 wr) (fun _ _ vi _ => ps.length - (intOf vi).toNat)
    case atStart => exact ⟨0, 1, 0, Nat.zero_le _, rfl, rfl, rfl, rfl, by omega, rfl, by omega, Below.refl _ _⟩
    case round =>
      obtain ⟨i, n, dd, hi, rfl, rfl, rfl, hn, hn4, hdd, hd4, hb⟩ := hrel
      have HT : Hid (n = tot (ps.take i) + 1) := hn
      have HDD : Hid (dd = ways (fun _ => 1) (ps.take i)) := hdd
      have HB : Hid (Below w5.heap.size w5 wr) := hb
      clear hn hdd hb
      by_cases hlt : i < ps.length
      · have hiI : (i : Int) < ps.length := by omega
        obtain ⟨a6, c6, e6, hx6⟩ := HPR5.out
        obtain ⟨g, o, u6, e7, hgl, hc, hu6⟩ := hx6 i hlt
        simp only [Value.slice.injEq] at e6
        obtain ⟨e6, -, -⟩ := e6
        rw [e7] at e6
        simp only [Option.some.injEq, Addr.mk.injEq] at e6
        obtain ⟨rfl, rfl, -⟩ := e6
        have cc : wr.cell? ⟨G, 0 + i, none⟩ = some u6 := by rw [below_cell HB.out hgl]; exact hc
        rw [Nat.zero_add] at cc
        obtain ⟨h1, h2, h3, h5⟩ := HTR.out i hlt
        obtain ⟨p, hp⟩ : ∃ p, ps.getD i [] = p := ⟨_, rfl⟩
        have hw1 := ways_next (wt := fun _ => 1) hlt
        have ht1 := tot_next hlt
        rw [hp] at hu6 h1 h2 h3 h5 hw1 ht1
        have HU6 : Hid (NReads w5 u6 p) := hu6
        have HF6 : Hid (freeN p = some 1) := h1
        have HW6 : Hid (wrong p = 0) := h3
        obtain ⟨a7, c7, rfl, _⟩ := hu6
        obtain ⟨x, hx⟩ : ∃ x, (heavyN (fun _ => 1) p).getD 0 0 = x := ⟨_, rfl⟩
        have hx1 : 1 ≤ x := by rw [← hx]; exact way_pos HF6.out
        have hx2 : ¬ (x : Int) < 1 := by omega
        rw [hx] at hw1 h5
        have HX : Hid ((heavyN (fun _ => 1) p).getD 0 0 = x) := hx
        have HW1 : Hid (ways (fun _ => 1) (ps.take (i + 1)) = max dd x) := by show _ = _; rw [hw1, HDD.out]
        have HT1 : Hid (tot (ps.take (i + 1)) + 1 = n + p.length) := by show _ = _; rw [ht1, HT.out]; omega
        clear hx6 e7 hc hp h1 h3 hx hw1 ht1
        have cc2 : ∀ w', Below wr.heap.size wr w' → w'.cell? ⟨G, i, none⟩ = some (.slice a7 p.length c7) := fun w' hb' => by rw [below_cell hb' (Nat.lt_of_lt_of_le hgl HB.out.size)]; exact cc
        have HCC : Hid _ := cc2
        clear cc2
        go_wp2_with fail
        refine (depth_any _ p _ (HU6.out.stay HB.out) h2 (HP.out.stay (go_on HB5.out HB.out)) HW6.out HF6.out).mono ?_
        rintro e w7 ⟨rfl, hb7⟩
        rw [HX.out]
        have HB7 : Hid (Below w5.heap.size w5 w7) := go_on HB.out hb7
        have c7' := HCC.out w7 hb7
        clear hb7 cc HCC
        go_wp2_with fail
        refine (num_any _ _).mono ?_
        rintro e w8 ⟨rfl, rfl⟩
        go_wp2_with fail
        go_roundw
        case rel =>
          refine ⟨i + 1, n + p.length, max dd x, by omega, by go_num, by go_num, ?_, by rw [HT1.out], by omega, HW1.out.symm, by omega, HB7.out⟩
          congr 1
          split <;> omega
        case measure => simp [intOf]; omega
      · have hiI : ¬ (i : Int) < ps.length := by omega
        obtain rfl : i = ps.length := by omega
        rw [List.take_length] at HT HDD
        have hnt : n = ts.length := by
          have hj := congrArg List.length HPO.out.join
          simp only [List.length_append, List.length_singleton] at hj
          rw [HT.out]; exact hj
        have hdd : d = dd + 1 := by rw [HD.out, HDD.out]
        subst hdd hnt
        clear hm
        go_wp2_with fail
        refine (num_any _ _).mono ?_
        rintro e w7 ⟨rfl, rfl⟩
        go_wp2_with fail
        refine (same_any _ _ ts ts _ ((own_nreads HU.out).stay HB.out) (HV.out.stay (go_on HB5.out HB.out)) (by omega)).mono ?_
        rintro e w8 ⟨rfl, hb8⟩
        have HB8 : Hid (Below w.heap.size w w8) := go_on (go_on HB5.out HB.out) hb8
        rw [decide_eq_true (Eq.refl ts)]
        clear hb8
        go_wp2_with fail
        go_ret
        exact ⟨rfl, HB8.out⟩
  · have HNW : Hid (wrong ts ≠ 0) := h0
    have HM : Hid (ts.length ≤ 9223372036854775806) := hm
    obtain ⟨av, cv, rfl, _⟩ := hv
    obtain ⟨x, hx⟩ : ∃ x, wrong ts = x := ⟨_, rfl⟩
    have hxb : (x != 0) = true := by rw [← hx]; simpa using h0
    have HX : Hid (wrong ts = x) := hx
    clear h0 hx hm
    go_enter Tryd.func8, Tryd.ntmps8
    go_wp2_with fail
    refine (parts_bad _ ts _ HV.out HM.out HP.out HNW.out).mono ?_
    rintro e w1 ⟨rfl, hb1⟩
    rw [HX.out]
    have HB1 : Hid (Below w.heap.size w w1) := hb1
    clear hb1
    simp only [ndV]
    go_wp2_with fail
    have HB2 : Hid (Below w.heap.size w (w1.alloc (.cells #[.int .i64 0, .int .u8 0] 36))) := HB1.out.alloc HB1.out.size _
    generalize w1.alloc (.cells #[.int .i64 0, .int .u8 0] 36) = wA at HB2 ⊢
    refine (depth_bad _ ts _ (HV.out.stay HB2.out) HM.out (HP.out.stay HB2.out) HNW.out).mono ?_
    rintro e w2 ⟨rfl, hb2⟩
    rw [HX.out]
    have HB3 : Hid (Below w.heap.size w w2) := go_on HB2.out hb2
    clear hb2 HB2
    go_wp2_with fail
    refine (num_any _ _).mono ?_
    rintro e w3 ⟨rfl, rfl⟩
    go_wp2_with fail
    refine (num_any _ _).mono ?_
    rintro e w4 ⟨rfl, rfl⟩
    go_wp2_with fail
    refine (num_any _ _).mono ?_
    rintro e w5 ⟨rfl, rfl⟩
    go_wp2_with fail
    refine (knows_any _ (HP.out.stay HB3.out)).mono ?_
    rintro e w6 ⟨rfl, hb6⟩
    have HB6 : Hid (Below w.heap.size w w6) := go_on HB3.out hb6
    clear hb6
    go_wp2_with fail
    go_ret
    exact ⟨rfl, HB6.out⟩
/-! ### The row's step -/
theorem own : ownKnob Tryd.prog.godebug = none := by kernel_rfl
def laid1 : List (String × DataW Unit) := [("eggbox/tree.partsOf", Rows.laid_eggbox_tree_partsOf)]
def tabZ : List Int := [0, 0, 0, 0, 0, 2, 2, 2, 1, 1]
theorem gTab : Tryd.prog.globalNamed "eggbox/tree.partsOf" = some 0 := by kernel_rfl
theorem tTab : (Tryd.prog.globals[0]?).map (·.type) = some 63 := by kernel_rfl
theorem of_laid {W : World} (h : laidMetH Tryd.prog laid1 W) : PTab W := by
  rw [MakeChecks.laidMetH_plain _ _ _ (by kernel_rfl)] at h
  have ht : Lib.TabIs Tryd.prog W "eggbox/tree.partsOf" .i64 tabZ :=
    Lib.tabIs_of_head (rest := []) gTab tTab Tryd.underlying63 Tryd.underlying3 (by kernel_rfl) (by kernel_rfl) h
  intro j hj
  have := ht.cell gTab j hj
  rw [this]
  have hc : j = 0 ∨ j = 1 ∨ j = 2 ∨ j = 3 ∨ j = 4 ∨ j = 5 ∨ j = 6 ∨ j = 7 ∨ j = 8 ∨ j = 9 := by omega
  rcases hc with rfl | rfl | rfl | rfl | rfl | rfl | rfl | rfl | rfl | rfl <;> rfl
/-- The door's own heap meets the condition. -/
theorem door_met (os : Os) (args : Array Value) : laidMetH Tryd.prog laid1 ((World.doorLaid Tryd.prog 400 os).forCall (fun _ _ => 0) ⟨#[], args, []⟩).memory :=
  laidMetH_of_parts3 (fuel := 8) (laidMet_of_run' 8 (by kernel_rfl) (by kernel_rfl)) (by kernel_rfl) (by kernel_rfl)

theorem reads (os : Os) {H : Type} (enc : TypeId × Value → H) : ∃ places, DataW.whole enc Tryd.prog ((World.doorLaid Tryd.prog 400 os).forCall (fun _ _ => 0) ⟨#[], #[.slice none 0 0], []⟩).memory Tryd.f8.params.toList Rows.treeBackSpec.vars false #[.slice none 0 0].toList 8 = some ([.nil], [], places) :=
  ⟨[], by kernel_rfl⟩
set_option maxRecDepth 100000 in
theorem lifted (os : Os) (started : os.Started) (H : Type) (enc : TypeId × Value → H) (F : Stop.Interp) :
    ReturnsInHanded {} Tryd.checked os 8 .any ((Rows.OpenSpec.upto Rows.treeBackSpec).preRow enc Tryd.prog Tryd.f8 Rows.treeBackUptoRow.domain false Rows.treeBackUptoRow.laid) (((Rows.OpenSpec.upto Rows.treeBackSpec).at F).post enc Tryd.prog Tryd.f8 false true false false) := by
  obtain ⟨places, hx⟩ := reads os enc
  refine returnsInHanded_of_row (C := Tryd.checked) (s := Rows.OpenSpec.upto Rows.treeBackSpec) own started (by kernel_rfl) Tryd.func8
    (witness_row_at (enc := enc) (C := Tryd.checked) false (World.doorLaid Tryd.prog 400 os) #[.slice none 0 0] rfl (by kernel_rfl) (by kernel_rfl) (by kernel_rfl)
      (OpenSpec.preRow_of_cond 8 hx (by kernel_rfl) (fun k hk => by cases hk; kernel_rfl) (by kernel_rfl) (door_met os _))) ?_
  intro W base args ds gs before hval0 hW _ _ hsz0 hL _ _
  have hval : ∀ (j : Nat) t v, Tryd.f8.params[j]? = some t → args[j]? = some v → Value.okWide Tryd.prog W .any base t v := hval0
  have hW' := hW
  obtain ⟨p, q, hA0, hV, rfl, hfz, hnd⟩ := hW
  have hA : DataW.TrodAll enc Tryd.prog W 0 (fun _ => true) true Tryd.f8.params.toList args.toList ds p := hA0
  have hsz : (DataW.weightsEach Tryd.prog (Tryd.f8.params.toList ++ Rows.treeBackSpec.plain.varTypes Tryd.prog) (ds ++ gs)).all (· ≤ reachBytes) = true := hsz0
  rw [Tryd.params8] at hA hval hsz
  obtain ⟨v0, vs0, d0, ds0, p0, q0, hargs, rfl, rfl, h0, r0⟩ := trodAll_cons hA
  obtain ⟨rfl, rfl, rfl⟩ := trodAll_nil r0
  obtain rfl : args = #[v0] := by cases args; simp_all
  obtain ⟨rfl, rfl⟩ := trodVars_none hV
  obtain ⟨a0, w0, x0, y0⟩ := open_nodes (hval 0 22 v0 rfl rfl) h0
  have s0 : (a0.length + 2) * 16 ≤ 140737488355328 := by
    rcases y0 with ⟨_, rfl⟩ | ⟨e, s, rfl, hy⟩
    · decide
    · have := sized_slice hsz (j := 0) (t := 22) rfl rfl Tryd.underlying22
      rw [Tryd.bytes_node] at this
      simp only [reachBytes] at this
      omega
  have z0 : a0.length ≤ 9223372036854775806 := by omega
  have g0 : ∀ x ∈ p0, x.block < W.heap.size := fun x hx => hW'.lt x (by simp [hx])
  have hTz := of_laid hL
  clear hA0 hval0
  refine (walk v0 a0 W w0 x0.2 z0 hTz).mono fun e W' ⟨he, bel⟩ => ?_
  subst he
  exact ⟨_, rfl, _, _, _, [], _, [], hW', trodAll_mk1 (shut_bool Tryd.underlying4 _), (trodAll_cons_mk (Below.trod Tryd.laidOut (by kernel_rfl) (of_decide_eq_true (by kernel_rfl)) h0 bel g0) trodAll_mk0), rfl, bel.frame _, fun h => by cases h⟩

theorem over : Rows.TreeBackUptoSaid :=
  OpenClaim.holds_of_cond 8 Tryd.f8 rfl rfl rfl rfl rfl rfl rfl ⟨rfl, rfl, rfl, rfl, rfl⟩ rfl rfl rfl rfl rfl (by kernel_rfl) Tryd.func8 (by kernel_rfl)
    (of_decide_eq_true (by kernel_rfl)) (by unfold Func.isWrapper; first | (rw [if_pos (by decide +kernel)]; kernel_rfl) | (rw [if_neg (by decide +kernel)]; exact ⟨rfl, rfl⟩))
    (fun os started H enc _ F => by rw [OpenClaim.pre_eq_preRow]; exact lifted os started H enc F)

theorem card : Rows.TreeBackUptoCardSaid :=
  Claim7.holds_tied_plain_at .later [] [.data] true (true, "014b10a7dc2b80ed82ed1e55c7eae7f3da860af38cf5edac7383b099fbb40189") false
    over (fun _ h => by cases h) (by kernel_rfl) (fun _ h => by cases h) treeBackUpto_row_tie rfl ⟨rfl, rfl⟩ (by kernel_rfl) rfl
    (fun f fn hf hfn => by
      obtain rfl : f = 8 := Option.some.inj ((show Tryd.prog.funcNamed "eggbox/eggboxlaw03.TreeBack" = some 8 by kernel_rfl).symm.trans hf) |>.symm
      obtain rfl : fn = Tryd.f8 := (Option.some.inj (Tryd.func8.symm.trans hfn)).symm
      exact ⟨by kernel_rfl, fun j t ht => by
        rw [Tryd.params8] at ht
        have hm : t ∈ [22] := by simpa using Array.mem_of_getElem? ht
        have hall : ([22].all fun u => !Tryd.prog.wantsStandIn u) = true := by kernel_rfl
        exact (show Tryd.prog.wantsStandIn t = false by simpa using List.all_eq_true.1 hall t hm)⟩)
    (by kernel_rfl)

end Go.Proofs.YtchaggigabccaaaDoor.treeBack
namespace Go.Proofs.YtchaggigabccaaaDoor
/-- The given statement. -/
theorem treeBack_holds : Rows.TreeBackUptoCardSaid := treeBack.card
end Go.Proofs.YtchaggigabccaaaDoor
