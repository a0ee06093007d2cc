/- Proved: the card of eggboxlaw05.NormMembers: it answers true at every kind and every list of nodes (P504), with tree.partsOf as the program's text lays it: norm.Members answers what the document's answers, ErrArg among it, leaves what it was handed as it was, and the members that it answers are the caller's own. -/
import Derived.Test.YtdmjcfecahcdnaaDoorUf
import Derived.Test.YtdmjcfecahcdnaaDoorNz
import Derived.Test.YtdmjcfecahcdnaaDoorXu
import Derived.Test.YtdmjcfecahcdnaaDoorTn
import Derived.LaidMore
import Derived.Stop.Joined
import Derived.Lib.LaidTab
import Derived.SevenTiedAt
import Derived.ShutString
import Derived.ChangeMaps5
import Derived.Test.YtdmjcfecahcdnaaDoorTie
import Derived.Test.YtdmjcfecahcdnaaDoorCards
namespace Go.Proofs.YtdmjcfecahcdnaaDoor.normMembers
open Go.ChangeShapes Go.WideShapes Go.ChangeAt Go.RowKit
open Go.ChangeMaps (open_string shut_string)
set_option linter.unusedVariables false

theorem lens_ge : ∀ l : List Tr, 2 * l.length ≤ lens l
  | [] => by simp [lens]
  | x :: l => by have := lens_ge l; have := x.len_pos; simp [lens] at *; omega
theorem mem_lens {l : List Tr} {m : Tr} (h : m ∈ l) : m.flat.length + 1 ≤ lens l := by
  induction l with
  | nil => simp at h
  | cons x l ih =>
    rcases List.mem_cons.1 h with rfl | h
    · simp [lens]
    · have := ih h; simp [lens] at *; omega
theorem mem_small {k : Int} {ts : List Nd} {E : Int} {ms : List Tr} (h : MemR k ts E ms) : (ms.map Tr.flat).length ≤ 4001 ∧ ∀ i, ((ms.map Tr.flat).getD i []).length ≤ 4001 := by
  have key : lens ms ≤ 4001 → (ms.map Tr.flat).length ≤ 4001 ∧ ∀ i, ((ms.map Tr.flat).getD i []).length ≤ 4001 := fun hl => by
    refine ⟨by rw [List.length_map]; have := lens_ge ms; omega, fun i => ?_⟩
    by_cases hi : i < ms.length
    · rw [List.getD_eq_getElem?_getD, List.getElem?_map, List.getElem?_eq_getElem hi]
      have := mem_lens (List.getElem_mem hi)
      simp
      omega
    · rw [List.getD_eq_getElem?_getD, List.getElem?_eq_none (by rw [List.length_map]; omega)]
      simp
  rcases h with ⟨_, _, _, rfl⟩ | ⟨_, _, _, rfl⟩ | ⟨hk, T, ho, rfl, h0, _, rfl⟩
  · exact key (by simp [lens])
  · exact key (by simp [lens])
  · apply key
    have hok := nrm_ok ho
    have hln := nrm_len ho
    have h4 := (wrong_len h0).1
    unfold Mb
    split
    · simp [lens]
    · rw [← len_build (k := k) (spine_ne k _), build_spine hok.1]
      omega

set_option maxHeartbeats 16000000 in
set_option maxRecDepth 100000 in
theorem walk (k : Int) (v : Value) (ts : List Nd) (w : World) (hk : (Lit.int .i64 k).wf = true) (hv : NReads w v ts) (hx : (∀ c, v = .slice none 0 c → c = 0) ∧ ∀ a n c, v = .slice a n c → n ≤ c) (hl : (ts.length + 2) * 16 ≤ 140737488355328) (hP : PTab w) :
    Calls Tryd.prog 6 #[.int .i64 k, v] w fun e w' => e = .returned (.bool true) ∧ Below w.heap.size w w' := by
  have HV : Hid (NReads w v ts) := hv
  have HP : Hid (PTab w) := hP
  have HX : Hid ((∀ c, v = .slice none 0 c → c = 0) ∧ ∀ a n c, v = .slice a n c → n ≤ c) := hx
  obtain ⟨av, cv, rfl, _⟩ := hv
  have hcv : ts.length ≤ cv := hx.2 _ _ _ rfl
  obtain ⟨E, ms, hN⟩ := mem_ex k ts
  have HN : Hid (MemR k ts E ms) := hN
  have HSM : Hid ((ms.map Tr.flat).length ≤ 4001 ∧ ∀ i, ((ms.map Tr.flat).getD i []).length ≤ 4001) := mem_small hN
  clear hP hx hN hk
  go_enter Tryd.func6, Tryd.ntmps6
  go_wp2_with fail
  refine (lent_any _ ts _ HV.out HX.out.1 hl).mono ?_
  rintro e w1 ⟨g, cap, rfl, ho, hb⟩
  have hww := hb.size
  have hg1 : g < w1.heap.size := (lent_reads ho).2.1
  have HB1 : Hid (Below w.heap.size w w1) := hb
  have HO1 : Hid (w1.ownsRow w.heap.size 52 2 (.slice (some ⟨g, 0, none⟩) (ts.length + 2) cap) (ts.length + 2) (ndC (ts ++ [(-7, 0), (-8, 0)]))) := ho
  clear hb ho
  go_wp2_with fail
  refine (members_mq HN.out _ _ _ (lent_reads HO1.out).1 (by omega) (HP.out.stay HB1.out)).mono ?_
  rintro e w2 ⟨u, vs, rfl, htd, hb⟩
  obtain ⟨ps, hps⟩ : ∃ ps, ms.map Tr.flat = ps := ⟨_, rfl⟩
  rw [hps] at htd HSM
  have HPS : Hid (ms.map Tr.flat = ps) := hps
  obtain ⟨ua, uc, rfl⟩ := htd.shape
  have HT2 : Hid (Told3 w2 w1.heap.size (.slice ua ps.length uc) vs ps) := htd
  have HB2 : Hid (Below w.heap.size w w2) := go_on HB1.out hb
  have HO2 : Hid (w2.ownsRow w.heap.size 52 2 (.slice (some ⟨g, 0, none⟩) (ts.length + 2) cap) (ts.length + 2) (ndC (ts ++ [(-7, 0), (-8, 0)]))) := own_below HO1.out hb
  have hs2 := hb.size
  clear hb htd HO1 hps
  go_wp2_with fail
  refine (rmembers_mq HN.out _ _ _ (HV.out.stay HB2.out) (by omega) hcv).mono ?_
  rintro e w3 ⟨m, rfl, hpl, hb⟩
  rw [HPS.out] at hpl
  obtain ⟨qa, qc, rfl⟩ : ∃ a c, m = .slice a ps.length c := by obtain ⟨a, c, e, _⟩ := hpl; exact ⟨a, c, e⟩
  have HM3 : Hid (PL w2.heap.size w3 (.slice qa ps.length qc) ps) := hpl
  have HT3 : Hid (Told3 w3 w1.heap.size (.slice ua ps.length uc) vs ps) := HT2.out.stay hb
  have HB3 : Hid (Below w.heap.size w w3) := go_on HB2.out hb
  have HO3 : Hid (w3.ownsRow w.heap.size 52 2 (.slice (some ⟨g, 0, none⟩) (ts.length + 2) cap) (ts.length + 2) (ndC (ts ++ [(-7, 0), (-8, 0)]))) := own_below HO2.out hb
  have hs3 := hb.size
  clear hb hpl HO2 HT2 HB2
  go_wp2_with fail
  refine (num5_any _ _).mono ?_
  rintro e wp ⟨rfl, rfl⟩
  go_wp2_with fail
  refine (stay_any _ ts _ (HV.out.stay HB3.out) _ g cap (by omega) HO3.out).mono ?_
  rintro e w4 ⟨rfl, hb⟩
  have HM4 : Hid (PL w2.heap.size w4 (.slice qa ps.length qc) ps) := HM3.out.stay hb
  have HT4 : Hid (Told3 w4 w1.heap.size (.slice ua ps.length uc) vs ps) := HT3.out.stay hb
  have HB4 : Hid (Below w.heap.size w w4) := go_on HB3.out hb
  have HO4 : Hid (w4.ownsRow w.heap.size 52 2 (.slice (some ⟨g, 0, none⟩) (ts.length + 2) cap) (ts.length + 2) (ndC (ts ++ [(-7, 0), (-8, 0)]))) := own_below HO3.out hb
  have hs4 := hb.size
  clear hb HO3 HT3 HB3 HM3
  go_wp2_with fail
  refine (knows5_any _ (HP.out.stay HB4.out)).mono ?_
  rintro e w5 ⟨rfl, hb⟩
  have HM5 : Hid (PL w2.heap.size w5 (.slice qa ps.length qc) ps) := HM4.out.stay hb
  have HT5 : Hid (Told3 w5 w1.heap.size (.slice ua ps.length uc) vs ps) := HT4.out.stay hb
  have HB5 : Hid (Below w.heap.size w w5) := go_on HB4.out hb
  have HO5 : Hid (w5.ownsRow w.heap.size 52 2 (.slice (some ⟨g, 0, none⟩) (ts.length + 2) cap) (ts.length + 2) (ndC (ts ++ [(-7, 0), (-8, 0)]))) := own_below HO4.out hb
  have hs5 := hb.size
  clear hb HO4 HT4 HB4 HM4
  go_wp2_with fail
  refine (spoil_any w.heap.size g (ts.length + 2) ts.length cap (ts ++ [(-7, 0), (-8, 0)]) _ HO5.out (by simp) (by omega) (by omega) cap).mono ?_
  rintro e w6 ⟨rfl, hg⟩
  have hgb := HO5.out.lt g rfl
  have HB6 : Hid (Below w.heap.size w w6) := HB5.out.grown hg HB5.out.size (fun k hk => by simp only [Option.some.injEq] at hk; omega)
  have hs6 := hg.size
  have HM6 : Hid (PL w2.heap.size w6 (.slice qa ps.length qc) ps) := HM5.out.kept hg.size (fun k hk hkl => hg.block k hkl (fun e => by simp only [Option.some.injEq] at e; omega))
  have HT6 : Hid (Told3 w6 w1.heap.size (.slice ua ps.length uc) vs ps) := HT5.out.kept (fun k hk hkl => hg.block k hkl (fun e => by simp only [Option.some.injEq] at e; omega))
  clear hg HO5 HT5 HB5 HM5
  go_wp2_with fail
  refine (sameTrees_any _ _ ps ps _ HT6.out.reads HM6.out.reads (fun i => by have := HSM.out.2 i; omega) (by have := HSM.out.1; omega)).mono ?_
  rintro e w7 ⟨rfl, hb⟩
  rw [decide_eq_true (Eq.refl ps)]
  have HT7 : Hid (Told3 w7 w1.heap.size (.slice ua ps.length uc) vs ps) := HT6.out.stay hb
  have HB7 : Hid (Below w.heap.size w w7) := go_on HB6.out hb
  have hs7 := hb.size
  clear hb HT6 HB6 HM6
  go_wp2_with fail
  refine (apart_told3 HT7.out (by omega) (by have := HSM.out.1; omega) (fun j _ => by have := HSM.out.2 j; omega)).mono ?_
  rintro e w8 ⟨rfl, hb⟩
  have HB8 : Hid (Below w.heap.size w w8) := HB7.out.trans (hb.mono hww)
  clear hb
  go_wp2_with fail
  go_ret
  exact ⟨rfl, HB8.out⟩

/-! ### The row's step -/
theorem own : ownKnob Tryd.prog.godebug = none := by kernel_rfl
def laid1 : List (String × DataW Unit) := [("eggbox/tree.partsOf", Rows.laid_eggbox_tree_partsOf)]
def tabZ : List Int := [0, 0, 0, 0, 0, 2, 2, 2, 1, 1]
theorem gTab : Tryd.prog.globalNamed "eggbox/tree.partsOf" = some 0 := by kernel_rfl
theorem tTab : (Tryd.prog.globals[0]?).map (·.type) = some 104 := by kernel_rfl
theorem of_laid {W : World} (h : laidMetH Tryd.prog laid1 W) : PTab W := by
  rw [MakeChecks.laidMetH_plain _ _ _ (by kernel_rfl)] at h
  have ht : Lib.TabIs Tryd.prog W "eggbox/tree.partsOf" .i64 tabZ :=
    Lib.tabIs_of_head (rest := []) gTab tTab Tryd.underlying104 Tryd.underlying3 (by kernel_rfl) (by kernel_rfl) h
  intro j hj
  have := ht.cell gTab j hj
  rw [this]
  have hc : j = 0 ∨ j = 1 ∨ j = 2 ∨ j = 3 ∨ j = 4 ∨ j = 5 ∨ j = 6 ∨ j = 7 ∨ j = 8 ∨ j = 9 := by omega
  rcases hc with rfl | rfl | rfl | rfl | rfl | rfl | rfl | rfl | rfl | rfl <;> rfl
/-- The door's own heap meets the condition. -/
theorem door_met (os : Os) (args : Array Value) : laidMetH Tryd.prog laid1 ((World.doorLaid Tryd.prog 400 os).forCall (fun _ _ => 0) ⟨#[], args, []⟩).memory :=
  laidMetH_of_parts3 (fuel := 8) (laidMet_of_run' 8 (by kernel_rfl) (by kernel_rfl)) (by kernel_rfl) (by kernel_rfl)

set_option maxRecDepth 100000 in
theorem lifted (os : Os) (started : os.Started) (H : Type) (enc : TypeId × Value → H) :
    ReturnsInHanded {} Tryd.checked os 6 .any (fun w args => (Rows.normMembersSpec.pre enc Tryd.prog Tryd.f6 [] false w args ∧ laidMetH Tryd.prog laid1 w) ∧ sizedMet enc Tryd.prog Tryd.f6 (OpenSpec.ofChange Rows.normMembersSpec) false w args)
      (Rows.normMembersSpec.post enc Tryd.prog Tryd.f6 false true false false) := by
  refine returnsInHanded_of_change_and (C := Tryd.checked) (X := fun w _ => laidMetH Tryd.prog laid1 w) (fun _ _ _ hh h => h.of_heap hh) own started (by kernel_rfl) Tryd.func6
    (ChangeSpec.witness_shaped (enc := enc) (C := Tryd.checked) (os := os) (X := fun w _ => laidMetH Tryd.prog laid1 w) false (World.doorLaid Tryd.prog 400 os) #[.int .i64 0, .slice none 0 0] 8 rfl (World.shaped_of_RefB (by kernel_rfl) (by kernel_rfl)) (by kernel_rfl) (by kernel_rfl) (by kernel_rfl) (door_met os _)) ?_
  intro W base args ds gs before hval0 hW _ hsz0 hL _
  have hval : ∀ (j : Nat) t v, Tryd.f6.params[j]? = some t → args[j]? = some v → Value.okWide Tryd.prog W .any base t v := hval0
  have hW' := hW
  obtain ⟨p, q, hA0, hV, rfl, hfz, hnd⟩ := hW
  have hA : DataW.TrodAll enc Tryd.prog W 0 (fun _ => true) true Tryd.f6.params.toList args.toList ds p := hA0
  have hsz : (DataW.weightsEach Tryd.prog (Tryd.f6.params.toList ++ Rows.normMembersSpec.plain.varTypes Tryd.prog) (ds ++ gs)).all (· ≤ reachBytes) = true := hsz0
  rw [Tryd.params6] at hA hval hsz
  obtain ⟨v0, vs0, d0, ds0, p0, q0, hargs, rfl, rfl, h0, r0⟩ := trodAll_cons hA
  obtain ⟨v1, vs1, d1, ds1, p1, q1, rfl, rfl, rfl, h1, r1⟩ := trodAll_cons r0
  obtain ⟨rfl, rfl, rfl⟩ := trodAll_nil r1
  obtain rfl : args = #[v0, v1] := by cases args; simp_all
  obtain ⟨rfl, rfl⟩ := trodVars_none hV
  obtain ⟨a0, rfl, rfl, rfl, w0⟩ := open_int Tryd.underlying3 (hval 0 3 v0 rfl rfl) h0
  obtain ⟨a1, w1, x1, y1⟩ := open_nodes (hval 1 22 v1 rfl rfl) h1
  have s1 : (a1.length + 2) * 16 ≤ 140737488355328 := by
    rcases y1 with ⟨_, rfl⟩ | ⟨e, s, rfl, hy⟩
    · decide
    · have := sized_slice hsz (j := 1) (t := 22) rfl rfl Tryd.underlying22
      rw [Tryd.bytes_node] at this
      simp only [reachBytes] at this
      omega
  have z1 : a1.length ≤ 9223372036854775806 := by omega
  have g1 : ∀ x ∈ p1, x.block < W.heap.size := fun x hx => hW'.lt x (by simp [hx])
  have hTz := of_laid hL
  clear hA0 hval0
  refine (walk a0 v1 a1 W w0 w1 x1 s1 hTz).mono fun e W' ⟨he, bel⟩ => ?_
  subst he
  exact ⟨_, rfl, _, _, _, [], _, [], hW', trodAll_mk1 (shut_bool Tryd.underlying4 _), (trodAll_cons_mk (shut_int Tryd.underlying3 w0) (trodAll_cons_mk (Below.trod Tryd.laidOut (by kernel_rfl) (of_decide_eq_true (by kernel_rfl)) h1 bel g1) trodAll_mk0)), rfl, bel.frame _, fun h => by cases h⟩

theorem over : Rows.NormMembersSaid :=
  OpenClaim.holds_of_wide 6 Tryd.f6 rfl rfl rfl rfl rfl rfl rfl ⟨rfl, rfl, rfl, rfl, rfl⟩ rfl rfl rfl rfl rfl (by kernel_rfl) Tryd.func6 (by kernel_rfl)
    (of_decide_eq_true (by kernel_rfl)) (by unfold Func.isWrapper; first | (rw [if_pos (by decide +kernel)]; kernel_rfl) | (rw [if_neg (by decide +kernel)]; exact ⟨rfl, rfl⟩))
    (fun os started H enc _ => lifted os started H enc)

theorem card : Rows.NormMembersCardSaid :=
  Claim7.holds_tied_plain_at .later [] [.data] true (true, "b414daad54b9d0b08494abd64e408f62d117ebfe8175e1cfde69e226fd2cc268") false
    over (fun _ h => by cases h) (by kernel_rfl) (fun _ h => by cases h) normMembers_row_tie rfl ⟨rfl, rfl⟩ (by kernel_rfl) rfl
    (fun f fn hf hfn => by
      obtain rfl : f = 6 := Option.some.inj ((show Tryd.prog.funcNamed "eggbox/eggboxlaw05.NormMembers" = some 6 by kernel_rfl).symm.trans hf) |>.symm
      obtain rfl : fn = Tryd.f6 := (Option.some.inj (Tryd.func6.symm.trans hfn)).symm
      exact ⟨by kernel_rfl, fun j t ht => by
        rw [Tryd.params6] at ht
        have hm : t ∈ [3, 22] := by simpa using Array.mem_of_getElem? ht
        have hall : ([3, 22].all fun u => !Tryd.prog.wantsStandIn u) = true := by kernel_rfl
        exact (show Tryd.prog.wantsStandIn t = false by simpa using List.all_eq_true.1 hall t hm)⟩)
    (by kernel_rfl)

end Go.Proofs.YtdmjcfecahcdnaaDoor.normMembers
namespace Go.Proofs.YtdmjcfecahcdnaaDoor
/-- The given statement. -/
theorem normMembers_holds : Rows.NormMembersCardSaid := normMembers.card
end Go.Proofs.YtdmjcfecahcdnaaDoor
