/- Proved: the card of eggboxlaw03.TreeParts: it answers true at every list of nodes (P304), with tree.partsOf as the program's text lays it: tree.Parts answers what the document's Parts answers, leaves what it was handed as it was, and the parts are the caller's own. -/
import Derived.Test.YtchaggigabccaaaDoorOc
import Derived.Test.YtchaggigabccaaaDoorTl
import Derived.Test.YtchaggigabccaaaDoorTn
import Derived.LaidMore
import Derived.Stop.Joined
import Derived.Lib.LaidTab
import Derived.SevenTiedAt
import Derived.Test.YtchaggigabccaaaDoorTie
import Derived.Test.YtchaggigabccaaaDoorCards
namespace Go.Proofs.YtchaggigabccaaaDoor.treeParts
open Go.ChangeShapes Go.WideShapes Go.ChangeAt Go.RowKit
set_option linter.unusedVariables false

set_option maxHeartbeats 8000000 in
set_option maxRecDepth 100000 in
theorem walk (v : Value) (ts : List Nd) (w : World) (hv : NReads w v ts) (hx : (∀ c, v = .slice none 0 c → c = 0) ∧ ∀ a n c, v = .slice a n c → n ≤ c) (hl : (ts.length + 2) * 16 ≤ 140737488355328) (hP : PTab w) :
    Calls Tryd.prog 4 #[v] w fun e w' => e = .returned (.bool true) ∧ Below w.heap.size w w' := by
  have HV : Hid (NReads w v ts) := hv
  have HP : Hid (PTab w) := hP
  have HX : Hid ((∀ c, v = .slice none 0 c → c = 0) ∧ ∀ a n c, v = .slice a n c → n ≤ c) := hx
  obtain ⟨av, cv, rfl, _⟩ := hv
  obtain ⟨⟨k, s⟩, hrt⟩ : ∃ n, rootV ts = n := ⟨_, rfl⟩
  obtain ⟨ps, hps⟩ : ∃ ps, partsV ts = ps := ⟨_, rfl⟩
  obtain ⟨x, hxx⟩ : ∃ x, wrong ts = x := ⟨_, rfl⟩
  have HQ : Hid (rootV ts = (k, s) ∧ partsV ts = ps ∧ wrong ts = x) := ⟨hrt, hps, hxx⟩
  have HSM : Hid (ps.length ≤ 2 ∧ ∀ j, (ps.getD j []).length ≤ 4000) := by rw [← hps]; exact partsV_small ts
  have HOWN : Hid (ps = [] ∨ ∀ k, (Value.slice av ts.length cv).ownBlock = some k → k < w.heap.size) := by
    obtain ⟨a', c', e, hr⟩ := HV.out
    by_cases h0 : 0 < ts.length
    · obtain ⟨g0, o0, e0, hg0, _⟩ := hr 0 h0
      refine .inr fun k hk => ?_
      simp only [Value.slice.injEq] at e
      rw [e.1, e0] at hk
      simp only [Value.ownBlock, Option.some.injEq] at hk
      omega
    · refine .inl ?_
      rw [← hps]
      have hnil : ts = [] := List.eq_nil_of_length_eq_zero (by omega)
      rw [hnil]
      decide
  have heq := fun w0 => eq2 k s k s w0
  clear hP hx hrt hps hxx
  go_enter Tryd.func4, Tryd.ntmps4
  go_wp2_with fail
  refine (lent_any _ ts _ HV.out HX.out.1 hl).mono ?_
  rintro e w1 ⟨g, cap, rfl, ho, hb1⟩
  have HO : Hid (w1.ownsRow w.heap.size 36 2 (.slice (some ⟨g, 0, none⟩) (ts.length + 2) cap) (ts.length + 2) (ndC (ts ++ [(-7, 0), (-8, 0)]))) := ho
  have HB1 : Hid (Below w.heap.size w w1) := hb1
  clear ho hb1
  go_wp2_with fail
  refine (parts_any _ ts _ (lent_reads HO.out).1 (by omega) (HP.out.stay HB1.out) (fun a n c h => by cases h; have := (lent_reads HO.out).2.2.1; omega)).mono ?_
  rintro e w2 ⟨u, rfl, hpt, hb2⟩
  rw [HQ.out.2.1] at hpt
  rw [HQ.out.1, HQ.out.2.2]
  have hs2 := hb2.size
  have HPT : Hid (PT w2 w1.heap.size u ps) := hpt
  have HO2 : Hid (w2.ownsRow w.heap.size 36 2 (.slice (some ⟨g, 0, none⟩) (ts.length + 2) cap) (ts.length + 2) (ndC (ts ++ [(-7, 0), (-8, 0)]))) := own_below HO.out hb2
  have HB2 : Hid (Below w.heap.size w w2) := go_on HB1.out hb2
  have hg1 : g < w1.heap.size := (lent_reads HO.out).2.1
  clear hpt hb2 HO
  simp only [ndV]
  go_wp2_with fail
  have HBA : Hid (Below w2.heap.size w2 (w2.alloc (.cells #[.int .i64 k, .int .u8 s] 36))) := (Below.refl _ _).alloc (Nat.le_refl _) _
  have HNA : Hid (NB (w2.alloc (.cells #[.int .i64 k, .int .u8 s] 36)) w2.heap.size k s) := NB.new w2 k s
  generalize w2.alloc (.cells #[.int .i64 k, .int .u8 s] 36) = wA at HBA HNA ⊢
  obtain ⟨b1, hb1e⟩ : ∃ b1, w2.heap.size = b1 := ⟨_, rfl⟩
  refine (rparts_any _ ts _ (HV.out.stay (go_on HB2.out HBA.out)) (by omega) HX.out.2).mono ?_
  rintro e w3 ⟨q, rfl, hq, hb3⟩
  rw [HQ.out.2.1] at hq
  rw [HQ.out.1, HQ.out.2.2]
  rw [hb1e] at HNA ⊢
  have HRQ : Hid (∀ w'', (∀ k, k < w3.heap.size → (Value.slice av ts.length cv).ownBlock = some k ∨ wA.heap.size ≤ k → w''.heap[k]? = w3.heap[k]?) → PReads w'' q ps) := hq
  have HR3 : Hid (PReads w3 q ps) := hq _ fun _ _ _ => rfl
  have hgA : w1.heap.size ≤ wA.heap.size := by have h1 := HBA.out.size; omega
  have HB3 : Hid (Below w.heap.size w w3) := go_on (go_on HB2.out HBA.out) hb3
  have HPT3 : Hid (PT w3 w1.heap.size u ps) := (HPT.out.stay HBA.out).stay hb3
  have HO3 : Hid (w3.ownsRow w.heap.size 36 2 (.slice (some ⟨g, 0, none⟩) (ts.length + 2) cap) (ts.length + 2) (ndC (ts ++ [(-7, 0), (-8, 0)]))) := own_below (own_below HO2.out HBA.out) hb3
  have HN3 : Hid (NB w3 b1 k s) := HNA.out.keep hb3
  have hsz : w1.heap.size ≤ w3.heap.size := by have h1 := HBA.out.size; have h2 := hb3.size; omega
  clear hq hb3 HNA HBA HPT HO2 hb1e HB2
  simp only [ndV]
  have e0 := fun O => (HN3.out.alloc O).fst
  have e1 := fun O => (HN3.out.alloc O).snd
  go_wp2_with fail
  have HBC : Hid (Below w3.heap.size w3 (w3.alloc (.cells #[.int .i64 k, .int .u8 s] 36))) := (Below.refl _ _).alloc (Nat.le_refl _) _
  generalize w3.alloc (.cells #[.int .i64 k, .int .u8 s] 36) = wC at HBC ⊢
  have HPT4 : Hid (PT wC w1.heap.size u ps) := HPT3.out.stay HBC.out
  have HO4 : Hid (wC.ownsRow w.heap.size 36 2 (.slice (some ⟨g, 0, none⟩) (ts.length + 2) cap) (ts.length + 2) (ndC (ts ++ [(-7, 0), (-8, 0)]))) := own_below HO3.out HBC.out
  have HR4 : Hid (PReads wC q ps) := HR3.out.stay HBC.out
  have HB4 : Hid (Below w.heap.size w wC) := go_on HB3.out HBC.out
  have HC4 : Hid (Below w3.heap.size w3 wC) := HBC.out
  have HW3 : Hid (Below w.heap.size w w3) := HB3.out
  have hsz4 : w1.heap.size ≤ wC.heap.size := by have := HBC.out.size; omega
  clear e0 e1 heq HPT3 HO3 HR3 HB3 HBC HN3 hsz
  refine (num_any _ _).mono ?_
  rintro e w5 ⟨rfl, rfl⟩
  go_wp2_with fail
  refine (sameTrees_any _ _ ps ps _ HPT4.out.reads HR4.out (fun i => by have := HSM.out.2 i; omega) (by have := HSM.out.1; omega)).mono ?_
  rintro e w6 ⟨rfl, hb6⟩
  rw [decide_eq_true (Eq.refl ps)]
  have HPT6 : Hid (PT w6 w1.heap.size u ps) := HPT4.out.stay hb6
  have HO6 : Hid (w6.ownsRow w.heap.size 36 2 (.slice (some ⟨g, 0, none⟩) (ts.length + 2) cap) (ts.length + 2) (ndC (ts ++ [(-7, 0), (-8, 0)]))) := own_below HO4.out hb6
  have HR6 : Hid (PReads w6 q ps) := HR4.out.stay hb6
  have HB6 : Hid (Below w.heap.size w w6) := go_on HB4.out hb6
  have HC6 : Hid (Below w3.heap.size w3 w6) := go_on HC4.out hb6
  have hsz6 : w1.heap.size ≤ w6.heap.size := by have := hb6.size; omega
  clear hb6 HPT4 HO4 HR4 HB4 hsz4
  go_wp2_with fail
  refine (stay_any _ ts _ (HV.out.stay HB6.out) _ g cap (by omega) HO6.out).mono ?_
  rintro e w7 ⟨rfl, hb7⟩
  have HPT7 : Hid (PT w7 w1.heap.size u ps) := HPT6.out.stay hb7
  have HO7 : Hid (w7.ownsRow w.heap.size 36 2 (.slice (some ⟨g, 0, none⟩) (ts.length + 2) cap) (ts.length + 2) (ndC (ts ++ [(-7, 0), (-8, 0)]))) := own_below HO6.out hb7
  have HR7 : Hid (PReads w7 q ps) := HR6.out.stay hb7
  have HB7 : Hid (Below w.heap.size w w7) := go_on HB6.out hb7
  have HC7 : Hid (Below w3.heap.size w3 w7) := go_on HC6.out hb7
  have hsz7 : w1.heap.size ≤ w7.heap.size := by have := hb7.size; omega
  clear hb7 HPT6 HO6 HR6 HB6 hsz6
  go_wp2_with fail
  refine (knows_any _ (HP.out.stay HB7.out)).mono ?_
  rintro e w8 ⟨rfl, hb8⟩
  have HPT8 : Hid (PT w8 w1.heap.size u ps) := HPT7.out.stay hb8
  have HO8 : Hid (w8.ownsRow w.heap.size 36 2 (.slice (some ⟨g, 0, none⟩) (ts.length + 2) cap) (ts.length + 2) (ndC (ts ++ [(-7, 0), (-8, 0)]))) := own_below HO7.out hb8
  have HR8 : Hid (PReads w8 q ps) := HR7.out.stay hb8
  have HB8 : Hid (Below w.heap.size w w8) := go_on HB7.out hb8
  have HC8 : Hid (Below w3.heap.size w3 w8) := go_on HC7.out hb8
  have hsz8 : w1.heap.size ≤ w8.heap.size := by have := hb8.size; omega
  clear hb8 HPT7 HO7 HR7 HB7 hsz7
  go_wp2_with fail
  refine (spoil_any w.heap.size g (ts.length + 2) ts.length cap (ts ++ [(-7, 0), (-8, 0)]) _ HO8.out (by simp) (by omega) (by omega) cap).mono ?_
  rintro e w9 ⟨rfl, hg9⟩
  have HPT9 : Hid (PT w9 w1.heap.size u ps) := HPT8.out.kept fun k' hk1 hk2 => hg9.block k' hk2 (fun e => by simp only [Option.some.injEq] at e; omega)
  have hgw : w.heap.size ≤ g := (HO8.out.lt g rfl).1
  have HB9 : Hid (Below w.heap.size w w9) := HB8.out.grown hg9 HB8.out.size (fun k' hk' => by simp only [Option.some.injEq] at hk'; omega)
  have HR9 : Hid (PReads w9 q ps) := by
    rcases HOWN.out with h0 | h0
    · obtain ⟨a', c', e, _⟩ := HR8.out
      show PReads _ _ _
      rw [e, h0]
      exact ⟨_, _, rfl, fun i hi => absurd hi (by simp)⟩
    · refine HRQ.out w9 (fun k' hl' hk' => ?_)
      rcases hk' with hk' | hk'
      · have hlt := h0 k' hk'
        rw [HB9.out.block k' hlt, HW3.out.block k' hlt]
      · rw [hg9.block k' (Nat.lt_of_lt_of_le hl' HC8.out.size) (fun e => by simp only [Option.some.injEq] at e; omega)]
        exact HC8.out.block k' hl'
  have hsz9 : w1.heap.size ≤ w9.heap.size := by have := hg9.size; omega
  have hww : w.heap.size ≤ w1.heap.size := HB1.out.size
  clear hg9 HPT8 HO8 HR8 HB8 hsz8 HRQ HC4 HC6 HC7 HC8 HW3
  go_wp2_with fail
  refine (sameTrees_any _ _ ps ps _ HPT9.out.reads HR9.out (fun i => by have := HSM.out.2 i; omega) (by have := HSM.out.1; omega)).mono ?_
  rintro e w10 ⟨rfl, hb10⟩
  rw [decide_eq_true (Eq.refl ps)]
  have HPT10 : Hid (PT w10 w1.heap.size u ps) := HPT9.out.stay hb10
  have HB10 : Hid (Below w.heap.size w w10) := go_on HB9.out hb10
  have hsz10 : w1.heap.size ≤ w10.heap.size := by have := hb10.size; omega
  clear hb10 HPT9 HR9 HB9 hsz9
  go_wp2_with fail
  refine (apart_pt HPT10.out hsz10 (by have := HSM.out.1; omega) (fun j _ => by have := HSM.out.2 j; omega)).mono ?_
  rintro e w11 ⟨rfl, hb11⟩
  have HB11 : Hid (Below w.heap.size w w11) := HB10.out.trans (hb11.mono hww)
  clear hb11
  go_wp2_with fail
  go_ret
  exact ⟨rfl, HB11.out⟩
/-! ### The row's step -/
theorem own : ownKnob Tryd.prog.godebug = none := by kernel_rfl
def laid1 : List (String × DataW Unit) := [("eggbox/tree.partsOf", Rows.laid_eggbox_tree_partsOf)]
def tabZ : List Int := [0, 0, 0, 0, 0, 2, 2, 2, 1, 1]
theorem gTab : Tryd.prog.globalNamed "eggbox/tree.partsOf" = some 0 := by kernel_rfl
theorem tTab : (Tryd.prog.globals[0]?).map (·.type) = some 63 := by kernel_rfl
theorem of_laid {W : World} (h : laidMetH Tryd.prog laid1 W) : PTab W := by
  rw [MakeChecks.laidMetH_plain _ _ _ (by kernel_rfl)] at h
  have ht : Lib.TabIs Tryd.prog W "eggbox/tree.partsOf" .i64 tabZ :=
    Lib.tabIs_of_head (rest := []) gTab tTab Tryd.underlying63 Tryd.underlying3 (by kernel_rfl) (by kernel_rfl) h
  intro j hj
  have := ht.cell gTab j hj
  rw [this]
  have hc : j = 0 ∨ j = 1 ∨ j = 2 ∨ j = 3 ∨ j = 4 ∨ j = 5 ∨ j = 6 ∨ j = 7 ∨ j = 8 ∨ j = 9 := by omega
  rcases hc with rfl | rfl | rfl | rfl | rfl | rfl | rfl | rfl | rfl | rfl <;> rfl
/-- The door's own heap meets the condition. -/
theorem door_met (os : Os) (args : Array Value) : laidMetH Tryd.prog laid1 ((World.doorLaid Tryd.prog 400 os).forCall (fun _ _ => 0) ⟨#[], args, []⟩).memory :=
  laidMetH_of_parts3 (fuel := 8) (laidMet_of_run' 8 (by kernel_rfl) (by kernel_rfl)) (by kernel_rfl) (by kernel_rfl)

set_option maxRecDepth 100000 in
theorem lifted (os : Os) (started : os.Started) (H : Type) (enc : TypeId × Value → H) :
    ReturnsInHanded {} Tryd.checked os 4 .any (fun w args => (Rows.treePartsSpec.pre enc Tryd.prog Tryd.f4 [] false w args ∧ laidMetH Tryd.prog laid1 w) ∧ sizedMet enc Tryd.prog Tryd.f4 (OpenSpec.ofChange Rows.treePartsSpec) false w args)
      (Rows.treePartsSpec.post enc Tryd.prog Tryd.f4 false true false false) := by
  refine returnsInHanded_of_change_and (C := Tryd.checked) (X := fun w _ => laidMetH Tryd.prog laid1 w) (fun _ _ _ hh h => h.of_heap hh) own started (by kernel_rfl) Tryd.func4
    (ChangeSpec.witness_shaped (enc := enc) (C := Tryd.checked) (os := os) (X := fun w _ => laidMetH Tryd.prog laid1 w) false (World.doorLaid Tryd.prog 400 os) #[.slice none 0 0] 8 rfl (World.shaped_of_RefB (by kernel_rfl) (by kernel_rfl)) (by kernel_rfl) (by kernel_rfl) (by kernel_rfl) (door_met os _)) ?_
  intro W base args ds gs before hval0 hW _ hsz0 hL _
  have hval : ∀ (j : Nat) t v, Tryd.f4.params[j]? = some t → args[j]? = some v → Value.okWide Tryd.prog W .any base t v := hval0
  have hW' := hW
  obtain ⟨p, q, hA0, hV, rfl, hfz, hnd⟩ := hW
  have hA : DataW.TrodAll enc Tryd.prog W 0 (fun _ => true) true Tryd.f4.params.toList args.toList ds p := hA0
  have hsz : (DataW.weightsEach Tryd.prog (Tryd.f4.params.toList ++ Rows.treePartsSpec.plain.varTypes Tryd.prog) (ds ++ gs)).all (· ≤ reachBytes) = true := hsz0
  rw [Tryd.params4] at hA hval hsz
  obtain ⟨v0, vs0, d0, ds0, p0, q0, hargs, rfl, rfl, h0, r0⟩ := trodAll_cons hA
  obtain ⟨rfl, rfl, rfl⟩ := trodAll_nil r0
  obtain rfl : args = #[v0] := by cases args; simp_all
  obtain ⟨rfl, rfl⟩ := trodVars_none hV
  obtain ⟨a0, w0, x0, y0⟩ := open_nodes (hval 0 22 v0 rfl rfl) h0
  have s0 : (a0.length + 2) * 16 ≤ 140737488355328 := by
    rcases y0 with ⟨_, rfl⟩ | ⟨e, s, rfl, hy⟩
    · decide
    · have := sized_slice hsz (j := 0) (t := 22) rfl rfl Tryd.underlying22
      rw [Tryd.bytes_node] at this
      simp only [reachBytes] at this
      omega
  have z0 : a0.length ≤ 9223372036854775806 := by omega
  have g0 : ∀ x ∈ p0, x.block < W.heap.size := fun x hx => hW'.lt x (by simp [hx])
  have hTz := of_laid hL
  clear hA0 hval0
  refine (walk v0 a0 W w0 x0 s0 hTz).mono fun e W' ⟨he, bel⟩ => ?_
  subst he
  exact ⟨_, rfl, _, _, _, [], _, [], hW', trodAll_mk1 (shut_bool Tryd.underlying4 _), (trodAll_cons_mk (Below.trod Tryd.laidOut (by kernel_rfl) (of_decide_eq_true (by kernel_rfl)) h0 bel g0) trodAll_mk0), rfl, bel.frame _, fun h => by cases h⟩

theorem over : Rows.TreePartsSaid :=
  OpenClaim.holds_of_wide 4 Tryd.f4 rfl rfl rfl rfl rfl rfl rfl ⟨rfl, rfl, rfl, rfl, rfl⟩ rfl rfl rfl rfl rfl (by kernel_rfl) Tryd.func4 (by kernel_rfl)
    (of_decide_eq_true (by kernel_rfl)) (by unfold Func.isWrapper; first | (rw [if_pos (by decide +kernel)]; kernel_rfl) | (rw [if_neg (by decide +kernel)]; exact ⟨rfl, rfl⟩))
    (fun os started H enc _ => lifted os started H enc)

theorem card : Rows.TreePartsCardSaid :=
  Claim7.holds_tied_plain_at .later [] [.data] true (true, "014b10a7dc2b80ed82ed1e55c7eae7f3da860af38cf5edac7383b099fbb40189") false
    over (fun _ h => by cases h) (by kernel_rfl) (fun _ h => by cases h) treeParts_row_tie rfl ⟨rfl, rfl⟩ (by kernel_rfl) rfl
    (fun f fn hf hfn => by
      obtain rfl : f = 4 := Option.some.inj ((show Tryd.prog.funcNamed "eggbox/eggboxlaw03.TreeParts" = some 4 by kernel_rfl).symm.trans hf) |>.symm
      obtain rfl : fn = Tryd.f4 := (Option.some.inj (Tryd.func4.symm.trans hfn)).symm
      exact ⟨by kernel_rfl, fun j t ht => by
        rw [Tryd.params4] at ht
        have hm : t ∈ [22] := by simpa using Array.mem_of_getElem? ht
        have hall : ([22].all fun u => !Tryd.prog.wantsStandIn u) = true := by kernel_rfl
        exact (show Tryd.prog.wantsStandIn t = false by simpa using List.all_eq_true.1 hall t hm)⟩)
    (by kernel_rfl)

end Go.Proofs.YtchaggigabccaaaDoor.treeParts
namespace Go.Proofs.YtchaggigabccaaaDoor
/-- The given statement. -/
theorem treeParts_holds : Rows.TreePartsCardSaid := treeParts.card
end Go.Proofs.YtchaggigabccaaaDoor
