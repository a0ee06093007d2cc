/- Proved: the card of eggboxlaw02.BitsLooks: it answers true at every set and every i (P2.4), with math/bits.deBruijn64tab as the program's text lays it: bits.Next and bits.Rank answer what the document's Next and Rank answer; its arguments read behind the call as before. The card ties the variable to the pruned copy of the project that the seat holds. -/
import Derived.Test.YtghchlppdhfoeaaDoorDx
import Derived.Test.YtghchlppdhfoeaaDoorBk
import Derived.Deep.RegionHeld3
import Derived.ProofKit
import Derived.OpenShut
import Derived.ShutString
import Derived.ChangeOld
import Derived.JoinedCond
import Derived.LaidMore
import Derived.Stop.Joined
import Derived.Lib.LaidTab
import Derived.SevenTiedAt
import Derived.Test.YtghchlppdhfoeaaDoorTie
import Derived.Test.YtghchlppdhfoeaaDoorCards
namespace Go.Proofs.YtghchlppdhfoeaaDoor.bitsLooks
open Go.ChangeShapes Go.WideShapes Go.ChangeAt Go.RowKit
set_option linter.unusedVariables false

/-- The set lies where it lay; nothing below W's end is written. -/
abbrev S1 (W : World) (p : Nat) (l : Array Value) (w' : World) : Prop := (∀ o, w'.cell? ⟨p, o, none⟩ = l[o]?) ∧ Below W.heap.size W w'
theorem s1_of {W : World} {p : Nat} {l : Array Value} (r : RowAt W p l) {w' : World} (h : Below W.heap.size W w') : S1 W p l w' := ⟨(r.stay h).cell, h⟩
theorem s1_step {W : World} {p : Nat} {l : Array Value} (r : RowAt W p l) {w1 w2 : World} (hb : Below w1.heap.size w1 w2) (h : S1 W p l w1) : S1 W p l w2 := s1_of r (go_on h.2 hb)
theorem s1_below {W : World} {p : Nat} {l : Array Value} {w' : World} (h : S1 W p l w') : Below W.heap.size W w' := h.2

set_option maxHeartbeats 8000000 in
set_option maxRecDepth 100000 in
theorem walk (N : Nat) (i : Int) (hN : Fits N) (hi : (Lit.int .i64 i).wf = true) (w : World) (hT : TzTab w) :
    Calls Tryd.prog 4 #[setV N, .int .i64 i] w fun e w' => e = .returned (.bool true) ∧ Below w.heap.size w w' := by
  clear hi
  have r0 := RowAt.last w (cellsF (word N)) 25
  have BB := (Below.refl w.heap.size w).alloc (Nat.le_refl _) (.cells (cellsF (word N)) 25)
  have HT : Hid (TzTab (w.alloc (.cells (cellsF (word N)) 25))) := hT.alloc _
  obtain ⟨c, HC⟩ : ∃ c, Hid (rankN N i = c) := ⟨_, rfl⟩
  clear hT
  unfold setV cellsF
  unfold cellsF at r0 BB HT
  go_enter Tryd.func4, Tryd.ntmps4
  go_wp2_with fail
  refine (next_any N hN i _ HT.out).mono ?_
  rintro e w1 ⟨⟨n, ok, rfl, hx⟩, hb1⟩
  have rs := RowAt.stay r0 hb1
  have cs := RowAt.cell rs
  have BB := go_on BB hb1
  have HX : Hid (NextIs N i n ok) := hx
  clear hx hb1 r0 HT
  go_wp2_with fail
  refine (rnext_any N hN i _).mono ?_
  rintro e W ⟨⟨n', ok', rfl, hy⟩, hb2⟩
  obtain ⟨e1, e2⟩ := NextIs.one HX.out hy
  subst e1 e2
  have rs := RowAt.stay rs hb2
  have cs := RowAt.cell rs
  have BB := go_on BB hb2
  have BW : Hid (Below w.heap.size w W) := BB
  clear hy hb2 HX
  have S0 : S1 W w.heap.size #[.int .u64 (word N 0 : Nat), .int .u64 (word N 1 : Nat), .int .u64 (word N 2 : Nat), .int .u64 (word N 3 : Nat), .int .u64 (word N 4 : Nat), .int .u64 (word N 5 : Nat), .int .u64 (word N 6 : Nat), .int .u64 (word N 7 : Nat)] W.drew := s1_of rs (Below.refl _ _).drew
  go_wp2_with fail
  go_region_held3 (fun w' => S1 W w.heap.size #[.int .u64 (word N 0 : Nat), .int .u64 (word N 1 : Nat), .int .u64 (word N 2 : Nat), .int .u64 (word N 3 : Nat), .int .u64 (word N 4 : Nat), .int .u64 (word N 5 : Nat), .int .u64 (word N 6 : Nat), .int .u64 (word N 7 : Nat)] w') (first | exact S0 | exact s1_step rs (by assumption) (by assumption)) (first
    | (go_at_call 24; refine (rank_any N i _).mono ?_; rintro e w3 ⟨rfl, hb3⟩; rw [HC.out])
    | (go_at_call 25; refine (rrank_any N i _).mono ?_; rintro e w4 ⟨rfl, hb4⟩; rw [HC.out])
    | (go_at_call 21; refine (live_any _).mono ?_; rintro e wl ⟨rfl, hbl⟩))
  all_goals go_wp2_with fail
  all_goals go_ret
  all_goals exact ⟨rfl, go_on BW.out (s1_below (by assumption))⟩

/-! ### The row's step -/
theorem own : ownKnob Tryd.prog.godebug = none := by kernel_rfl
def laid1 : List (String × DataW Unit) := [("math/bits.deBruijn64tab", Rows.laid_math_bits_deBruijn64tab)]
def tabZ : List Int := Lib.deBruijn64tab.map fun (z : Nat) => (z : Int)
theorem gTab : Tryd.prog.globalNamed "math/bits.deBruijn64tab" = some 0 := by kernel_rfl
theorem tTab : (Tryd.prog.globals[0]?).map (·.type) = some 59 := by kernel_rfl
theorem of_laid {W : World} (h : laidMetH Tryd.prog laid1 W) : TzTab W := by
  rw [MakeChecks.laidMetH_plain _ _ _ (by kernel_rfl)] at h
  have ht : Lib.TabIs Tryd.prog W "math/bits.deBruijn64tab" .u8 tabZ :=
    Lib.tabIs_of_head (rest := []) gTab tTab Tryd.underlying59 Tryd.underlying5 (by kernel_rfl) (by kernel_rfl) h
  intro j hj
  have := ht.cell gTab j hj
  rw [this]
  have e : tabZ.getD j 0 = ((Lib.deBruijn64tab.getD j 0 : Nat) : Int) := by
    unfold tabZ
    rw [List.getD_eq_getElem?_getD, List.getElem?_map, List.getD_eq_getElem?_getD]
    cases Lib.deBruijn64tab[j]? <;> rfl
  rw [e]
/-- The door's own heap meets the condition. -/
theorem door_met (os : Os) (args : Array Value) : laidMetH Tryd.prog laid1 ((World.doorLaid Tryd.prog 400 os).forCall (fun _ _ => 0) ⟨#[], args, []⟩).memory :=
  laidMetH_of_parts3 (fuel := 8) (laidMet_of_run' 8 (by kernel_rfl) (by kernel_rfl)) (by kernel_rfl) (by kernel_rfl)

set_option maxRecDepth 100000 in
theorem lifted (os : Os) (started : os.Started) (H : Type) (enc : TypeId × Value → H) :
    ReturnsInHanded {} Tryd.checked os 4 .any (fun w args => (Rows.bitsLooksSpec.pre enc Tryd.prog Tryd.f4 [] false w args ∧ laidMetH Tryd.prog laid1 w) ∧ sizedMet enc Tryd.prog Tryd.f4 (OpenSpec.ofChange Rows.bitsLooksSpec) false w args)
      (Rows.bitsLooksSpec.post enc Tryd.prog Tryd.f4 false true false false) := by
  refine returnsInHanded_of_change_and (C := Tryd.checked) (X := fun w _ => laidMetH Tryd.prog laid1 w) (fun _ _ _ hh h => h.of_heap hh) own started (by kernel_rfl) Tryd.func4
    (ChangeSpec.witness_shaped (enc := enc) (C := Tryd.checked) (os := os) (X := fun w _ => laidMetH Tryd.prog laid1 w) false (World.doorLaid Tryd.prog 400 os) #[.agg #[.int .u64 0, .int .u64 0, .int .u64 0, .int .u64 0, .int .u64 0, .int .u64 0, .int .u64 0, .int .u64 0], .int .i64 0] 8 rfl (World.shaped_of_RefB (by kernel_rfl) (by kernel_rfl)) (by kernel_rfl) (by kernel_rfl) (by kernel_rfl) (door_met os _)) ?_
  intro W base args ds gs before hval0 hW _ _ hL _
  have hval : ∀ (j : Nat) t v, Tryd.f4.params[j]? = some t → args[j]? = some v → Value.okWide Tryd.prog W .any base t v := hval0
  have hW' := hW
  obtain ⟨p, q, hA0, hV, rfl, hfz, hnd⟩ := hW
  have hA : DataW.TrodAll enc Tryd.prog W 0 (fun _ => true) true Tryd.f4.params.toList args.toList ds p := hA0
  rw [Tryd.params4] at hA hval
  obtain ⟨v0, vs0, d0, ds0, p0, q0, hargs, rfl, rfl, h0, r0⟩ := trodAll_cons hA
  obtain ⟨v1, vs1, d1, ds1, p1, q1, rfl, rfl, rfl, h1, r1⟩ := trodAll_cons r0
  obtain ⟨rfl, rfl, rfl⟩ := trodAll_nil r1
  obtain rfl : args = #[v0, v1] := by cases args; simp_all
  obtain ⟨rfl, rfl⟩ := trodVars_none hV
  obtain ⟨a0, rfl, rfl, rfl, w0⟩ := open_set (hval 0 25 v0 rfl rfl) h0
  obtain ⟨a1, rfl, rfl, rfl, w1⟩ := open_int Tryd.underlying3 (hval 1 3 v1 rfl rfl) h1
  have hTz := of_laid hL
  clear hA0 hval0
  refine (walk a0 a1 w0 w1 W hTz).mono fun e W' ⟨he, bel⟩ => ?_
  subst he
  exact ⟨_, rfl, _, _, _, [], _, [], hW', trodAll_mk1 (shut_bool Tryd.underlying4 _), (trodAll_cons_mk (shut_set a0) (trodAll_cons_mk (shut_int Tryd.underlying3 w1) trodAll_mk0)), rfl, bel.frame _, fun h => by cases h⟩

theorem over : Rows.BitsLooksSaid :=
  OpenClaim.holds_of_wide 4 Tryd.f4 rfl rfl rfl rfl rfl rfl rfl ⟨rfl, rfl, rfl, rfl, rfl⟩ rfl rfl rfl rfl rfl (by kernel_rfl) Tryd.func4 (by kernel_rfl)
    (of_decide_eq_true (by kernel_rfl)) (by unfold Func.isWrapper; first | (rw [if_pos (by decide +kernel)]; kernel_rfl) | (rw [if_neg (by decide +kernel)]; exact ⟨rfl, rfl⟩))
    (fun os started H enc _ => lifted os started H enc)

theorem card : Rows.BitsLooksCardSaid :=
  Claim7.holds_tied_plain_at .later [] [.data] true (true, "10f1409fac56ec0525264c076ff2ea3d8a215bd17a89e180a65c30fe477c6874") false
    over (fun _ h => by cases h) (by kernel_rfl) (fun _ h => by cases h) bitsLooks_row_tie rfl ⟨rfl, rfl⟩ (by kernel_rfl) rfl
    (fun f fn hf hfn => by
      obtain rfl : f = 4 := Option.some.inj ((show Tryd.prog.funcNamed "eggbox/eggboxlaw02.BitsLooks" = some 4 by kernel_rfl).symm.trans hf) |>.symm
      obtain rfl : fn = Tryd.f4 := (Option.some.inj (Tryd.func4.symm.trans hfn)).symm
      exact ⟨by kernel_rfl, fun j t ht => by
        rw [Tryd.params4] at ht
        have hm : t ∈ [25, 3] := by simpa using Array.mem_of_getElem? ht
        have hall : ([25, 3].all fun u => !Tryd.prog.wantsStandIn u) = true := by kernel_rfl
        exact (show Tryd.prog.wantsStandIn t = false by simpa using List.all_eq_true.1 hall t hm)⟩)
    (by kernel_rfl)

end Go.Proofs.YtghchlppdhfoeaaDoor.bitsLooks
namespace Go.Proofs.YtghchlppdhfoeaaDoor
/-- The given statement. -/
theorem bitsLooks_holds : Rows.BitsLooksCardSaid := bitsLooks.card
end Go.Proofs.YtghchlppdhfoeaaDoor
