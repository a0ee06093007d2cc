/- Proved: the card of eggboxlaw07.DerivSteps: it answers true at every list of nodes and every byte (P702), with math/bits.deBruijn64tab and tree.partsOf as the program's text lays them: deriv.Deriv answers what the document's rules answer, error or tree, looks at its argument alone and leaves it as it was, and its answer is a list of its own; its arguments read behind the call as before. The card ties the variables to the pruned copy of the project that the seat holds. -/
import Derived.Test.YtfdhaknecjcjoaaGreatDoorPEz
import Derived.Test.YtfdhaknecjcjoaaGreatDoorPOa
import Derived.Test.YtfdhaknecjcjoaaGreatDoorPTl
import Derived.Test.YtfdhaknecjcjoaaGreatDoorPTn
import Derived.LaidMore
import Derived.Stop.Joined
import Derived.Stop.LaidErr
import Derived.Lib.LaidTab
import Derived.SevenTiedAt
import Derived.ShutString
import Derived.ChangeMaps5
import Derived.Test.YtfdhaknecjcjoaaGreatDoorTie
import Derived.Test.YtfdhaknecjcjoaaGreatDoorCards
namespace Go.Proofs.YtfdhaknecjcjoaaGreatDoor.derivSteps
open Go.ChangeShapes Go.WideShapes Go.ChangeAt Go.RowKit
open Go.ChangeMaps (open_string shut_string)
set_option linter.unusedVariables false

theorem u8_bounds {n:Int} (h:(Lit.int .u8 n).wf=true):0≤n∧n≤255:=by
 simp only [Lit.wf,Bool.and_eq_true,decide_eq_true_eq] at h
 have h1:IntKind.u8.min=0:=by decide
 have h2:IntKind.u8.max=255:=by decide
 rw [h1,h2] at h
 exact h

set_option maxHeartbeats 16000000 in
set_option maxRecDepth 100000 in
theorem walk (v:Value) (ts:List Nd) (x:Int) (w:World) (hv:NReads w v ts) (hx:(∀ c,v=.slice none 0 c→c=0)∧∀ a n c,v=.slice a n c→n≤c) (hl:(ts.length+2) * 16≤140737488355328) (hb8:(Lit.int .u8 x).wf=true) (hP:PTab w) (hT:TzTab w) :
  Calls Tryz.prog 3 #[v,.int .u8 x] w fun e w'=>e=.returned (.bool true)∧Below w.heap.size w w':=by
 have HV:Hid (NReads w v ts):=hv
 have HP:Hid (PTab w):=hP
 have HT:Hid (TzTab w):=hT
 have HX:Hid ((∀ c,v=.slice none 0 c→c=0)∧∀ a n c,v=.slice a n c→n≤c):=hx
 have HX8:Hid (0≤x∧x≤255):=u8_bounds hb8
 obtain ⟨av,cv,rfl,_⟩:=hv
 have hcv:ts.length≤cv:=hx.2 _ _ _ rfl
 obtain ⟨E,R,hN⟩:=dv_ex ts x
 have HN:Hid (DvR ts x E R):=hN
 have hR:R.length≤4000:=dv_len hN
 clear hP hT hx hN hb8
 go_enter Tryz.func3,Tryz.ntmps3
 go_wp2_with fail
 refine (lent_any _ ts _ HV.out HX.out.1 hl).mono ?_
 rintro e w1 ⟨g,cap,rfl,ho,hb⟩
 have hww:=hb.size
 have hg1:g<w1.heap.size:=(lent_reads ho).2.1
 have HB1:Hid (Below w.heap.size w w1):=hb
 have HO1:Hid (w1.ownsRow w.heap.size 51 2 (.slice (some ⟨g,0,none⟩) (ts.length+2) cap) (ts.length+2) (ndC (ts ++ [(-7,0),(-8,0)]))):=ho
 clear hb ho
 go_wp2_with fail
 refine (dderiv_dn HN.out _ _ HX8.out.1 HX8.out.2 (lent_reads HO1.out).1 (by omega) (HP.out.stay HB1.out) (HT.out.stay HB1.out)).mono ?_
 rintro e w2 ⟨u,rfl,ho,hb⟩
 obtain ⟨aa,ac,rfl⟩:=own_one ho
 have HB2:Hid (Below w.heap.size w w2):=go_on HB1.out hb
 have hs2:=hb.size
 have HO2:Hid (w2.ownsRow w.heap.size 51 2 (.slice (some ⟨g,0,none⟩) (ts.length+2) cap) (ts.length+2) (ndC (ts ++ [(-7,0),(-8,0)]))):=own_below HO1.out hb
 have HA2:Hid (w2.ownsRow w1.heap.size 51 2 (.slice aa R.length ac) R.length (ndC R)):=ho
 clear hb ho HO1
 go_wp2_with fail
 refine (rderiv_dn HN.out _ _ _ HX8.out.1 HX8.out.2 (HV.out.stay HB2.out) (by omega) hcv).mono ?_
 rintro e w4 ⟨u,rfl,ho,hb⟩
 obtain ⟨ca,cc,rfl⟩:=own_one ho
 have HB4:Hid (Below w.heap.size w w4):=go_on HB2.out hb
 have hs4:=hb.size
 have HO4:Hid (w4.ownsRow w.heap.size 51 2 (.slice (some ⟨g,0,none⟩) (ts.length+2) cap) (ts.length+2) (ndC (ts ++ [(-7,0),(-8,0)]))):=own_below HO2.out hb
 have HA4:Hid (w4.ownsRow w1.heap.size 51 2 (.slice aa R.length ac) R.length (ndC R)):=own_below HA2.out hb
 have HC4:Hid (w4.ownsRow w2.heap.size 51 2 (.slice ca R.length cc) R.length (ndC R)):=ho
 clear hb ho HO2 HA2 HB2
 go_wp2_with fail
 refine (num7_any _ _).mono ?_
 rintro e wp ⟨rfl,rfl⟩
 go_wp2_with fail
 refine (stay_any _ ts _ (HV.out.stay HB4.out) _ g cap (by omega) HO4.out).mono ?_
 rintro e w6 ⟨rfl,hb⟩
 have HB6:Hid (Below w.heap.size w w6):=go_on HB4.out hb
 have hs6:=hb.size
 have HO6:Hid (w6.ownsRow w.heap.size 51 2 (.slice (some ⟨g,0,none⟩) (ts.length+2) cap) (ts.length+2) (ndC (ts ++ [(-7,0),(-8,0)]))):=own_below HO4.out hb
 have HA6:Hid (w6.ownsRow w1.heap.size 51 2 (.slice aa R.length ac) R.length (ndC R)):=own_below HA4.out hb
 have HC6:Hid (w6.ownsRow w2.heap.size 51 2 (.slice ca R.length cc) R.length (ndC R)):=own_below HC4.out hb
 clear hb HO4 HA4 HC4 HB4
 go_wp2_with fail
 refine (knows7_any _ (HP.out.stay HB6.out) (HT.out.stay HB6.out)).mono ?_
 rintro e w7 ⟨rfl,hb⟩
 have HB7:Hid (Below w.heap.size w w7):=go_on HB6.out hb
 have hs7:=hb.size
 have HO7:Hid (w7.ownsRow w.heap.size 51 2 (.slice (some ⟨g,0,none⟩) (ts.length+2) cap) (ts.length+2) (ndC (ts ++ [(-7,0),(-8,0)]))):=own_below HO6.out hb
 have HA7:Hid (w7.ownsRow w1.heap.size 51 2 (.slice aa R.length ac) R.length (ndC R)):=own_below HA6.out hb
 have HC7:Hid (w7.ownsRow w2.heap.size 51 2 (.slice ca R.length cc) R.length (ndC R)):=own_below HC6.out hb
 clear hb HO6 HA6 HC6 HB6
 go_wp2_with fail
 refine (spoil_any w.heap.size g (ts.length+2) ts.length cap (ts ++ [(-7,0),(-8,0)]) _ HO7.out (by simp) (by omega) (by omega) cap).mono ?_
 rintro e w8 ⟨rfl,hg⟩
 have hgb8:=HO7.out.lt g rfl
 have HB8:Hid (Below w.heap.size w w8):=HB7.out.grown hg HB7.out.size (fun k hk=>by simp only [Option.some.injEq] at hk;omega)
 have HA8:Hid (w8.ownsRow w1.heap.size 51 2 (.slice aa R.length ac) R.length (ndC R)):=own_of_heap HA7.out (fun b hb=>hg.block b (HA7.out.lt b hb).2 (fun e=>by simp only [Option.some.injEq] at e;have x:=(HA7.out.lt b hb).1;have y:=hg1;omega))
 have HC8:Hid (w8.ownsRow w2.heap.size 51 2 (.slice ca R.length cc) R.length (ndC R)):=own_of_heap HC7.out (fun b hb=>hg.block b (HC7.out.lt b hb).2 (fun e=>by simp only [Option.some.injEq] at e;have x:=(HC7.out.lt b hb).1;have y:=hg1;omega))
 clear hg HO7 HA7 HC7 HB7
 go_wp2_with fail
 refine (same_any _ _ R R _ (own_nreads HA8.out) (own_nreads HC8.out) (by omega)).mono ?_
 rintro e w9 ⟨rfl,hb⟩
 rw [decide_eq_true (Eq.refl R)]
 have HB9:Hid (Below w.heap.size w w9):=go_on HB8.out hb
 clear hb
 go_wp2_with fail
 go_ret
 exact ⟨rfl,HB9.out⟩

/-! ### The row's step -/
theorem own:ownKnob Tryz.prog.godebug=none:=by kernel_rfl
def laid1 : List (String × DataW Unit) := [("math/bits.deBruijn64tab", Rows.laid_math_bits_deBruijn64tab), ("eggbox/tree.partsOf", Rows.laid_eggbox_tree_partsOf)]
def tabZ:List Int:=[0,0,0,0,0,2,2,2,1,1]
def tabT:List Int:=Lib.deBruijn64tab.map fun (z:Nat)=>(z:Int)
theorem gTab : Tryz.prog.globalNamed "eggbox/tree.partsOf" = some 0 := by kernel_rfl
theorem tTab:(Tryz.prog.globals[0]?).map (·.type)=some 136:=by kernel_rfl
theorem gTz : Tryz.prog.globalNamed "math/bits.deBruijn64tab" = some 1 := by kernel_rfl
theorem tTz:(Tryz.prog.globals[1]?).map (·.type)=some 183:=by kernel_rfl
theorem of_laid {W:World} (h:laidMetH Tryz.prog laid1 W):PTab W∧TzTab W:=by
 rw [MakeChecks.laidMetH_plain _ _ _ (by kernel_rfl)] at h
 have h1 : Lib.TabIs Tryz.prog W "math/bits.deBruijn64tab" .u8 tabT :=
  Lib.tabIs_of_head (rest := [("eggbox/tree.partsOf", Rows.laid_eggbox_tree_partsOf)]) gTz tTz Tryz.underlying183 Tryz.underlying5 (by kernel_rfl) (by kernel_rfl) h
 have h2 : Lib.TabIs Tryz.prog W "eggbox/tree.partsOf" .i64 tabZ :=
  Lib.tabIs_of_head (rest:=[]) gTab tTab Tryz.underlying136 Tryz.underlying3 (by kernel_rfl) (by kernel_rfl) h.tail
 refine ⟨fun j hj=>?_,fun j hj=>?_⟩
 ·have:=h2.cell gTab j hj
  rw [this]
  have hc:j=0∨j=1∨j=2∨j=3∨j=4∨j=5∨j=6∨j=7∨j=8∨j=9:=by omega
  rcases hc with rfl | rfl | rfl | rfl | rfl | rfl | rfl | rfl | rfl | rfl <;> rfl
 ·have:=h1.cell gTz j hj
  rw [this]
  have e:tabT.getD j 0=((Lib.deBruijn64tab.getD j 0:Nat):Int):=by
   unfold tabT
   rw [List.getD_eq_getElem?_getD,List.getElem?_map,List.getD_eq_getElem?_getD]
   cases Lib.deBruijn64tab[j]? <;> rfl
  rw [e]
/-- The door's own heap meets the condition. -/
theorem door_met (os:Os) (args:Array Value):laidMetH Tryz.prog laid1 ((World.doorLaid Tryz.prog 400 os).forCall (fun _ _=>0) ⟨#[],args,[]⟩).memory :=
 laidMetH_of_parts3 (fuel:=8) (laidMet_of_run' 8 (by kernel_rfl) (by kernel_rfl)) (by kernel_rfl) (by kernel_rfl)

set_option maxRecDepth 100000 in
theorem lifted (os : Os) (started : os.Started) (H : Type) (enc : TypeId × Value → H) :
  ReturnsInHanded {} Tryz.checked os 3 .any (fun w args=>(Rows.derivStepsSpec.pre enc Tryz.prog Tryz.f3 [] false w args∧laidMetH Tryz.prog laid1 w)∧sizedMet enc Tryz.prog Tryz.f3 (OpenSpec.ofChange Rows.derivStepsSpec) false w args)
   (Rows.derivStepsSpec.post enc Tryz.prog Tryz.f3 false true false false):=by
 refine returnsInHanded_of_change_and (C:=Tryz.checked) (X:=fun w _=>laidMetH Tryz.prog laid1 w) (fun _ _ _ hh h=>h.of_heap hh) own started (by kernel_rfl) Tryz.func3
  (ChangeSpec.witness_shaped (enc:=enc) (C:=Tryz.checked) (os:=os) (X:=fun w _=>laidMetH Tryz.prog laid1 w) false (World.doorLaid Tryz.prog 400 os) #[.slice none 0 0,.int .u8 0] 8 rfl (World.shaped_of_RefB (by kernel_rfl) (by kernel_rfl)) (by kernel_rfl) (by kernel_rfl) (by kernel_rfl) (door_met os _)) ?_
 intro W base args ds gs before hval0 hW _ hsz0 hL _
 have hval:∀ (j:Nat) t v,Tryz.f3.params[j]?=some t→args[j]?=some v→Value.okWide Tryz.prog W .any base t v:=hval0
 have hW':=hW
 obtain ⟨p,q,hA0,hV,rfl,hfz,hnd⟩:=hW
 have hA:DataW.TrodAll enc Tryz.prog W 0 (fun _=>true) true Tryz.f3.params.toList args.toList ds p:=hA0
 have hsz:(DataW.weightsEach Tryz.prog (Tryz.f3.params.toList ++ Rows.derivStepsSpec.plain.varTypes Tryz.prog) (ds ++ gs)).all (·≤reachBytes)=true:=hsz0
 rw [Tryz.params3] at hA hval hsz
 obtain ⟨v0,vs0,d0,ds0,p0,q0,hargs,rfl,rfl,h0,r0⟩:=trodAll_cons hA
 obtain ⟨v1,vs1,d1,ds1,p1,q1,rfl,rfl,rfl,h1,r1⟩:=trodAll_cons r0
 obtain ⟨rfl,rfl,rfl⟩:=trodAll_nil r1
 obtain rfl:args=#[v0,v1]:=by cases args;simp_all
 obtain ⟨rfl,rfl⟩:=trodVars_none hV
 obtain ⟨a0,w0,x0,y0⟩:=open_nodes (hval 0 22 v0 rfl rfl) h0
 have s0:(a0.length+2) * 16≤140737488355328:=by
  rcases y0 with ⟨_,rfl⟩ | ⟨e,s,rfl,hy⟩
  ·decide
  ·have:=sized_slice hsz (j:=0) (t:=22) rfl rfl Tryz.underlying22
   rw [Tryz.bytes_node] at this
   simp only [reachBytes] at this
   omega
 have z0:a0.length≤9223372036854775806:=by omega
 have g0:∀ x ∈ p0,x.block<W.heap.size:=fun x hx=>hW'.lt x (by simp [hx])
 obtain ⟨a1,rfl,rfl,rfl,w1⟩:=open_int Tryz.underlying5 (hval 1 5 v1 rfl rfl) h1
 have hTz:=of_laid hL
 clear hA0 hval0
 refine (walk v0 a0 a1 W w0 x0 s0 w1 hTz.1 hTz.2).mono fun e W' ⟨he,bel⟩=>?_
 subst he
 exact ⟨_,rfl,_,_,_,[],_,[],hW',trodAll_mk1 (shut_bool Tryz.underlying4 _),(trodAll_cons_mk (Below.trod Tryz.laidOut (by kernel_rfl) (of_decide_eq_true (by kernel_rfl)) h0 bel g0) (trodAll_cons_mk (shut_int Tryz.underlying5 w1) trodAll_mk0)),rfl,bel.frame _,fun h=>by cases h⟩

theorem over : Rows.DerivStepsSaid :=
 OpenClaim.holds_of_wide 3 Tryz.f3 rfl rfl rfl rfl rfl rfl rfl ⟨rfl,rfl,rfl,rfl,rfl⟩ rfl rfl rfl rfl rfl (by kernel_rfl) Tryz.func3 (by kernel_rfl)
  (of_decide_eq_true (by kernel_rfl)) (by unfold Func.isWrapper;first | (rw [if_pos (by decide +kernel)];kernel_rfl) | (rw [if_neg (by decide +kernel)];exact ⟨rfl,rfl⟩))
  (fun os started H enc _=>lifted os started H enc)

theorem card : Rows.DerivStepsCardSaid :=
 Claim7.holds_tied_plain_at .later [] [.data, .data] true (true, "f1ddeb86a404e66433fc3edcced06eb03424df9f8f2b565ab381a835c8e8444c") false
  over (fun _ h=>by cases h) (by kernel_rfl) (fun _ h=>by cases h) derivSteps_row_tie rfl ⟨rfl,rfl⟩ (by kernel_rfl) rfl
  (fun f fn hf hfn=>by
   obtain rfl : f = 3 := Option.some.inj ((show Tryz.prog.funcNamed "eggbox/eggboxlaw07.DerivSteps" = some 3 by kernel_rfl).symm.trans hf) |>.symm
   obtain rfl:fn=Tryz.f3:=(Option.some.inj (Tryz.func3.symm.trans hfn)).symm
   exact ⟨by kernel_rfl,fun j t ht=>by
    rw [Tryz.params3] at ht
    have hm:t ∈ [22,5]:=by simpa using Array.mem_of_getElem? ht
    have hall:([22,5].all fun u=>!Tryz.prog.wantsStandIn u)=true:=by kernel_rfl
    exact (show Tryz.prog.wantsStandIn t = false by simpa using List.all_eq_true.1 hall t hm)⟩)
  (by kernel_rfl)

end Go.Proofs.YtfdhaknecjcjoaaGreatDoor.derivSteps
namespace Go.Proofs.YtfdhaknecjcjoaaGreatDoor
/-- The given statement. -/
theorem derivSteps_holds:Rows.DerivStepsCardSaid:=derivSteps.card
end Go.Proofs.YtfdhaknecjcjoaaGreatDoor
