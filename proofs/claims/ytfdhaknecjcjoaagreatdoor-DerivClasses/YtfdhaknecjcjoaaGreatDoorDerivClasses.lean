/- Proved: the card of eggboxlaw07.DerivClasses: it answers true at every number and every list of nodes (P704), with math/bits.deBruijn64tab and tree.partsOf as the program's text lays them: deriv.Classes answers what the document's rules answer, error or text, and leaves its argument as it was; its arguments read behind the call as before. The card ties the variables to the pruned copy of the project that the seat holds. -/
import Derived.Test.YtfdhaknecjcjoaaGreatDoorPIw
import Derived.Test.YtfdhaknecjcjoaaGreatDoorPOa
import Derived.Test.YtfdhaknecjcjoaaGreatDoorPTl
import Derived.Test.YtfdhaknecjcjoaaGreatDoorPTn
import Derived.LaidMore
import Derived.Stop.Joined
import Derived.Stop.LaidErr
import Derived.Lib.LaidTab
import Derived.SevenTiedAt
import Derived.ShutString
import Derived.ChangeMaps5
import Derived.Test.YtfdhaknecjcjoaaGreatDoorTie
import Derived.Test.YtfdhaknecjcjoaaGreatDoorCards
namespace Go.Proofs.YtfdhaknecjcjoaaGreatDoor.derivClasses
open Go.ChangeShapes Go.WideShapes Go.ChangeAt Go.RowKit
open Go.ChangeMaps (open_string shut_string)
set_option linter.unusedVariables false

/-- What Classes answers, as a text and a number. -/
def ClR (k : Int) (ts : List Nd) (S : ByteArray) (E : Int) : Prop :=
 ((k<1∨8<k)∧S=⟨#[]⟩∧E=20)∨(1≤k∧k≤8∧wrong ts≠0∧S=⟨#[]⟩∧E=wrong ts) ∨
 (1≤k∧k≤8∧wrong ts=0∧∃ T:Tr,T.ok∧T.flat=ts ∧
  ((∃ i:Nat,(i:Int)<k∧¬ fit (97+(i:Int)) (nrm T))∧S=⟨#[]⟩∧E=6 ∨
  ∃ f:List Nat,(f.length:Int)=k∧(∀ i:Nat,(i:Int)<k→fit (97+(i:Int)) (nrm T))∧Cls (nrm T) f∧S=flS f∧E=0))
theorem cl_uni {k:Int} {ts:List Nd} {w w':World} {e:Ending} (h:ClQ k ts w e w'):∃ S E,e=.returned (.tuple #[.string S,.int .i64 E])∧ClR k ts S E∧Below w.heap.size w w':=by
 rcases h with ⟨h1,rfl,hb⟩ | ⟨h1,h2,h3,rfl,hb⟩ | ⟨h1,h2,h3,T,ho,hT,⟨h4,rfl,hb⟩ | ⟨f,h4,h5,h6,rfl,hb⟩⟩
 ·exact ⟨_,_,rfl,.inl ⟨h1,rfl,rfl⟩,hb⟩
 ·exact ⟨_,_,rfl,.inr (.inl ⟨h1,h2,h3,rfl,rfl⟩),hb⟩
 ·exact ⟨_,_,rfl,.inr (.inr ⟨h1,h2,h3,T,ho,hT,.inl ⟨h4,rfl,rfl⟩⟩),hb⟩
 ·exact ⟨_,_,rfl,.inr (.inr ⟨h1,h2,h3,T,ho,hT,.inr ⟨f,h4,h5,h6,rfl,rfl⟩⟩),hb⟩
theorem cls_one {n:Tr} {f f':List Nat} (h:Cls n f) (h':Cls n f') (hl:f.length=f'.length):f=f':=by
 apply List.ext_getElem hl
 intro i h1 h2
 obtain ⟨a1,a2,a3⟩:=h i h1
 obtain ⟨b1,b2,b3⟩:=h' i h2
 have ea:f.getD i 0=f[i]:=by rw [List.getD_eq_getElem?_getD,List.getElem?_eq_getElem h1];rfl
 have eb:f'.getD i 0=f'[i]:=by rw [List.getD_eq_getElem?_getD,List.getElem?_eq_getElem h2];rfl
 rw [ea] at a1 a2 a3
 rw [eb] at b1 b2 b3
 by_cases c : f[i] < f'[i]
 ·exact absurd a2 (b3 _ c)
 ·by_cases c2 : f'[i] < f[i]
  ·exact absurd b2 (a3 _ c2)
  ·omega
theorem cl_one {k:Int} {ts:List Nd} {S S':ByteArray} {E E':Int} (h:ClR k ts S E) (h':ClR k ts S' E'):S'=S∧E'=E:=by
 rcases h with ⟨h1,h2,h3⟩ | ⟨h1,h2,h3,h4,h5⟩ | ⟨h1,h2,h3,T,ho,hT,h4⟩
 ·rcases h' with ⟨_,g2,g3⟩ | ⟨g1,g2,_⟩ | ⟨g1,g2,_⟩
  ·exact ⟨g2.trans h2.symm,g3.trans h3.symm⟩
  ·omega
  ·omega
 ·rcases h' with ⟨g1,_⟩ | ⟨_,_,_,g4,g5⟩ | ⟨_,_,g3,_⟩
  ·omega
  ·exact ⟨g4.trans h4.symm,g5.trans h5.symm⟩
  ·exact absurd g3 h3
 ·rcases h' with ⟨g1,_⟩ | ⟨_,_,g3,_⟩ | ⟨_,_,_,T',ho',hT',g4⟩
  ·omega
  ·exact absurd h3 g3
  ·have e1:=flat_inj ho' ho (hT'.trans hT.symm)
   subst e1
   rcases h4 with ⟨⟨i,i1,i2⟩,i3,i4⟩ | ⟨f,f1,f2,f3,f4,f5⟩ <;> rcases g4 with ⟨⟨j,j1,j2⟩,j3,j4⟩ | ⟨f',e1,e2,e3,e4,e5⟩
   ·exact ⟨j3.trans i3.symm,j4.trans i4.symm⟩
   ·exact absurd (e2 i i1) i2
   ·exact absurd (f2 j j1) j2
   ·have:=cls_one f3 e3 (by omega)
    subst this
    exact ⟨e4.trans f4.symm,e5.trans f5.symm⟩

set_option maxHeartbeats 16000000 in
set_option maxRecDepth 100000 in
theorem walk (k:Int) (v:Value) (ts:List Nd) (w:World) (hk:(Lit.int .i64 k).wf=true) (hv:NReads w v ts) (hx:(∀ c,v=.slice none 0 c→c=0)∧∀ a n c,v=.slice a n c→n≤c) (hl:(ts.length+2) * 16≤140737488355328) (hP:PTab w) (hT:TzTab w) :
  Calls Tryz.prog 4 #[.int .i64 k,v] w fun e w'=>e=.returned (.bool true)∧Below w.heap.size w w':=by
 have HV:Hid (NReads w v ts):=hv
 have HP:Hid (PTab w):=hP
 have HT:Hid (TzTab w):=hT
 have HX:Hid ((∀ c,v=.slice none 0 c→c=0)∧∀ a n c,v=.slice a n c→n≤c):=hx
 obtain ⟨av,cv,rfl,_⟩:=hv
 have hcv:ts.length≤cv:=hx.2 _ _ _ rfl
 clear hP hT hx hk
 go_enter Tryz.func4,Tryz.ntmps4
 go_wp2_with fail
 refine (lent_any _ ts _ HV.out HX.out.1 hl).mono ?_
 rintro e w1 ⟨g,cap,rfl,ho,hb⟩
 have HB1:Hid (Below w.heap.size w w1):=hb
 have HO1:Hid (w1.ownsRow w.heap.size 51 2 (.slice (some ⟨g,0,none⟩) (ts.length+2) cap) (ts.length+2) (ndC (ts ++ [(-7,0),(-8,0)]))):=ho
 clear hb ho
 go_wp2_with fail
 refine (dClasses_any _ ts k _ (lent_reads HO1.out).1 (by omega) (HP.out.stay HB1.out) (HT.out.stay HB1.out)).mono ?_
 rintro e w2 hq
 obtain ⟨S,E,rfl,hr,hb⟩:=cl_uni hq
 have HR:Hid (ClR k ts S E):=hr
 have HB2:Hid (Below w.heap.size w w2):=go_on HB1.out hb
 have HO2:Hid (w2.ownsRow w.heap.size 51 2 (.slice (some ⟨g,0,none⟩) (ts.length+2) cap) (ts.length+2) (ndC (ts ++ [(-7,0),(-8,0)]))):=own_below HO1.out hb
 clear hb hr hq HO1
 go_wp2_with fail
 refine (rClasses_any _ _ ts k _ (HV.out.stay HB2.out) (by omega) hcv).mono ?_
 rintro e w4 hq
 obtain ⟨S',E',rfl,hr,hb⟩:=cl_uni hq
 obtain ⟨rfl,rfl⟩:=cl_one HR.out hr
 have HB4:Hid (Below w.heap.size w w4):=go_on HB2.out hb
 have HO4:Hid (w4.ownsRow w.heap.size 51 2 (.slice (some ⟨g,0,none⟩) (ts.length+2) cap) (ts.length+2) (ndC (ts ++ [(-7,0),(-8,0)]))):=own_below HO2.out hb
 clear hb hr hq HO2 HB2 HR
 go_wp2_with fail
 refine (num7_any _ _).mono ?_
 rintro e wp ⟨rfl,rfl⟩
 go_wp2_with fail
 refine (stay_any _ ts _ (HV.out.stay HB4.out) _ g cap (by omega) HO4.out).mono ?_
 rintro e w6 ⟨rfl,hb⟩
 have HB6:Hid (Below w.heap.size w w6):=go_on HB4.out hb
 clear hb
 go_wp2_with fail
 refine (knows7_any _ (HP.out.stay HB6.out) (HT.out.stay HB6.out)).mono ?_
 rintro e w7 ⟨rfl,hb⟩
 have HB7:Hid (Below w.heap.size w w7):=go_on HB6.out hb
 clear hb
 go_wp2_with fail
 go_ret
 exact ⟨rfl,HB7.out⟩

/-! ### The row's step -/
theorem own:ownKnob Tryz.prog.godebug=none:=by kernel_rfl
def laid1 : List (String × DataW Unit) := [("math/bits.deBruijn64tab", Rows.laid_math_bits_deBruijn64tab), ("eggbox/tree.partsOf", Rows.laid_eggbox_tree_partsOf)]
def tabZ:List Int:=[0,0,0,0,0,2,2,2,1,1]
def tabT:List Int:=Lib.deBruijn64tab.map fun (z:Nat)=>(z:Int)
theorem gTab : Tryz.prog.globalNamed "eggbox/tree.partsOf" = some 0 := by kernel_rfl
theorem tTab:(Tryz.prog.globals[0]?).map (·.type)=some 136:=by kernel_rfl
theorem gTz : Tryz.prog.globalNamed "math/bits.deBruijn64tab" = some 1 := by kernel_rfl
theorem tTz:(Tryz.prog.globals[1]?).map (·.type)=some 183:=by kernel_rfl
theorem of_laid {W:World} (h:laidMetH Tryz.prog laid1 W):PTab W∧TzTab W:=by
 rw [MakeChecks.laidMetH_plain _ _ _ (by kernel_rfl)] at h
 have h1 : Lib.TabIs Tryz.prog W "math/bits.deBruijn64tab" .u8 tabT :=
  Lib.tabIs_of_head (rest := [("eggbox/tree.partsOf", Rows.laid_eggbox_tree_partsOf)]) gTz tTz Tryz.underlying183 Tryz.underlying5 (by kernel_rfl) (by kernel_rfl) h
 have h2 : Lib.TabIs Tryz.prog W "eggbox/tree.partsOf" .i64 tabZ :=
  Lib.tabIs_of_head (rest:=[]) gTab tTab Tryz.underlying136 Tryz.underlying3 (by kernel_rfl) (by kernel_rfl) h.tail
 refine ⟨fun j hj=>?_,fun j hj=>?_⟩
 ·have:=h2.cell gTab j hj
  rw [this]
  have hc:j=0∨j=1∨j=2∨j=3∨j=4∨j=5∨j=6∨j=7∨j=8∨j=9:=by omega
  rcases hc with rfl | rfl | rfl | rfl | rfl | rfl | rfl | rfl | rfl | rfl <;> rfl
 ·have:=h1.cell gTz j hj
  rw [this]
  have e:tabT.getD j 0=((Lib.deBruijn64tab.getD j 0:Nat):Int):=by
   unfold tabT
   rw [List.getD_eq_getElem?_getD,List.getElem?_map,List.getD_eq_getElem?_getD]
   cases Lib.deBruijn64tab[j]? <;> rfl
  rw [e]
/-- The door's own heap meets the condition. -/
theorem door_met (os:Os) (args:Array Value):laidMetH Tryz.prog laid1 ((World.doorLaid Tryz.prog 400 os).forCall (fun _ _=>0) ⟨#[],args,[]⟩).memory :=
 laidMetH_of_parts3 (fuel:=8) (laidMet_of_run' 8 (by kernel_rfl) (by kernel_rfl)) (by kernel_rfl) (by kernel_rfl)

set_option maxRecDepth 100000 in
theorem lifted (os : Os) (started : os.Started) (H : Type) (enc : TypeId × Value → H) :
  ReturnsInHanded {} Tryz.checked os 4 .any (fun w args=>(Rows.derivClassesSpec.pre enc Tryz.prog Tryz.f4 [] false w args∧laidMetH Tryz.prog laid1 w)∧sizedMet enc Tryz.prog Tryz.f4 (OpenSpec.ofChange Rows.derivClassesSpec) false w args)
   (Rows.derivClassesSpec.post enc Tryz.prog Tryz.f4 false true false false):=by
 refine returnsInHanded_of_change_and (C:=Tryz.checked) (X:=fun w _=>laidMetH Tryz.prog laid1 w) (fun _ _ _ hh h=>h.of_heap hh) own started (by kernel_rfl) Tryz.func4
  (ChangeSpec.witness_shaped (enc:=enc) (C:=Tryz.checked) (os:=os) (X:=fun w _=>laidMetH Tryz.prog laid1 w) false (World.doorLaid Tryz.prog 400 os) #[.int .i64 0,.slice none 0 0] 8 rfl (World.shaped_of_RefB (by kernel_rfl) (by kernel_rfl)) (by kernel_rfl) (by kernel_rfl) (by kernel_rfl) (door_met os _)) ?_
 intro W base args ds gs before hval0 hW _ hsz0 hL _
 have hval:∀ (j:Nat) t v,Tryz.f4.params[j]?=some t→args[j]?=some v→Value.okWide Tryz.prog W .any base t v:=hval0
 have hW':=hW
 obtain ⟨p,q,hA0,hV,rfl,hfz,hnd⟩:=hW
 have hA:DataW.TrodAll enc Tryz.prog W 0 (fun _=>true) true Tryz.f4.params.toList args.toList ds p:=hA0
 have hsz:(DataW.weightsEach Tryz.prog (Tryz.f4.params.toList ++ Rows.derivClassesSpec.plain.varTypes Tryz.prog) (ds ++ gs)).all (·≤reachBytes)=true:=hsz0
 rw [Tryz.params4] at hA hval hsz
 obtain ⟨v0,vs0,d0,ds0,p0,q0,hargs,rfl,rfl,h0,r0⟩:=trodAll_cons hA
 obtain ⟨v1,vs1,d1,ds1,p1,q1,rfl,rfl,rfl,h1,r1⟩:=trodAll_cons r0
 obtain ⟨rfl,rfl,rfl⟩:=trodAll_nil r1
 obtain rfl:args=#[v0,v1]:=by cases args;simp_all
 obtain ⟨rfl,rfl⟩:=trodVars_none hV
 obtain ⟨a0,rfl,rfl,rfl,w0⟩:=open_int Tryz.underlying3 (hval 0 3 v0 rfl rfl) h0
 obtain ⟨a1,w1,x1,y1⟩:=open_nodes (hval 1 22 v1 rfl rfl) h1
 have s1:(a1.length+2) * 16≤140737488355328:=by
  rcases y1 with ⟨_,rfl⟩ | ⟨e,s,rfl,hy⟩
  ·decide
  ·have:=sized_slice hsz (j:=1) (t:=22) rfl rfl Tryz.underlying22
   rw [Tryz.bytes_node] at this
   simp only [reachBytes] at this
   omega
 have z1:a1.length≤9223372036854775806:=by omega
 have g1:∀ x ∈ p1,x.block<W.heap.size:=fun x hx=>hW'.lt x (by simp [hx])
 have hTz:=of_laid hL
 clear hA0 hval0
 refine (walk a0 v1 a1 W w0 w1 x1 s1 hTz.1 hTz.2).mono fun e W' ⟨he,bel⟩=>?_
 subst he
 exact ⟨_,rfl,_,_,_,[],_,[],hW',trodAll_mk1 (shut_bool Tryz.underlying4 _),(trodAll_cons_mk (shut_int Tryz.underlying3 w0) (trodAll_cons_mk (Below.trod Tryz.laidOut (by kernel_rfl) (of_decide_eq_true (by kernel_rfl)) h1 bel g1) trodAll_mk0)),rfl,bel.frame _,fun h=>by cases h⟩

theorem over : Rows.DerivClassesSaid :=
 OpenClaim.holds_of_wide 4 Tryz.f4 rfl rfl rfl rfl rfl rfl rfl ⟨rfl,rfl,rfl,rfl,rfl⟩ rfl rfl rfl rfl rfl (by kernel_rfl) Tryz.func4 (by kernel_rfl)
  (of_decide_eq_true (by kernel_rfl)) (by unfold Func.isWrapper;first | (rw [if_pos (by decide +kernel)];kernel_rfl) | (rw [if_neg (by decide +kernel)];exact ⟨rfl,rfl⟩))
  (fun os started H enc _=>lifted os started H enc)

theorem card : Rows.DerivClassesCardSaid :=
 Claim7.holds_tied_plain_at .later [] [.data, .data] true (true, "f1ddeb86a404e66433fc3edcced06eb03424df9f8f2b565ab381a835c8e8444c") false
  over (fun _ h=>by cases h) (by kernel_rfl) (fun _ h=>by cases h) derivClasses_row_tie rfl ⟨rfl,rfl⟩ (by kernel_rfl) rfl
  (fun f fn hf hfn=>by
   obtain rfl : f = 4 := Option.some.inj ((show Tryz.prog.funcNamed "eggbox/eggboxlaw07.DerivClasses" = some 4 by kernel_rfl).symm.trans hf) |>.symm
   obtain rfl:fn=Tryz.f4:=(Option.some.inj (Tryz.func4.symm.trans hfn)).symm
   exact ⟨by kernel_rfl,fun j t ht=>by
    rw [Tryz.params4] at ht
    have hm:t ∈ [3,22]:=by simpa using Array.mem_of_getElem? ht
    have hall:([3,22].all fun u=>!Tryz.prog.wantsStandIn u)=true:=by kernel_rfl
    exact (show Tryz.prog.wantsStandIn t = false by simpa using List.all_eq_true.1 hall t hm)⟩)
  (by kernel_rfl)

end Go.Proofs.YtfdhaknecjcjoaaGreatDoor.derivClasses
namespace Go.Proofs.YtfdhaknecjcjoaaGreatDoor
/-- The given statement. -/
theorem derivClasses_holds:Rows.DerivClassesCardSaid:=derivClasses.card
end Go.Proofs.YtfdhaknecjcjoaaGreatDoor
