/- Contract of the document's Step at every normal form, and of its Deriv; what both sides' Deriv answers, as a number and a list. -/
import Derived.Test.YtfdhaknecjcjoaaGreatDoorPEy
import Derived.Test.YtfdhaknecjcjoaaGreatDoorPS
import Derived.Test.YtfdhaknecjcjoaaGreatDoorPT
namespace Go.Proofs.YtfdhaknecjcjoaaGreatDoor
open Go Go.RowKit Go.Lib
set_option linter.unusedVariables false

theorem step_any (c:Int):∀ {T:Tr},T.ok→NF T→Sc c T
 | .zero n,h,_=>step_zero c n h
 | .one n a,h,hn=>step_one c n a h hn (step_any c h.2.2 hn.1)
 | .two n a b,h,hn=>by
  have iA:=step_any c h.2.2.1 hn.1
  have iB:=step_any c h.2.2.2 hn.2.1
  have en:=good_two h.1 h.2.1
  have hk:=ar2 h.2.1
  obtain ⟨k,s⟩:=n
  have hs:s=0:=congrArg Prod.snd en
  subst hs
  have hk:k=5∨k=6∨k=7:=hk
  rcases hk with rfl | rfl | rfl
  ·exact step_two5 c a b h hn hn.1 hn.2.1 iA iB
  ·exact step_two6 c a b h hn hn.1 hn.2.1 iA iB
  ·exact step_two7 c a b h hn hn.1 hn.2.1 iA iB

/-- What Deriv answers, as a number and a list. -/
def DvR (ts : List Nd) (c : Int) (k : Int) (ys : List Nd) : Prop :=
 (wrong ts≠0∧k=wrong ts∧ys=[])∨(wrong ts=0∧isLet c=false∧k=21∧ys=[]) ∨
 (wrong ts=0∧isLet c=true∧∃ T:Tr,T.ok∧T.flat=ts∧((¬ fit c (nrm T)∧k=6∧ys=[])∨(fit c (nrm T)∧k=0∧ys=(drv c (nrm T)).flat)))
theorem dv_ex (ts:List Nd) (c:Int):∃ k ys,DvR ts c k ys:=by
 by_cases h0 : wrong ts = 0
 ·cases hl : isLet c with
  | false=>exact ⟨21,[],.inr (.inl ⟨h0,hl,rfl,rfl⟩)⟩
  | true =>
   obtain ⟨T,ho,hT⟩:=nfL_of h0
   by_cases hf : fit c (nrm T)
   ·exact ⟨0,_,.inr (.inr ⟨h0,hl,T,ho,hT,.inr ⟨hf,rfl,rfl⟩⟩)⟩
   ·exact ⟨6,[],.inr (.inr ⟨h0,hl,T,ho,hT,.inl ⟨hf,rfl,rfl⟩⟩)⟩
 ·exact ⟨_,[],.inl ⟨h0,rfl,rfl⟩⟩
theorem dv_len {ts:List Nd} {c k:Int} {ys:List Nd} (h:DvR ts c k ys):ys.length≤4000:=by
 rcases h with ⟨_,_,rfl⟩ | ⟨_,_,_,rfl⟩ | ⟨_,_,T,_,_,⟨_,_,rfl⟩ | ⟨hf,_,rfl⟩⟩
 ·simp
 ·simp
 ·simp
 ·exact fit_len c hf
/-- A number, and a list in a row of its own. -/
def DN (k:Int) (ys:List Nd) (w:World) (e:Ending) (w':World):Prop:=∃ u,e=.returned (.tuple #[u,.int .i64 k])∧w'.ownsRow w.heap.size 51 2 u ys.length (ndC ys)∧Below w.heap.size w w'
theorem dn_nil {k:Int} {w w':World} {e:Ending} (he:e=.returned (.tuple #[.slice none 0 0,.int .i64 k])) (hb:Below w.heap.size w w'):DN k [] w e w':=⟨_,he,World.ownsRow_nil _ _ _ _,hb⟩
theorem dderiv_dn {ts : List Nd} {c k : Int} {ys : List Nd} (h : DvR ts c k ys) (v : Value) (w : World) (hc0 : 0 ≤ c) (hc1 : c ≤ 255) (hv : NReads w v ts) (hm : ts.length ≤ 9223372036854775806) (hP : PTab w) (hT : TzTab w) :
  Calls Tryz.prog 10 #[v,.int .u8 c] w (DN k ys w):=by
 refine (dDeriv_any v ts w c hc0 hc1 hv hm hP hT).mono ?_
 rintro e w' (⟨g0,rfl,hb⟩ | ⟨g0,g1,rfl,hb⟩ | ⟨g0,g1,T,ho,hT',hq⟩)
 ·rcases h with ⟨_,rfl,rfl⟩ | ⟨h0,_⟩ | ⟨h0,_⟩
  ·exact dn_nil rfl hb
  ·exact absurd h0 g0
  ·exact absurd h0 g0
 ·rcases h with ⟨h0,_⟩ | ⟨_,_,rfl,rfl⟩ | ⟨_,h1,_⟩
  ·exact absurd g0 h0
  ·exact dn_nil rfl hb
  ·rw [g1] at h1;cases h1
 ·rcases h with ⟨h0,_⟩ | ⟨_,h1,_⟩ | ⟨_,_,T',ho',hT2,h2⟩
  ·exact absurd g0 h0
  ·rw [g1] at h1;cases h1
  ·have e1:=flat_inj ho' ho (hT2.trans hT'.symm)
   subst e1
   rcases hq with ⟨q1,rfl,hb⟩ | ⟨q1,u,rfl,hn,hb⟩
   ·rcases h2 with ⟨_,rfl,rfl⟩ | ⟨h3,_⟩
    ·exact dn_nil rfl hb
    ·exact absurd h3 q1
   ·rcases h2 with ⟨h3,_⟩ | ⟨_,rfl,rfl⟩
    ·exact absurd q1 h3
    ·exact ⟨u,rfl,hn,hb⟩

set_option maxHeartbeats 4000000 in
set_option maxRecDepth 100000 in
theorem rderiv_dn {ts : List Nd} {c k : Int} {ys : List Nd} (h : DvR ts c k ys) (a : Option Addr) (cap : Nat) (w : World) (hc0 : 0 ≤ c) (hc1 : c ≤ 255) (hv : NReads w (.slice a ts.length cap) ts) (hm : ts.length ≤ 9223372036854775806) (hc : ts.length ≤ cap) :
  Calls Tryz.prog 11 #[.slice a ts.length cap,.int .u8 c] w (DN k ys w):=by
 have HWR:Hid (Calls Tryz.prog 25 #[.slice a ts.length cap] w fun e w'=>e=.returned (.int .i64 (wrong ts))∧Below w.heap.size w w'):=rwrong_any _ ts w hv hm
 rcases h with ⟨h0,rfl,rfl⟩ | ⟨h0,h1,rfl,rfl⟩ | ⟨h0,h1,T,ho,hT,h2⟩
 ·obtain ⟨x,hx⟩:∃ x,wrong ts=x:=⟨_,rfl⟩
  rw [hx] at h0 HWR ⊢
  have hxb:(x != 0)=true:=by simpa using h0
  clear hx h0 hv hm hc
  go_enter Tryz.func11,Tryz.ntmps11
  go_wp2_with fail
  refine HWR.out.mono ?_
  rintro e w1 ⟨rfl,hb1⟩
  have HB1:Hid (Below w.heap.size w w1):=hb1
  clear hb1
  go_wp2_with fail
  go_ret2
  exact dn_nil rfl HB1.out
 ·rw [h0] at HWR
  have hcc:c<97∨104<c:=by simp [isLet] at h1;omega
  clear h0 hv hm hc h1
  rcases hcc with hcc | hcc
  ·go_enter Tryz.func11,Tryz.ntmps11
   go_wp2_with fail
   refine HWR.out.mono ?_
   rintro e w1 ⟨rfl,hb1⟩
   have HB1:Hid (Below w.heap.size w w1):=hb1
   clear hb1
   go_wp2_with fail
   go_ret2
   exact dn_nil rfl HB1.out
  ·go_enter Tryz.func11,Tryz.ntmps11
   go_wp2_with fail
   refine HWR.out.mono ?_
   rintro e w1 ⟨rfl,hb1⟩
   have HB1:Hid (Below w.heap.size w w1):=hb1
   clear hb1
   go_wp2_with fail
   go_ret2
   exact dn_nil rfl HB1.out
 ·subst hT
  have hw:=(wrong_zero h0).1
  rw [h0] at HWR
  have hcl:97≤c:=by simp [isLet] at h1;omega
  have hch:c≤104:=by simp [isLet] at h1;omega
  have hn:=nrm_ok (t:=T) ho
  have hnl:=nrm_len (t:=T) ho
  have HFO:Hid (∀ w1,Below w.heap.size w w1→Calls Tryz.prog 27 #[.slice a T.flat.length cap] w1 (Own w1 (nrm T))):=fun w1 hb=>form_any ho a cap w1 (hv.stay hb) hc (by omega)
  have HST:Hid (∀ a1 c1 w1,NReads w1 (.slice a1 (nrm T).flat.length c1) (nrm T).flat→(nrm T).flat.length≤c1→Calls Tryz.prog 26 #[.slice a1 (nrm T).flat.length c1,.int .u8 c] w1 (SJ (fit c (nrm T)) (drv c (nrm T)) w1)):=fun a1 c1 w1 h3 h4=>step_any c hn.1 hn.2 a1 c1 w1 h3 h4 (by omega)
  have H2:Hid ((¬ fit c (nrm T)∧k=6∧ys=[])∨(fit c (nrm T)∧k=0∧ys=(drv c (nrm T)).flat)):=h2
  clear h0 h1 h2 hv hm hc ho hn hnl hw
  go_enter Tryz.func11,Tryz.ntmps11
  go_wp2_with fail
  refine HWR.out.mono ?_
  rintro e w1 ⟨rfl,hb1⟩
  have HB1:Hid (Below w.heap.size w w1):=hb1
  clear hb1
  go_wp2_with fail
  refine (HFO.out _ HB1.out).mono ?_
  rintro e w2 ⟨u2,rfl,ho2,hb2⟩
  obtain ⟨ua,uc,rfl⟩:=own_one ho2
  have HB2:Hid (Below w.heap.size w w2):=go_on HB1.out hb2
  have HO2:Hid (w2.ownsRow w1.heap.size 51 2 (.slice ua (nrm T).flat.length uc) (nrm T).flat.length (ndC (nrm T).flat)):=ho2
  clear ho2 hb2
  go_wp2_with fail
  refine (HST.out _ _ _ (own_nreads HO2.out) (own_cap HO2.out)).mono ?_
  rintro e w3 hq
  rcases hq with ⟨q1,u3,rfl,hb3⟩ | ⟨q1,u3,rfl,hn3,hb3⟩
  ·have HB3:Hid (Below w.heap.size w w3):=go_on HB2.out hb3
   obtain ⟨rfl,rfl⟩:k=6∧ys=[]:=by
    rcases H2.out with ⟨_,h3,h4⟩ | ⟨h3,_⟩
    ·exact ⟨h3,h4⟩
    ·exact absurd h3 q1
   clear q1 hb3 H2
   go_wp2_with fail
   go_ret2
   exact dn_nil rfl HB3.out
  ·have HB3:Hid (Below w.heap.size w w3):=go_on HB2.out hb3
   obtain ⟨rfl,rfl⟩:k=0∧ys=(drv c (nrm T)).flat:=by
    rcases H2.out with ⟨h3,_⟩ | ⟨_,h3,h4⟩
    ·exact absurd q1 h3
    ·exact ⟨h3,h4⟩
   have HO3:Hid (NO w.heap.size w3 u3 (drv c (nrm T))):=hn3.mono HB2.out.size
   clear q1 hb3 hn3 H2
   go_wp2_with fail
   go_ret2
   exact ⟨_,rfl,HO3.out,HB3.out⟩
end Go.Proofs.YtfdhaknecjcjoaaGreatDoor
