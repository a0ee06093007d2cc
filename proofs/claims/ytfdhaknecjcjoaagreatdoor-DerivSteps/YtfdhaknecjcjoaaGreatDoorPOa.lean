/- Lists of lists of nodes that a call told: SpoilNodes, SameTrees, ApartNodes of them. -/
import Derived.Test.YtfdhaknecjcjoaaGreatDoorPNb
import Derived.Deep.RegionHeld3
namespace Go.Proofs.YtfdhaknecjcjoaaGreatDoor
open Go Go.RowKit

set_option maxHeartbeats 2000000 in
set_option maxRecDepth 100000 in
/-- A lent list is written over: nothing else is. -/
theorem spoil_any (base g m n cap:Nat) (xs:List Nd) (w:World) (ho:w.ownsRow base 51 2 (.slice (some ⟨g,0,none⟩) m cap) m (ndC xs)) (hx:xs.length=m) (hn:n≤m) (hm:m≤9223372036854775806) (cap':Nat) :
  Calls Tryz.prog 15 #[.slice (some ⟨g,0,none⟩) n cap'] w fun e w'=>e=.returned (.tuple #[])∧w.grownBy w' (some g):=by
 have HO:Hid (w.ownsRow base 51 2 (.slice (some ⟨g,0,none⟩) m cap) m (ndC xs)):=ho
 clear ho
 go_enter Tryz.func15,Tryz.ntmps15
 go_wp2_with fail
 go_loopw [2] (fun vi wr=>∃ (i:Nat) (ys:List Nd),i≤n∧vi=.int .i64 i∧ys.length=m∧wr.ownsRow base 51 2 (.slice (some ⟨g,0,none⟩) m cap) m (ndC ys)∧w.grownBy wr (some g)) (fun vi _=>n - (intOf vi).toNat)
 case atStart=>exact ⟨0,xs,Nat.zero_le _,rfl,hx,HO.out,⟨rfl,rfl,rfl,Nat.le_refl _,fun _ _ _=>rfl⟩⟩
 case round =>
  obtain ⟨i,ys,hi,rfl,hy,ho2,hg⟩:=hrel
  have HO2:Hid (wr.ownsRow base 51 2 (.slice (some ⟨g,0,none⟩) m cap) m (ndC ys)):=ho2
  have HG:Hid (w.grownBy wr (some g)):=hg
  clear ho2 hg HO
  by_cases hlt : i < n
  ·have hiI:(i:Int)<n:=by omega
   have c0:=HO2.out.cellAt (i * 2) (by omega)
   have c1:=HO2.out.cellAt (i * 2+1) (by omega)
   rw [(ndC_at ys i (by omega) _ rfl).1] at c0
   rw [(ndC_at ys i (by omega) _ rfl).2] at c1
   have f0:=HO2.out.frozenAt (i * 2)
   have f1:=HO2.out.frozenAt (i * 2+1)
   have HO3:Hid (((wr.setCell ⟨g,i * 2,none⟩ (.int .i64 99)).setCell ⟨g,i * 2+1,none⟩ (.int .u8 0)).ownsRow base 51 2 (.slice (some ⟨g,0,none⟩) m cap) m (ndC (ys.set i (mark 99)))):=by
    have r:=((HO2.out.stored (i * 2) (.int .i64 ((99:Nat):Int))).1.stored (i * 2+1) (.int .u8 0)).1
    rw [ndC_set _ _ _ (by omega)] at r
    exact r
   have HG3:Hid (w.grownBy ((wr.setCell ⟨g,i * 2,none⟩ (.int .i64 99)).setCell ⟨g,i * 2+1,none⟩ (.int .u8 0)) (some g)):=by
    refine ⟨HG.out.os,HG.out.tape,HG.out.output,by simpa using HG.out.size,fun k hk hne=>?_⟩
    have hkg:k≠g:=fun e=>hne (by rw [e])
    rw [Below.heap_setCell _ _ _ _ hkg,Below.heap_setCell _ _ _ _ hkg]
    exact HG.out.block k hk hne
   obtain ⟨⟨z,z'⟩,hz⟩:∃ z,ys.getD i (0,0)=z:=⟨_,rfl⟩
   rw [hz] at c0 c1
   clear hz
   go_wp2_with fail
   go_roundw
   case rel=>exact ⟨i+1,ys.set i (mark 99),by omega,by go_num,by simpa using hy,HO3.out,HG3.out⟩
   case measure=>simp [intOf];omega
  ·have hiI:¬ (i:Int)<n:=by omega
   go_wp2_with fail
   refine bodyPost_end (results_none rfl _ _ _) rfl ?_
   exact ⟨rfl,HG.out⟩

abbrev S2 (W:World) (a1 a2:Addr) (u1 u2:Value) (w':World):Prop:=w'.cell? a1=some u1∧w'.cell? a2=some u2∧Below W.heap.size W w'
end Go.Proofs.YtfdhaknecjcjoaaGreatDoor
