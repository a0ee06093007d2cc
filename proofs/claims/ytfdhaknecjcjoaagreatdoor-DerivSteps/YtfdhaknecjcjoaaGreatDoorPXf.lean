/- The program's forms: put and repeat. -/
import Derived.Test.YtfdhaknecjcjoaaGreatDoorPXe
namespace Go.Proofs.YtfdhaknecjcjoaaGreatDoor
open Go Go.RowKit
set_option linter.unusedVariables false

theorem FR.own_cells {base : Nat} {w w9 : World} {B : Nat} {N : List Nd} {Z : List Nat} {F : Fb} (h : FR base w B N Z F) {b : Nat} (hg : w.grownBy w9 (some b)) (hb : B ≠ b) :
  w9.cell? ⟨B,0,none⟩=some (.slice (some ⟨F.nb,0,none⟩) N.length F.nc)∧w9.cell? ⟨B,1,none⟩=some (.slice (some ⟨F.sb,0,none⟩) Z.length F.sc)∧∀ i,w9.frozen? ⟨B,i,none⟩=false:=by
 have hb:=(hg.block B h.lt (fun e=>hb (by simpa using e))).trans h.blk
 refine ⟨?_,?_,fun i=>?_⟩
 ·simp [World.cell?,hb]
 ·simp [World.cell?,hb]
 ·simp [World.frozen?,hb]
theorem put_nodes {base : Nat} {wX w9 : World} {B g c m : Nat} {N M : List Nd} {Z : List Nat} {F : Fb} (h : FR base wX B N Z F) (hg : wX.grownBy w9 (some F.nb)) (hm : m = N.length + M.length)
  (ho:w9.ownsRow base 51 2 (.slice (some ⟨g,0,none⟩) m c) m (ndC N ++ ndC M)) (hl:some F.nb=some g∨g=wX.heap.size) :
  FR base (w9.setCell ⟨B,0,none⟩ (.slice (some ⟨g,0,none⟩) m c)) B (N ++ M) Z ⟨g,c,F.sb,F.sc⟩∧FG wX (w9.setCell ⟨B,0,none⟩ (.slice (some ⟨g,0,none⟩) m c)) B F ⟨g,c,F.sb,F.sc⟩:=by
 have e:(N ++ M).length=m:=by rw [List.length_append,hm]
 have X:=h.nodes (N':=N ++ M) (g:=g) (c:=c) hg (by rw [e,ndC_append];exact ho) (by rcases hl with h | h;exact .inl (by simpa using h.symm);exact .inr (by omega))
 rw [e] at X
 exact X
theorem put_sizes {base : Nat} {wX w9 : World} {B g c m : Nat} {N : List Nd} {Z Y : List Nat} {F : Fb} (h : FR base wX B N Z F) (hg : wX.grownBy w9 (some F.sb)) (hm : m = Z.length + Y.length)
  (ho:w9.ownsRow base 3 1 (.slice (some ⟨g,0,none⟩) m c) m (inC Z ++ inC Y)) (hl:some F.sb=some g∨g=wX.heap.size) :
  FR base (w9.setCell ⟨B,1,none⟩ (.slice (some ⟨g,0,none⟩) m c)) B N (Z ++ Y) ⟨F.nb,F.nc,g,c⟩∧FG wX (w9.setCell ⟨B,1,none⟩ (.slice (some ⟨g,0,none⟩) m c)) B F ⟨F.nb,F.nc,g,c⟩:=by
 have e:(Z ++ Y).length=m:=by rw [List.length_append,hm]
 have X:=h.sizes (Z':=Z ++ Y) (g:=g) (c:=c) hg (by rw [e,inC_append];exact ho) (by rcases hl with h | h;exact .inl (by simpa using h.symm);exact .inr (by omega))
 rw [e] at X
 exact X
theorem two_new2 (w:World) (x y:Value) (t:TypeId):∀ j u,[x,y][j]?=some u→(w.alloc (.cells #[x,y] t)).drew.cell? ((⟨w.heap.size,0,none⟩:Addr).add j)=some u:=by
 intro j u hj
 have h:=heap_alloc_new w (.cells #[x,y] t)
 rw [Addr.add_lit]
 have:(w.alloc (.cells #[x,y] t)).cell? ⟨w.heap.size,0+j,none⟩=some u:=by
  simp only [World.cell?,h]
  rw [Nat.zero_add]
  simpa using hj
 exact this
theorem one_new2 (w:World) (x:Value) (t:TypeId):∀ j u,[x][j]?=some u→(w.alloc (.cells #[x] t)).cell? ((⟨w.heap.size,0,none⟩:Addr).add j)=some u:=by
 intro j u hj
 have h:=heap_alloc_new w (.cells #[x] t)
 rw [Addr.add_lit]
 simp only [World.cell?,h]
 rw [Nat.zero_add]
 simpa using hj

set_option maxHeartbeats 4000000 in
set_option maxRecDepth 100000 in
theorem put_any (base:Nat) (w:World) (B:Nat) (N:List Nd) (Z:List Nat) (F:Fb) (h:FS base w B N Z F) (kd sg:Int) (parts:Nat) (sz:Nat→Nat) (h0:sz 0=1) (hs:∀ k,k<parts→sz k≤Z.length∧1≤sz k∧∃ x,Z[Z.length - sz k]?=some x∧sz (k+1)=sz k+x) (hp:parts≤2) (hb:∀ k,k≤parts→sz k≤200000) (hN:N.length<100000) :
  Calls Tryz.prog 53 #[.pointer (some ⟨B,0,none⟩),.agg #[.int .i64 kd,.int .u8 sg],.int .i64 (parts:Int)] w fun e w'=>e=.returned (.tuple #[])∧FE base w B F (N ++ [(kd,sg)]) (Z ++ [sz parts]) w':=by
 have HS0:Hid (FS base (w.alloc (.cells #[.int .i64 kd,.int .u8 sg] 51)) B N Z F):=h.stay ((Below.refl _ _).alloc (Nat.le_refl _) _)
 have HG0:Hid (FG w (w.alloc (.cells #[.int .i64 kd,.int .u8 sg] 51)) B F F):=FG.of ((Below.refl _ _).alloc (Nat.le_refl _) _)
 have RN:Hid (RowAt (w.alloc (.cells #[.int .i64 kd,.int .u8 sg] 51)) w.heap.size #[.int .i64 kd,.int .u8 sg]):=RowAt.last w _ _
 have HSZ:Hid (∀ k,k<parts→sz k≤Z.length∧1≤sz k∧∃ x,Z[Z.length - sz k]?=some x∧sz (k+1)=sz k+x):=hs
 have H0:Hid (sz 0=1):=h0
 have HB:Hid (∀ k,k≤parts→sz k≤200000):=hb
 have HLN:Hid (Z.length=N.length):=h.len
 have hZ:Z.length<100000:=by have:=h.len;omega
 obtain ⟨i0,hi0,hz0,hz1,hz2⟩:=info_parts Tryz.info_node
 obtain ⟨i1,hi1,hy0,hy1,hy2⟩:=info_parts Tryz.info_int
 clear h hs h0 hb
 go_enter Tryz.func53,Tryz.ntmps53
 go_wp2_with fail
 generalize w.alloc (.cells #[.int .i64 kd,.int .u8 sg] 51)=wA at HS0 HG0 RN ⊢
 go_loopw [6,8] (fun v6 v8 wr=>∃ k q:Nat,k≤parts∧v6=.int .i64 (sz k:Int)∧v8=.int .i64 (k:Int)∧wr=wA.drewN q) (fun v6 v8 _=>parts - (intOf v8).toNat)
 case atStart=>exact ⟨0,0,Nat.zero_le _,by rw [H0.out];rfl,rfl,rfl⟩
 case round =>
  obtain ⟨k,q,hk,rfl,rfl,rfl⟩:=hrel
  obtain ⟨b0,b1,bf⟩:=HS0.out.raw.cells
  have hBlt:=HS0.out.lt
  obtain ⟨hnb,hsb,_,_⟩:=HS0.out.lts
  by_cases hlt : k < parts
  ·obtain ⟨h1,h2,x,hx,hxe⟩:=HSZ.out k hlt
   have hbk:=HB.out (k+1) hlt
   have hcx:=HS0.out.at_ _ x hx
   have hi:Z.length - sz k<Z.length:=by omega
   have hiI:((Z.length - sz k:Nat):Int)<(Z.length:Int):=by omega
   have hw1:IntKind.i64.wrap ((Z.length:Int) - (sz k:Int))=((Z.length - sz k:Nat):Int):=by rw [IntKind.wrap_i64];omega
   have hw2:IntKind.i64.wrap ((sz k:Int)+(x:Int))=((sz (k+1):Nat):Int):=by rw [IntKind.wrap_i64,hxe];omega
   have hltI:(k:Int)<parts:=by omega
   generalize hy : sz (k + 1) = y at hw2 hbk
   have HY:Hid (sz (k+1)=y):=hy
   generalize sz k = z at h1 h2 hx hi hiI hw1 hw2 hcx ⊢
   clear hy hx hxe
   go_wp2_with fail
   go_region
   go_wp2_with fail
   go_roundw
   case rel=>exact ⟨k+1,q+1,by omega,by rw [HY.out],by go_num,rfl⟩
   case measure=>simp [intOf];omega
  ·obtain rfl:k=parts:=by omega
   have hltI:¬ (k:Int)<k:=by omega
   go_wp2_with fail
   obtain ⟨wq,hwq⟩:∃ wq,wA.drewN q=wq:=⟨_,rfl⟩
   rw [hwq]
   have HS1:Hid (FS base wq B N Z F):=by show FS _ _ _ _ _ _;rw [← hwq];exact HS0.out.stay (drewN_below _ _)
   have HG1:Hid (FG w wq B F F):=by show FG _ _ _ _ _;rw [← hwq];exact HG0.out.trans (FG.of (drewN_below _ _))
   have RN1:Hid (RowAt wq w.heap.size #[.int .i64 kd,.int .u8 sg]):=by show RowAt _ _ _;rw [← hwq];exact RN.out.stay (drewN_below _ _)
   clear hwq b0 b1 bf hBlt hnb hsb HS0 HG0 RN
   obtain ⟨b0,b1,bf⟩:=HS1.out.raw.cells
   have e0:wq.cell? ⟨w.heap.size,0,none⟩=some (.int .i64 kd):=RN1.out.cell 0
   have e1:wq.cell? ⟨w.heap.size,1,none⟩=some (.int .u8 sg):=RN1.out.cell 1
   have hblt:=HS1.out.lt
   go_cut [6] (fun v6 wx=>v6=.int .i64 (sz k:Int)∧∃ F',FR base wx B (N ++ [(kd,sg)]) Z F'∧FG w wx B F F')
   case first =>
    have HX:Hid (FR base (wq.alloc (.cells #[.int .i64 kd,.int .u8 sg] 51)).drew B N Z F):=HS1.out.raw.stay ((Below.refl _ _).alloc (Nat.le_refl _) _).drew
    have HXG:Hid (FG w (wq.alloc (.cells #[.int .i64 kd,.int .u8 sg] 51)).drew B F F):=HG1.out.trans (FG.of ((Below.refl _ _).alloc (Nat.le_refl _) _).drew)
    have HNEW:Hid (∀ j u,[Value.int .i64 kd,Value.int .u8 sg][j]?=some u→(wq.alloc (.cells #[.int .i64 kd,.int .u8 sg] 51)).drew.cell? ((⟨wq.heap.size,0,none⟩:Addr).add j)=some u):=two_new2 wq (.int .i64 kd) (.int .u8 sg) 51
    have hbs:base≤(wq.alloc (.cells #[.int .i64 kd,.int .u8 sg] 51)).drew.heap.size:=Nat.le_trans HX.out.from_ (Nat.le_of_lt HX.out.lt)
    go_region_law (rw [if_pos (by rfl)];refine wp_append_lies _ _ _ 22 rfl base 51 i0 (.agg #[.int .i64 0,.int .u8 0]) 2 16 Tryz.underlying22 hi0 hz0 hz1 hz2 rfl (by decide) _ _ _ rfl HX.out.nod ⟨wq.heap.size,0,none⟩ 1 1 [.int .i64 kd,.int .u8 sg] rfl rfl HNEW.out (by intro u hu;simp at hu;rcases hu with rfl | rfl <;> rfl) (by decide) (by unfold maxLen;omega) (by omega) hbs _ rfl ?_;intro g9 c9 w9 ho9 hg9 hl9 hlt9;have HO9:Hid _:=ho9;have HG9:Hid _:=hg9;have HL9:Hid _:=hl9;obtain ⟨k0,_,kf⟩:=HX.out.own_cells (b:=F.nb) hg9 HX.out.ne.1;clear ho9 hg9 hl9 hlt9)
    all_goals go_wp2_with fail
    all_goals go_meet
    all_goals
     have X:=put_nodes HX.out (M:=[(kd,sg)]) HG9.out rfl HO9.out HL9.out
     exact ⟨rfl,_,X.1,HXG.out.trans X.2⟩
   case rest =>
    obtain ⟨rfl,F',hr,hg⟩:=hcut
    have HR:Hid (FR base _ B (N ++ [(kd,sg)]) Z F'):=hr
    have HG:Hid (FG w _ B F F'):=hg
    clear b0 b1 bf e0 e1 hblt
    rename World=>wz
    obtain ⟨b0,b1,bf⟩:=hr.cells
    have hblt:=hr.lt
    clear hr hg
    obtain ⟨y,hy⟩:∃ y,sz k=y:=⟨_,rfl⟩
    rw [hy]
    have HY:Hid (sz k=y):=hy
    clear hy
    have HX:Hid (FR base (wz.alloc (.cells #[.int .i64 (y:Int)] 3)) B (N ++ [(kd,sg)]) Z F'):=HR.out.stay ((Below.refl _ _).alloc (Nat.le_refl _) _)
    have HXG:Hid (FG w (wz.alloc (.cells #[.int .i64 (y:Int)] 3)) B F F'):=HG.out.trans (FG.of ((Below.refl _ _).alloc (Nat.le_refl _) _))
    have HNEW:Hid (∀ j u,[Value.int .i64 (y:Int)][j]?=some u→(wz.alloc (.cells #[.int .i64 (y:Int)] 3)).cell? ((⟨wz.heap.size,0,none⟩:Addr).add j)=some u):=one_new2 wz (.int .i64 (y:Int)) 3
    have hbs:base≤(wz.alloc (.cells #[.int .i64 (y:Int)] 3)).heap.size:=Nat.le_trans HX.out.from_ (Nat.le_of_lt HX.out.lt)
    go_wp2_with (at_builtin;refine wpList_append_lies _ rfl _ _ 66 rfl base 3 i1 (.int .i64 0) 1 8 Tryz.underlying66 hi1 hy0 hy1 hy2 rfl (by decide) _ _ _ rfl HX.out.siz ⟨wz.heap.size,0,none⟩ 1 1 [.int .i64 (y:Int)] rfl rfl HNEW.out (by intro u hu;simp at hu;rw [hu];rfl) (by decide) (by unfold maxLen;omega) (by omega) hbs _ rfl ?_)
    intro g9 c9 w9 ho9 hg9 hl9 hlt9
    have HO9:Hid _:=ho9
    have HG9:Hid _:=hg9
    have HL9:Hid _:=hl9
    obtain ⟨_,k1,kf⟩:=HX.out.own_cells (b:=F'.sb) hg9 HX.out.ne.2.1
    clear ho9 hg9 hl9
    go_wp2_with fail
    refine bodyPost_end (results_none rfl _ _ _) rfl ?_
    have X:=put_sizes HX.out (Y:=[y]) HG9.out rfl HO9.out (by have:=HL9.out;simpa [Value.ownBlock] using this)
    have hln:=HLN.out
    refine ⟨rfl,_,?_,HXG.out.trans X.2⟩
    rw [HY.out]
    exact X.1.full (by simp only [List.length_append,List.length_singleton];omega) (by simp only [List.length_append,List.length_singleton];omega)
/-- A node without parts, with one, with two. -/
theorem put0 {base : Nat} {w : World} {B : Nat} {F : Fb} {pre : List Tr} (h : FS base w B (flatL pre) (szL pre) F) (n : Nd) (hN : (flatL pre).length < 100000) :
  Calls Tryz.prog 53 #[.pointer (some ⟨B,0,none⟩),.agg #[.int .i64 n.1,.int .u8 n.2],.int .i64 0] w fun e w'=>e=.returned (.tuple #[])∧FE base w B F (flatL (pre ++ [.zero n])) (szL (pre ++ [.zero n])) w':=by
 have:=put_any base w B _ _ F h n.1 n.2 0 (fun _=>1) rfl (fun k hk=>by omega) (by omega) (fun _ _=>by omega) hN
 rw [flatL_append,szL_append]
 exact this
theorem put1 {base : Nat} {w : World} {B : Nat} {F : Fb} {pre : List Tr} {x : Tr} (h : FS base w B (flatL (pre ++ [x])) (szL (pre ++ [x])) F) (n : Nd) (hN : (flatL (pre ++ [x])).length < 100000) :
  Calls Tryz.prog 53 #[.pointer (some ⟨B,0,none⟩),.agg #[.int .i64 n.1,.int .u8 n.2],.int .i64 1] w fun e w'=>e=.returned (.tuple #[])∧FE base w B F (flatL (pre ++ [.one n x])) (szL (pre ++ [.one n x])) w':=by
 obtain ⟨p,e,hx,he,hp⟩:=at_last pre x
 have hl:=szL_len (pre ++ [x])
 have hle:=hx.le
 have t1:=hx.end_
 have hsz:=hx.size
 have:=put_any base w B _ _ F h n.1 n.2 1 (fun k=>if k=0 then 1 else x.flat.length+1) rfl (fun k hk=>by
  obtain rfl:k=0:=by omega
  exact ⟨by simp only [if_true];omega,by simp,x.flat.length,by simp only [if_true];rw [hl,← he];exact hsz,by simp;omega⟩) (by omega) (fun k _=>by split <;> omega) hN
 simp only [if_neg (show ¬ 1 = 0 by decide)] at this
 have e1:flatL (pre ++ [.one n x])=flatL (pre ++ [x]) ++ [n]:=by simp [flatL,Tr.flat]
 have e2:szL (pre ++ [.one n x])=szL (pre ++ [x]) ++ [x.flat.length+1]:=by simp [szL,Tr.sz]
 rw [e1,e2]
 exact this
theorem put2 {base:Nat} {w:World} {B:Nat} {F:Fb} {pre:List Tr} {x y:Tr} (h:FS base w B (flatL (pre ++ [x,y])) (szL (pre ++ [x,y])) F) (n:Nd) (hN:(flatL (pre ++ [x,y])).length<100000) :
  Calls Tryz.prog 53 #[.pointer (some ⟨B,0,none⟩),.agg #[.int .i64 n.1,.int .u8 n.2],.int .i64 2] w fun e w'=>e=.returned (.tuple #[])∧FE base w B F (flatL (pre ++ [.two n x y])) (szL (pre ++ [.two n x y])) w':=by
 obtain ⟨p,q,e,hx,hy,he,hp⟩:=at_last2 pre x y
 have hl:=szL_len (pre ++ [x,y])
 have h1:=hx.le
 have h2:=hy.le
 have s1:=hx.size
 have s2:=hy.size
 have t1:=hx.end_
 have t2:=hy.end_
 have:=put_any base w B _ _ F h n.1 n.2 2 (fun k=>if k=0 then 1 else if k=1 then y.flat.length+1 else x.flat.length+y.flat.length+1) rfl (fun k hk=>by
  have hk:k=0∨k=1:=by omega
  rcases hk with rfl | rfl
  ·exact ⟨by simp only [if_true];omega,by simp,y.flat.length,by simp only [if_true];rw [hl,← he];exact s2,by simp;omega⟩
  ·refine ⟨by simp only [if_neg (show ¬ 1=0 by decide),if_true];omega,by simp,x.flat.length,?_,by simp;omega⟩
   simp only [if_neg (show ¬ 1=0 by decide),if_true]
   rw [hl,← he,show e - (y.flat.length+1)=q - 1 by omega];exact s1) (by omega) (fun k _=>by split <;> (try split) <;> omega) hN
 simp only [if_neg (show ¬ 2=0 by decide),if_neg (show ¬ 2=1 by decide)] at this
 have e1:flatL (pre ++ [.two n x y])=flatL (pre ++ [x,y]) ++ [n]:=by simp [flatL,Tr.flat]
 have e2:szL (pre ++ [.two n x y])=szL (pre ++ [x,y]) ++ [x.flat.length+y.flat.length+1]:=by simp [szL,Tr.sz]
 rw [e1,e2]
 exact this

theorem ndC_sub (N:List Nd) (a m:Nat) (h:a+m≤N.length):∀ j u,(ndC ((N.drop a).take m))[j]?=some u→(ndC N)[a * 2+j]?=some u:=by
 intro j u hj
 have h1:ndC N=ndC (N.take a) ++ (ndC ((N.drop a).take m) ++ ndC ((N.drop a).drop m)):=by rw [← ndC_append,← ndC_append,List.take_append_drop,List.take_append_drop]
 have l1:(ndC (N.take a)).length=a * 2:=by rw [ndC_length,List.length_take,Nat.min_eq_left (by omega)]
 rw [h1,List.getElem?_append_right (by omega),l1,show a * 2+j - a * 2=j by omega,List.getElem?_append_left (List.getElem?_eq_some_iff.1 hj).1]
 exact hj
theorem inC_sub (N:List Nat) (a m:Nat) (h:a+m≤N.length):∀ j u,(inC ((N.drop a).take m))[j]?=some u→(inC N)[a+j]?=some u:=by
 intro j u hj
 have h1:inC N=inC (N.take a) ++ (inC ((N.drop a).take m) ++ inC ((N.drop a).drop m)):=by rw [← inC_append,← inC_append,List.take_append_drop,List.take_append_drop]
 have l1:(inC (N.take a)).length=a:=by rw [inC_length,List.length_take,Nat.min_eq_left (by omega)]
 rw [h1,List.getElem?_append_right (by omega),l1,show a+j - a=j by omega,List.getElem?_append_left (List.getElem?_eq_some_iff.1 hj).1]
 exact hj

set_option maxHeartbeats 4000000 in
set_option maxRecDepth 100000 in
theorem repeat_any (base : Nat) (w : World) (B : Nat) (N : List Nd) (Z : List Nat) (F : Fb) (h : FS base w B N Z F) (a b : Nat) (hab : a < b) (hb : b ≤ N.length) (hN : N.length ≤ 40000) :
  Calls Tryz.prog 109 #[.pointer (some ⟨B,0,none⟩),.agg #[.int .i64 (a:Int),.int .i64 (b:Int)]] w fun e w'=>e=.returned (.tuple #[])∧FE base w B F (N ++ (N.drop a).take (b - a)) (Z ++ (Z.drop a).take (b - a)) w':=by
 have HS:Hid (FS base (w.alloc (.cells #[.int .i64 (a:Int),.int .i64 (b:Int)] 123)) B N Z F):=h.stay ((Below.refl _ _).alloc (Nat.le_refl _) _)
 have HG0:Hid (FG w (w.alloc (.cells #[.int .i64 (a:Int),.int .i64 (b:Int)] 123)) B F F):=FG.of ((Below.refl _ _).alloc (Nat.le_refl _) _)
 have R0:Hid (Bx (w.alloc (.cells #[.int .i64 (a:Int),.int .i64 (b:Int)] 123)) w.heap.size (.int .i64 (a:Int)) (.int .i64 (b:Int))):=Bx.new w _ _
 have HLN:Hid (Z.length=N.length):=h.len
 have hZb:b≤Z.length:=by have:=h.len;omega
 have hZ4:Z.length≤40000:=by have:=h.len;omega
 have hcp:=h.caps
 have hna:¬ F.nc=a:=by omega
 have hsa:¬ F.sc=a:=by omega
 have hbn:b≤F.nc:=by omega
 have hbs2:b≤F.sc:=by omega
 have hable:a≤b:=by omega
 obtain ⟨i0,hi0,hz0,hz1,hz2⟩:=info_parts Tryz.info_node
 obtain ⟨i1,hi1,hy0,hy1,hy2⟩:=info_parts Tryz.info_int
 clear h
 go_enter Tryz.func109,Tryz.ntmps109
 go_wp2_with fail
 generalize w.alloc (.cells #[.int .i64 (a:Int),.int .i64 (b:Int)] 123)=w0 at HS HG0 R0 ⊢
 obtain ⟨c0,c1,cf⟩:=HS.out.raw.cells
 obtain ⟨r0,r1,rf⟩:=R0.out.cells
 have hlt:=HS.out.lt
 have hml:((N.drop a).take (b - a)).length=b - a:=by rw [List.length_take,List.length_drop];omega
 have hmz:((Z.drop a).take (b - a)).length=b - a:=by rw [List.length_take,List.length_drop];omega
 have HML:Hid (((N.drop a).take (b - a)).length=b - a∧((Z.drop a).take (b - a)).length=b - a):=⟨hml,hmz⟩
 have HN1:Hid ((ndC ((N.drop a).take (b - a))).length=(b - a) * 2):=by show _=_;rw [ndC_length,hml]
 have HZ1:Hid ((inC ((Z.drop a).take (b - a))).length=(b - a) * 1):=by show _=_;rw [inC_length,hmz,Nat.mul_one]
 clear hml hmz
 go_cut [] (fun wx=>∃ F',FR base wx B (N ++ (N.drop a).take (b - a)) Z F'∧FG w0 wx B F F'∧Bx wx w.heap.size (.int .i64 (a:Int)) (.int .i64 (b:Int))∧F'.sc=F.sc)
 case first =>
  have HX:Hid (FR base w0.drew B N Z F):=HS.out.raw.stay (Below.refl _ _).drew
  have HNEW:Hid (∀ j u,(ndC ((N.drop a).take (b - a)))[j]?=some u→w0.drew.cell? ((⟨F.nb,a * 2,none⟩:Addr).add j)=some u):=fun j u hj=>by
   have h1:=ndC_sub N a (b - a) (by omega) j u hj
   rw [Addr.add_lit]
   exact (HX.out.nod.cellAt (a * 2+j) (by have:=(List.getElem?_eq_some_iff.1 h1).1;rw [ndC_length] at this;exact this)).trans h1
  have hbs:base≤w0.drew.heap.size:=Nat.le_trans HX.out.from_ (Nat.le_of_lt HX.out.lt)
  have HBS:Hid (0<b - a∧N.length+(b - a)≤maxLen∧(N.length+(b - a)) * 16≤140737488355328):=⟨by omega,by unfold maxLen;omega,by omega⟩
  go_region_law (rw [if_pos (by rfl)];refine wp_append_lies _ _ _ 22 rfl base 51 i0 (.agg #[.int .i64 0,.int .u8 0]) 2 16 Tryz.underlying22 hi0 hz0 hz1 hz2 rfl (by decide) _ _ _ rfl HX.out.nod ⟨F.nb,a * 2,none⟩ (b - a) (F.nc - a) (ndC ((N.drop a).take (b - a))) rfl HN1.out HNEW.out (ndC_one _) HBS.out.1 HBS.out.2.1 HBS.out.2.2 hbs _ rfl ?_;intro g9 c9 w9 ho9 hg9 hl9 hlt9;have HO9:Hid _:=ho9;have HG9:Hid _:=hg9;have HL9:Hid _:=hl9;obtain ⟨k0,_,kf⟩:=HX.out.own_cells (b:=F.nb) hg9 HX.out.ne.1;clear ho9 hg9 hl9 hlt9)
  all_goals go_wp2_with fail
  all_goals go_meet
  all_goals
   have X:=put_nodes HX.out (M:=(N.drop a).take (b - a)) HG9.out (by rw [HML.out.1]) HO9.out HL9.out
   have XG:=(FG.of (B:=B) (F:=F) (Below.refl w0.heap.size w0).drew).trans X.2
   exact ⟨_,X.1,XG,R0.out.through HS.out.raw XG,rfl⟩
 case rest =>
  obtain ⟨F',hr,hg,hx,hsc⟩:=hcut
  rename World=>wz
  have HR:Hid (FR base wz B (N ++ (N.drop a).take (b - a)) Z F'):=hr
  have HG:Hid (FG w0 wz B F F'):=hg
  rw [← hsc] at hsa hbs2
  clear c0 c1 cf r0 r1 rf hlt hsc
  obtain ⟨c0,c1,cf⟩:=hr.cells
  obtain ⟨r0,r1,rf⟩:=hx.cells
  have hlt:=hr.lt
  clear hr hg hx
  go_wp2_with fail
  have HX:Hid (FR base wz.drew B (N ++ (N.drop a).take (b - a)) Z F'):=HR.out.stay (Below.refl _ _).drew
  have HNEW:Hid (∀ j u,(inC ((Z.drop a).take (b - a)))[j]?=some u→wz.drew.cell? ((⟨F'.sb,a,none⟩:Addr).add j)=some u):=fun j u hj=>by
   have h1:=inC_sub Z a (b - a) (by omega) j u hj
   rw [Addr.add_lit]
   exact (HX.out.siz.cellAt (a+j) (by have:=(List.getElem?_eq_some_iff.1 h1).1;rw [inC_length] at this;omega)).trans h1
  have hbs:base≤wz.drew.heap.size:=Nat.le_trans HX.out.from_ (Nat.le_of_lt HX.out.lt)
  have HBS:Hid (0<b - a∧Z.length+(b - a)≤maxLen∧(Z.length+(b - a)) * 8≤140737488355328):=⟨by omega,by unfold maxLen;omega,by omega⟩
  go_region_law (rw [if_pos (by rfl)];refine wp_append_lies _ _ _ 66 rfl base 3 i1 (.int .i64 0) 1 8 Tryz.underlying66 hi1 hy0 hy1 hy2 rfl (by decide) _ _ _ rfl HX.out.siz ⟨F'.sb,a,none⟩ (b - a) (F'.sc - a) (inC ((Z.drop a).take (b - a))) rfl HZ1.out HNEW.out (inC_one _) HBS.out.1 HBS.out.2.1 HBS.out.2.2 hbs _ rfl ?_;intro g9 c9 w9 ho9 hg9 hl9 hlt9;have HO9:Hid _:=ho9;have HG9:Hid _:=hg9;have HL9:Hid _:=hl9;obtain ⟨_,k1,kf⟩:=HX.out.own_cells (b:=F'.sb) hg9 HX.out.ne.2.1;clear ho9 hg9 hl9 hlt9)
  all_goals go_wp2_with fail
  all_goals
   refine bodyPost_end (results_none rfl _ _ _) rfl ?_
   have X:=put_sizes HX.out (Y:=(Z.drop a).take (b - a)) HG9.out (by rw [HML.out.2]) HO9.out HL9.out
   have XG:=(FG.of (B:=B) (F:=F') (Below.refl wz.heap.size wz).drew).trans X.2
   have hln:=HLN.out
   obtain ⟨m1,m2⟩:=HML.out
   exact ⟨rfl,_,X.1.full (by rw [List.length_append,List.length_append,m1,m2,hln]) (by rw [List.length_append,m1];omega),HG0.out.trans (HG.out.trans XG)⟩
end Go.Proofs.YtfdhaknecjcjoaaGreatDoor
