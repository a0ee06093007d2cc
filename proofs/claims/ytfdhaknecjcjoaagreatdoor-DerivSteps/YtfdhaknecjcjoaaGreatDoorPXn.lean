/- The rule merge. -/
import Derived.Test.YtfdhaknecjcjoaaGreatDoorPY
namespace Go.Proofs.YtfdhaknecjcjoaaGreatDoor
open Go Go.RowKit
set_option linter.unusedVariables false

/-- A block of another kind stands through what is done to the forms. -/
theorem FG.other {base:Nat} {w w':World} {B:Nat} {N:List Nd} {Z:List Nat} {F F':Fb} (hg:FG w w' B F F') (hr:FR base w B N Z F) {j:Nat} {arr:Array Value} {t:TypeId} (h:w.heap[j]?=some (.cells arr t (0,0))) (h1:t≠51) (h2:t≠3) (h3:t≠68):w'.heap[j]?=some (.cells arr t (0,0)):=by
 obtain ⟨t1,e1⟩:=own_ty2 hr.nod F.nb rfl
 obtain ⟨t2,e2⟩:=own_ty2 hr.siz F.sb rfl
 have hB:=hr.blk
 refine (hg.block j (Array.getElem?_eq_some_iff.1 h).1 (fun e=>?_) (fun e=>?_) (fun e=>?_)).trans h
 ·rw [e,hB] at h;simp only [Option.some.injEq,Obj.cells.injEq] at h;exact h3 h.2.1.symm
 ·rw [e,e1] at h;simp only [Option.some.injEq,Obj.cells.injEq] at h;exact h1 h.2.1.symm
 ·rw [e,e2] at h;simp only [Option.some.injEq,Obj.cells.injEq] at h;exact h2 h.2.1.symm
/-- A box with a pointer. -/
def Px (w:World) (b B:Nat):Prop:=w.heap[b]?=some (.cells #[.pointer (some ⟨B,0,none⟩)] 69 (0,0))
theorem Px.cell {w:World} {b B:Nat} (h:Px w b B):w.cell? ⟨b,0,none⟩=some (.pointer (some ⟨B,0,none⟩)):=by
 unfold Px at h
 simp [World.cell?,h]
theorem Px.lt {w:World} {b B:Nat} (h:Px w b B):b<w.heap.size:=(Array.getElem?_eq_some_iff.1 h).1
theorem Px.stay {w w':World} {b B:Nat} (h:Px w b B) (hb:Below w.heap.size w w'):Px w' b B:=(hb.block b h.lt).trans h
theorem Px.new (w:World) (B:Nat):Px (w.alloc (.cells #[.pointer (some ⟨B,0,none⟩)] 69)) w.heap.size B:=heap_alloc_new w _
theorem Px.through {base:Nat} {w w':World} {B:Nat} {N:List Nd} {Z:List Nat} {F F':Fb} {b:Nat} (h:Px w b B) (hr:FR base w B N Z F) (hg:FG w w' B F F'):Px w' b B:=hg.other hr h (by decide) (by decide) (by decide)

theorem At.takeZ {N:List Nd} {Z:List Nat} {p e:Nat} {t:Tr} (h:At N Z p e t):(Z.drop p).take (e - p)=t.sz:=by
 obtain ⟨A,C,rfl,rfl⟩:=h.siz
 rw [List.append_assoc,List.drop_left,h.end_,show A.length+t.flat.length - A.length=t.flat.length by omega,← t.sz_len,List.take_left]
theorem repeat_stack {base : Nat} {w : World} {B : Nat} {F : Fb} {ts : List Tr} (h : FT base w B ts F) {P E : Nat} {t : Tr} (ht : At (flatL ts) (szL ts) P E t) (hN : (flatL ts).length ≤ 40000) :
  Calls Tryz.prog 109 #[.pointer (some ⟨B,0,none⟩),.agg #[.int .i64 (P:Int),.int .i64 (E:Int)]] w fun en w'=>en=.returned (.tuple #[])∧FTE base w B F (ts ++ [t]) w':=by
 have hle:=ht.le
 have:=repeat_any base w B _ _ F h P E hle.1 hle.2 hN
 rw [ht.take,ht.takeZ,← flatL_one t,← flatL_append,← szL_one t,← szL_append] at this
 exact this
/-- The two forms that were merged are taken out. -/
theorem drop_two {base:Nat} {w:World} {B:Nat} {F:Fb} {pre:List Tr} {x y z:Tr} (h:FT base w B (pre ++ [x,y] ++ [z]) F) {p e:Nat} (hp:p=(flatL pre).length) (he:e=(flatL (pre ++ [x,y])).length) :
  Calls Tryz.prog 89 #[.pointer (some ⟨B,0,none⟩),.agg #[.int .i64 (p:Int),.int .i64 (e:Int)]] w fun en w'=>en=.returned (.tuple #[])∧FTE base w B F (pre ++ [z]) w':=by
 have hz:=szL_len pre
 have hz2:=szL_len (pre ++ [x,y])
 have l1:(flatL (pre ++ [x,y])).length=(flatL pre).length+(x.flat ++ y.flat).length:=by rw [flatL_append,flatL_cons,flatL_one,List.length_append]
 have l2:(szL (pre ++ [x,y])).length=(szL pre).length+(x.sz ++ y.sz).length:=by rw [szL_append,szL_cons,szL_one,List.length_append]
 have e1:flatL (pre ++ [x,y] ++ [z])=flatL pre ++ (x.flat ++ y.flat) ++ z.flat:=by rw [flatL_append,flatL_append,flatL_cons,flatL_one,flatL_one]
 have e2:szL (pre ++ [x,y] ++ [z])=szL pre ++ (x.sz ++ y.sz) ++ z.sz:=by rw [szL_append,szL_append,szL_cons,szL_one,szL_one]
 have:=drop_any base w B _ _ F h p e (by omega) (by rw [e1,List.length_append,List.length_append];omega)
 have f1:(flatL (pre ++ [x,y] ++ [z])).take p ++ (flatL (pre ++ [x,y] ++ [z])).drop e=flatL (pre ++ [z]):=by
  rw [e1,he,l1,hp,take_at,drop_at,flatL_append,flatL_one]
 have f2:(szL (pre ++ [x,y] ++ [z])).take p ++ (szL (pre ++ [x,y] ++ [z])).drop e=szL (pre ++ [z]):=by
  rw [e2,he,← hz2,l2,hp,← hz,take_at,drop_at,szL_append,szL_one]
 rw [f1,f2] at this
 exact this
theorem sr_own {w:World} {base:Nat} {v:Value} {Q:List Pq} {k:Int} {t:Tr} (hq:trQ Q=spine k t) (h:w.ownsRow base 123 2 v Q.length (spC (spQ Q))):SReads w v (spQ Q):=by
 have hn:spQ Q≠[]:=fun e=>by
  have:Q=[]:=by simpa [spQ] using e
  rw [this] at hq
  exact spine_ne k t hq.symm
 exact own_sreads (by rw [spQ_length];exact h) hn

set_option maxHeartbeats 8000000 in
set_option maxRecDepth 100000 in
theorem merge_any {base:Nat} {w:World} {B:Nat} {F:Fb} {pre:List Tr} {x y:Tr} (h:FT base w B (pre ++ [x,y]) F) (hox:x.ok) (hoy:y.ok) (hN:(flatL (pre ++ [x,y])).length≤10000) (k:Int) (hk:k=5∨k=6) :
  Calls Tryz.prog 82 #[.pointer (some ⟨B,0,none⟩),.int .i64 k] w fun en w'=>en=.returned (.tuple #[])∧FTE base w B F (pre ++ [if y.root.1≠k∧Lt (grt k x) y then .two (k,0) x y else build k (mrg (spine k x) (spine k y))]) w':=by
 obtain ⟨p,q,e,hx,hy,he,hp⟩:=at_last2 pre x y
 have HS:Hid (FT base w B (pre ++ [x,y]) F):=h
 have HT:Hid (At (flatL (pre ++ [x,y])) (szL (pre ++ [x,y])) p q x):=hx
 have HU:Hid (At (flatL (pre ++ [x,y])) (szL (pre ++ [x,y])) q e y):=hy
 have HOX:Hid x.ok:=hox
 have HOY:Hid y.ok:=hoy
 have HE:Hid (e=(flatL (pre ++ [x,y])).length):=he
 have HP:Hid (p=(flatL pre).length):=hp
 have HN:Hid ((flatL (pre ++ [x,y])).length≤10000):=hN
 have hlt:=h.lt
 have HB0:Hid (Below w.heap.size w (w.alloc (.cells #[.pointer (some ⟨B,0,none⟩)] 69))):=(Below.refl _ _).alloc (Nat.le_refl _) _
 have HP0:Hid (Px (w.alloc (.cells #[.pointer (some ⟨B,0,none⟩)] 69)) w.heap.size B):=Px.new w B
 clear h hx hy hox hoy he hp hN
 obtain ⟨T,hT⟩:∃ T,(if y.root.1≠k∧Lt (grt k x) y then Tr.two (k,0) x y else build k (mrg (spine k x) (spine k y)))=T:=⟨_,rfl⟩
 rw [hT]
 have HTT:Hid ((if y.root.1≠k∧Lt (grt k x) y then Tr.two (k,0) x y else build k (mrg (spine k x) (spine k y)))=T):=hT
 clear hT
 go_enter Tryz.func82,Tryz.ntmps82
 go_wp2_with fail
 obtain ⟨cb,hcb⟩:∃ cb,w.heap.size=cb:=⟨_,rfl⟩
 generalize w.alloc (.cells #[.pointer (some ⟨B,0,none⟩)] 69)=wA at HB0 HP0 ⊢
 rw [hcb] at HP0 ⊢
 refine (lastT (HS.out.stay HB0.out) HT.out HU.out HE.out).mono ?_
 rintro en w1 ⟨rfl,hb1⟩
 have HB1:Hid (Below w.heap.size w ((w1.alloc (.cells #[.int .i64 (p:Int),.int .i64 (q:Int)] 123)).alloc (.cells #[.int .i64 (q:Int),.int .i64 (e:Int)] 123))):=by
  have h1:=go_on HB0.out hb1
  exact (h1.alloc h1.size _).alloc (by have:=h1.size;simp;omega) _
 have HP1:Hid (Px ((w1.alloc (.cells #[.int .i64 (p:Int),.int .i64 (q:Int)] 123)).alloc (.cells #[.int .i64 (q:Int),.int .i64 (e:Int)] 123)) cb B):=((HP0.out.stay hb1).stay ((Below.refl _ _).alloc (Nat.le_refl _) _)).stay ((Below.refl _ _).alloc (Nat.le_refl _) _)
 have HX1:Hid (Bx ((w1.alloc (.cells #[.int .i64 (p:Int),.int .i64 (q:Int)] 123)).alloc (.cells #[.int .i64 (q:Int),.int .i64 (e:Int)] 123)) w1.heap.size (.int .i64 (p:Int)) (.int .i64 (q:Int))):=(Bx.new w1 _ _).stay ((Below.refl _ _).alloc (Nat.le_refl _) _)
 have HY1:Hid (Bx ((w1.alloc (.cells #[.int .i64 (p:Int),.int .i64 (q:Int)] 123)).alloc (.cells #[.int .i64 (q:Int),.int .i64 (e:Int)] 123)) (w1.heap.size+1) (.int .i64 (q:Int)) (.int .i64 (e:Int))):=by
  have:=Bx.new (w1.alloc (.cells #[.int .i64 (p:Int),.int .i64 (q:Int)] 123)) (.int .i64 (q:Int)) (.int .i64 (e:Int))
  rw [show (w1.alloc (.cells #[.int .i64 (p:Int),.int .i64 (q:Int)] 123)).heap.size=w1.heap.size+1 by simp] at this
  exact this
 clear hb1 HP0 HB0
 go_wp2_with fail
 obtain ⟨b,hb⟩:∃ b,w1.heap.size=b:=⟨_,rfl⟩
 generalize (w1.alloc (.cells #[.int .i64 (p:Int),.int .i64 (q:Int)] 123)).alloc (.cells #[.int .i64 (q:Int),.int .i64 (e:Int)] 123)=w2 at HB1 HP1 HX1 HY1 ⊢
 rw [hb] at HX1 HY1 ⊢
 clear hb hcb
 obtain ⟨x0,x1,xf⟩:=HX1.out.cells
 obtain ⟨y0,y1,yf⟩:=HY1.out.cells
 have pc:=HP1.out.cell
 go_cut [29] (fun v29 wx=>v29=.bool (decide (y.root.1≠k∧Lt (grt k x) y))∧Below w2.heap.size w2 wx)
 case first =>
  by_cases hr : y.root.1 = k
  ·have hkk:(k != k)=false:=by simp
   have HRK:Hid (y.root.1=k):=hr
   have HD:Hid (decide (y.root.1≠k∧Lt (grt k x) y)=false):=by show _=_;rw [decide_eq_false];exact fun h=>h.1 hr
   clear hr
   have S0:S5c w2 cb 0 b 0 b 1 (b+1) 0 (b+1) 1 (.pointer (some ⟨B,0,none⟩)) (.int .i64 (p:Int)) (.int .i64 (q:Int)) (.int .i64 (q:Int)) (.int .i64 (e:Int)) w2.drew:=⟨pc,x0,x1,y0,y1,(Below.refl _ _).drew⟩
   clear x0 x1 xf y0 y1 yf pc
   rcases hk with rfl | rfl
   all_goals
    refine wp_region_held_drew (S:=fun w'=>S5c w2 cb 0 b 0 b 1 (b+1) 0 (b+1) 1 (.pointer (some ⟨B,0,none⟩)) (.int .i64 (p:Int)) (.int .i64 (q:Int)) (.int .i64 (q:Int)) (.int .i64 (e:Int)) w') (by kernel_rfl) S0 (fun hHeld=>?_)
    refine wpAnyH_take (i := 0) (oi := { dst := some 15, op := Op.load 69 (Operand.tmp 2), type := 69, pos := "rules.go:52", after := #[], guard := none }) (v := ?_) rfl (by kernel_rfl) (by kernel_rfl) (by kernel_rfl) (fun _ _ _ h => h) (Or.inl ⟨by rfl, ?_⟩) (by assumption) ?_
    rotate_left
    ·intro w hSw;(try dsimp only at hSw);go_simp;(try with_reducible rfl)
    try simp only [Act.put,List.setIfInBounds_toArray,List.set_cons_zero,List.set_cons_succ]
    refine wpAnyH_take (i := 1) (oi := { dst := some 16, op := Op.load 123 (Operand.tmp 5), type := 123, pos := "rules.go:52", after := #[], guard := none }) (v := ?_) rfl (by kernel_rfl) (by kernel_rfl) (by kernel_rfl) (fun _ _ _ h => h) (Or.inl ⟨by rfl, ?_⟩) (by assumption) ?_
    rotate_left
    ·intro w hSw;(try dsimp only at hSw);go_simp;(try with_reducible rfl)
    try simp only [Act.put,List.setIfInBounds_toArray,List.set_cons_zero,List.set_cons_succ]
    refine wpAnyH_take (i := 3) (oi := { dst := some 18, op := Op.move (Operand.tmp 1), type := 3, pos := "rules.go:52", after := #[], guard := none }) (v := ?_) rfl (by kernel_rfl) (by kernel_rfl) (by kernel_rfl) (fun _ _ _ h => h) (Or.inl ⟨by rfl, ?_⟩) (by assumption) ?_
    rotate_left
    ·intro w hSw;(try dsimp only at hSw);go_simp;(try with_reducible rfl)
    try simp only [Act.put,List.setIfInBounds_toArray,List.set_cons_zero,List.set_cons_succ]
    refine wpAnyH_ready (rs:=[2]) (by kernel_rfl) (by simp) ?_
    refine AllReadyH.cons (o := { dst := some 17, op := Op.call { callee := Callee.value (Operand.func 105), args := #[Operand.tmp 15, Operand.tmp 16], argTypes := #[69, 123] }, type := 3, pos := "rules.go:52", after := #[{ on := 0, ground := Ground.data }, { on := 1, ground := Ground.data }], guard := none }) rfl (fun K hK => ?_) AllReadyH.nil
    go_simp
    refine (rootT (HS.out.stay (go_on HB1.out (show S5c w2 cb 0 b 0 b 1 (b + 1) 0 (b + 1) 1 _ _ _ _ _ _ from by assumption).2.2.2.2.2)) HU.out).mono ?_
    rintro en y1 ⟨rfl,hy1⟩
    rw [HRK.out]
    go_wp2_with fail
    refine hK.out _ _ ?_ (fun hHeld=>?_)
    ·exact s5c_step hy1 hHeld
    clear hK K
    try simp only [Act.put,List.setIfInBounds_toArray,List.set_cons_zero,List.set_cons_succ]
    refine wpAnyH_take (i := 4) (oi := { dst := some 19, op := Op.binOp BinOp.neq 3 (Operand.tmp 17) (Operand.tmp 18) 3, type := 4, pos := "rules.go:52", after := #[{ on := 2, ground := Ground.data }, { on := 3, ground := Ground.data }], guard := none }) (v := ?_) rfl (by kernel_rfl) (by kernel_rfl) (by kernel_rfl) (fun _ _ _ h => h) (Or.inl ⟨by rfl, ?_⟩) (by assumption) ?_
    rotate_left
    ·intro w hSw;(try dsimp only at hSw);go_simp;(try with_reducible rfl)
    try simp only [Act.put,List.setIfInBounds_toArray,List.set_cons_zero,List.set_cons_succ]
    refine wpAnyH_take (i := 5) (oi := { dst := some 20, op := Op.move (Operand.tmp 19), type := 4, pos := "rules.go:52", after := #[{ on := 4, ground := Ground.data }, { on := 2, ground := Ground.chain }], guard := none }) (v := ?_) rfl (by kernel_rfl) (by kernel_rfl) (by kernel_rfl) (fun _ _ _ h => h) (Or.inl ⟨by rfl, ?_⟩) (by assumption) ?_
    rotate_left
    ·intro w hSw;(try dsimp only at hSw);go_simp;(try with_reducible rfl)
    try simp only [Act.put,List.setIfInBounds_toArray,List.set_cons_zero,List.set_cons_succ]
    refine wpAnyH_take (i := 6) (oi := { dst := some 21, op := Op.move (Operand.tmp 6), type := 137, pos := "rules.go:52", after := #[{ on := 5, ground := Ground.guard }], guard := some (5, true) }) (v := undef) rfl (by kernel_rfl) (by kernel_rfl) (by kernel_rfl) (fun _ _ _ h => h) (Or.inr ⟨by rfl, rfl⟩) (by assumption) ?_
    try simp only [Act.put,List.setIfInBounds_toArray,List.set_cons_zero,List.set_cons_succ]
    refine wpAnyH_take (i := 7) (oi := { dst := some 22, op := Op.load 69 (Operand.tmp 2), type := 69, pos := "rules.go:52", after := #[{ on := 5, ground := Ground.guard }], guard := some (5, true) }) (v := undef) rfl (by kernel_rfl) (by kernel_rfl) (by kernel_rfl) (fun _ _ _ h => h) (Or.inr ⟨by rfl, rfl⟩) (by assumption) ?_
    try simp only [Act.put,List.setIfInBounds_toArray,List.set_cons_zero,List.set_cons_succ]
    refine wpAnyH_take (i := 8) (oi := { dst := some 23, op := Op.move (Operand.tmp 1), type := 3, pos := "rules.go:52", after := #[{ on := 5, ground := Ground.guard }], guard := some (5, true) }) (v := undef) rfl (by kernel_rfl) (by kernel_rfl) (by kernel_rfl) (fun _ _ _ h => h) (Or.inr ⟨by rfl, rfl⟩) (by assumption) ?_
    try simp only [Act.put,List.setIfInBounds_toArray,List.set_cons_zero,List.set_cons_succ]
    refine wpAnyH_take (i := 9) (oi := { dst := some 24, op := Op.load 123 (Operand.tmp 4), type := 123, pos := "rules.go:52", after := #[{ on := 5, ground := Ground.guard }], guard := some (5, true) }) (v := undef) rfl (by kernel_rfl) (by kernel_rfl) (by kernel_rfl) (fun _ _ _ h => h) (Or.inr ⟨by rfl, rfl⟩) (by assumption) ?_
    try simp only [Act.put,List.setIfInBounds_toArray,List.set_cons_zero,List.set_cons_succ]
    refine wpAnyH_take (i := 11) (oi := { dst := some 26, op := Op.load 123 (Operand.tmp 5), type := 123, pos := "rules.go:52", after := #[{ on := 5, ground := Ground.guard }], guard := some (5, true) }) (v := undef) rfl (by kernel_rfl) (by kernel_rfl) (by kernel_rfl) (fun _ _ _ h => h) (Or.inr ⟨by rfl, rfl⟩) (by assumption) ?_
    try simp only [Act.put,List.setIfInBounds_toArray,List.set_cons_zero,List.set_cons_succ]
    refine wpAnyH_ready (rs:=[10]) (by kernel_rfl) (by simp) ?_
    refine AllReadyH.cons (o := { dst := some 25, op := Op.call { callee := Callee.value (Operand.func 106), args := #[Operand.tmp 22, Operand.tmp 23, Operand.tmp 24], argTypes := #[69, 3, 123] }, type := 123, pos := "rules.go:52", after := #[{ on := 7, ground := Ground.data }, { on := 8, ground := Ground.data }, { on := 9, ground := Ground.data }, { on := 5, ground := Ground.chain }, { on := 5, ground := Ground.guard }], guard := some (5, true) }) rfl (fun K hK => ?_) AllReadyH.nil
    go_simp
    refine hK.out _ _ ?_ (fun hHeld=>?_)
    ·assumption
    clear hK K
    try simp only [Act.put,List.setIfInBounds_toArray,List.set_cons_zero,List.set_cons_succ]
    refine wpAnyH_ready (rs:=[12]) (by kernel_rfl) (by simp) ?_
    refine AllReadyH.cons (o := { dst := some 27, op := Op.call { callee := Callee.value (Operand.tmp 21), args := #[Operand.tmp 25, Operand.tmp 26], argTypes := #[123, 123] }, type := 3, pos := "rules.go:52", after := #[{ on := 6, ground := Ground.data }, { on := 10, ground := Ground.data }, { on := 11, ground := Ground.data }, { on := 10, ground := Ground.chain }, { on := 5, ground := Ground.guard }], guard := some (5, true) }) rfl (fun K hK => ?_) AllReadyH.nil
    go_simp
    refine hK.out _ _ ?_ (fun hHeld=>?_)
    ·assumption
    clear hK K
    try simp only [Act.put,List.setIfInBounds_toArray,List.set_cons_zero,List.set_cons_succ]
    refine wpAnyH_take (i := 13) (oi := { dst := some 28, op := Op.binOp BinOp.lss 3 (Operand.tmp 27) (Operand.const (Value.int IntKind.i64 0)) 3, type := 4, pos := "rules.go:52", after := #[{ on := 12, ground := Ground.data }, { on := 5, ground := Ground.guard }], guard := some (5, true) }) (v := undef) rfl (by kernel_rfl) (by kernel_rfl) (by kernel_rfl) (fun _ _ _ h => h) (Or.inr ⟨by rfl, rfl⟩) (by assumption) ?_
    try simp only [Act.put,List.setIfInBounds_toArray,List.set_cons_zero,List.set_cons_succ]
    refine wpAnyH_take (i := 14) (oi := { dst := some 29, op := Op.pick (Operand.tmp 20) (Operand.tmp 28) (Operand.const (Value.bool false)), type := 4, pos := "rules.go:52", after := #[{ on := 5, ground := Ground.data }, { on := 13, ground := Ground.data }], guard := none }) (v := ?_) rfl (by kernel_rfl) (by kernel_rfl) (by kernel_rfl) (fun _ _ _ h => h) (Or.inl ⟨by rfl, ?_⟩) (by assumption) ?_
    rotate_left
    ·intro w hSw;(try dsimp only at hSw);go_simp;(try with_reducible rfl)
    try simp only [Act.put,List.setIfInBounds_toArray,List.set_cons_zero,List.set_cons_succ]
    refine wpAnyH_done (by kernel_rfl) ?_ _
    go_wp2_with fail
    go_meet
    exact ⟨by rw [HD.out],(show S5c w2 cb 0 b 0 b 1 (b+1) 0 (b+1) 1 (.pointer (some ⟨B,0,none⟩)) (.int .i64 (p:Int)) (.int .i64 (q:Int)) (.int .i64 (q:Int)) (.int .i64 (e:Int)) _ from hHeld).2.2.2.2.2⟩
  ·have hb:(y.root.1 != k)=true:=by simpa using hr
   have HD:Hid (decide (y.root.1≠k∧Lt (grt k x) y)=decide (ct (grt k x).flat y.flat<0)):=by
    show _ = _
    apply decide_eq_decide.2
    exact ⟨fun h=>h.2,fun h=>⟨hr,h⟩⟩
   clear hr
   have S0:S5c w2 cb 0 b 0 b 1 (b+1) 0 (b+1) 1 (.pointer (some ⟨B,0,none⟩)) (.int .i64 (p:Int)) (.int .i64 (q:Int)) (.int .i64 (q:Int)) (.int .i64 (e:Int)) w2.drew:=⟨pc,x0,x1,y0,y1,(Below.refl _ _).drew⟩
   clear x0 x1 xf y0 y1 yf pc
   go_region_held3 (fun w'=>S5c w2 cb 0 b 0 b 1 (b+1) 0 (b+1) 1 (.pointer (some ⟨B,0,none⟩)) (.int .i64 (p:Int)) (.int .i64 (q:Int)) (.int .i64 (q:Int)) (.int .i64 (e:Int)) w') (first | exact S0 | assumption | exact s5c_step (by assumption) (by assumption)) (first
    | (go_at_call 105;refine (rootT (HS.out.stay (go_on HB1.out (show S5c w2 cb 0 b 0 b 1 (b+1) 0 (b+1) 1 _ _ _ _ _ _ from by assumption).2.2.2.2.2)) HU.out).mono ?_;rintro en a1 ⟨rfl,ha1⟩)
    | (go_at_call 106;refine (greatestT (HS.out.stay (go_on HB1.out (show S5c w2 cb 0 b 0 b 1 (b+1) 0 (b+1) 1 _ _ _ _ _ _ from by assumption).2.2.2.2.2)) HT.out HOX.out k hk).mono ?_;rintro en a2 ⟨gp,ge,hgat,rfl,ha2⟩)
    | (go_at_call 104;refine (compareT (HS.out.stay (go_on HB1.out (show S5c w2 cb 0 b 0 b 1 (b+1) 0 (b+1) 1 _ _ _ _ _ _ from by assumption).2.2.2.2.2)) (by assumption) HU.out cb (show S5c w2 cb 0 b 0 b 1 (b+1) 0 (b+1) 1 _ _ _ _ _ _ from by assumption).1).mono ?_;rintro en a3 ⟨rfl,ha3⟩))
   all_goals go_wp2_with fail
   all_goals go_meet
   all_goals exact ⟨by rw [HD.out],(show S5c w2 cb 0 b 0 b 1 (b+1) 0 (b+1) 1 (.pointer (some ⟨B,0,none⟩)) (.int .i64 (p:Int)) (.int .i64 (q:Int)) (.int .i64 (q:Int)) (.int .i64 (e:Int)) _ from by first | assumption | exact s5c_step (by assumption) (by assumption)).2.2.2.2.2⟩
 case rest =>
  obtain ⟨rfl,hbx⟩:=hcut
  rename World=>w3
  have HB3:Hid (Below w.heap.size w w3):=go_on HB1.out hbx
  have HP3:Hid (Px w3 cb B):=HP1.out.stay hbx
  have HX3:Hid (Bx w3 b (.int .i64 (p:Int)) (.int .i64 (q:Int))):=HX1.out.stay hbx
  have HY3:Hid (Bx w3 (b+1) (.int .i64 (q:Int)) (.int .i64 (e:Int))):=HY1.out.stay hbx
  clear x0 x1 xf y0 y1 yf pc hbx HB1 HP1 HX1 HY1
  obtain ⟨x0,x1,xf⟩:=HX3.out.cells
  obtain ⟨y0,y1,yf⟩:=HY3.out.cells
  have pc:=HP3.out.cell
  by_cases hc:y.root.1≠k∧Lt (grt k x) y
  ·have HT2:Hid (T=.two (k,0) x y):=by show _=_;rw [← HTT.out,if_pos hc]
   rw [decide_eq_true hc]
   clear hc
   go_wp2_with fail
   refine (put2 (HS.out.stay HB3.out) (k,0) (by have:=HN.out;omega)).mono ?_
   rintro en w4 ⟨rfl,hf4⟩
   have HF4:Hid (FE base w3 B F (flatL (pre ++ [.two (k,0) x y])) (szL (pre ++ [.two (k,0) x y])) w4):=hf4
   clear hf4
   go_wp2_with fail
   refine bodyPost_ret (results_none rfl _ _ _) rfl ?_
   exact ⟨rfl,by rw [HT2.out];exact FE.after HB3.out HF4.out⟩
  ·have HT2:Hid (T=build k (mrg (spine k x) (spine k y))):=by show _=_;rw [← HTT.out,if_neg hc]
   rw [decide_eq_false hc]
   clear hc
   go_wp2_with fail
   go_cut [43,44,45] (fun v43 v44 v45 wx=>∃ R:List Pq,v44=.int .i64 (R.length:Int)∧v45=.int .i64 0∧trQ R=mrg (spine k x) (spine k y)∧PlQ (flatL (pre ++ [x,y])) (szL (pre ++ [x,y])) R∧R.length≤200000∧wx.ownsRow w3.heap.size 123 2 v43 R.length (spC (spQ R))∧Below w3.heap.size w3 wx)
   case first =>
    have S0:S5c w3 cb 0 b 0 b 1 (b+1) 0 (b+1) 1 (.pointer (some ⟨B,0,none⟩)) (.int .i64 (p:Int)) (.int .i64 (q:Int)) (.int .i64 (q:Int)) (.int .i64 (e:Int)) w3.drew:=⟨pc,x0,x1,y0,y1,(Below.refl _ _).drew⟩
    clear x0 x1 xf y0 y1 yf pc
    go_region_held3 (fun w'=>S5c w3 cb 0 b 0 b 1 (b+1) 0 (b+1) 1 (.pointer (some ⟨B,0,none⟩)) (.int .i64 (p:Int)) (.int .i64 (q:Int)) (.int .i64 (q:Int)) (.int .i64 (e:Int)) w') (first | exact S0 | assumption | exact s5c_step (by assumption) (by assumption)) (first
     | (go_at_call_of 108 (Value.int IntKind.i64 (p:Int));refine (members_any (HS.out.stay (go_on HB3.out (show S5c w3 cb 0 b 0 b 1 (b+1) 0 (b+1) 1 (.pointer (some ⟨B,0,none⟩)) (.int .i64 (p:Int)) (.int .i64 (q:Int)) (.int .i64 (q:Int)) (.int .i64 (e:Int)) _ from by assumption).2.2.2.2.2)) HT.out HOX.out k hk).mono ?_;rintro en aX ⟨QX,vX,hX1,hX2,hX3,rfl,hoX,haX⟩)
     | (go_at_call 108;refine (members_any (HS.out.stay (go_on HB3.out (show S5c w3 cb 0 b 0 b 1 (b+1) 0 (b+1) 1 (.pointer (some ⟨B,0,none⟩)) (.int .i64 (p:Int)) (.int .i64 (q:Int)) (.int .i64 (q:Int)) (.int .i64 (e:Int)) _ from by assumption).2.2.2.2.2)) HU.out HOY.out k hk).mono ?_;rintro en aY ⟨QY,vY,hY1,hY2,hY3,rfl,hoY,haY⟩)
     | (go_at_call 107;refine (rising_any (HS.out.stay (go_on HB3.out (show S5c w3 cb 0 b 0 b 1 (b+1) 0 (b+1) 1 (.pointer (some ⟨B,0,none⟩)) (.int .i64 (p:Int)) (.int .i64 (q:Int)) (.int .i64 (q:Int)) (.int .i64 (e:Int)) _ from by assumption).2.2.2.2.2)) _ _ QX QY (by first | exact sr_own hX1 hoX | exact (sr_own hX1 hoX).stay haY) (by first | exact sr_own hY1 hoY | exact (sr_own hY1 hoY).stay haX) hX2 hY2 hX3 hY3 cb (show S5c w3 cb 0 b 0 b 1 (b+1) 0 (b+1) 1 (.pointer (some ⟨B,0,none⟩)) (.int .i64 (p:Int)) (.int .i64 (q:Int)) (.int .i64 (q:Int)) (.int .i64 (e:Int)) _ from by assumption).1).mono ?_;rintro en a3 ⟨R,vR,hR1,hR2,hR3,rfl,hoR,ha3⟩;obtain ⟨ra,rc,hv⟩:=own_shape hoR;subst hv))
    all_goals go_wp2_with fail
    all_goals go_meet
    all_goals exact ⟨R,rfl,rfl,by rw [hR1,hX1,hY1],hR2,by omega,own_mono hoR (by first | exact (s5c_step haY (s5c_step haX S0)).2.2.2.2.2.size | exact (s5c_step haX (s5c_step haY S0)).2.2.2.2.2.size),by first | exact (s5c_step ha3 (s5c_step haY (s5c_step haX S0))).2.2.2.2.2 | exact (s5c_step ha3 (s5c_step haX (s5c_step haY S0))).2.2.2.2.2⟩
   case rest =>
    obtain ⟨R,rfl,rfl,hR1,hR2,hR3,hoR,hb4⟩:=hcut
    rename World=>w4
    have HB4:Hid (Below w.heap.size w w4):=go_on HB3.out hb4
    have HP4:Hid (Px w4 cb B):=HP3.out.stay hb4
    have HX4:Hid (Bx w4 b (.int .i64 (p:Int)) (.int .i64 (q:Int))):=HX3.out.stay hb4
    have HY4:Hid (Bx w4 (b+1) (.int .i64 (q:Int)) (.int .i64 (e:Int))):=HY3.out.stay hb4
    have HR1:Hid (trQ R=mrg (spine k x) (spine k y)):=hR1
    have HR2:Hid (PlQ (flatL (pre ++ [x,y])) (szL (pre ++ [x,y])) R):=hR2
    have hRne:R≠[]:=fun e=>by
     rw [e] at hR1
     exact mrg_ne (b:=spine k y) (spine_ne k x) hR1.symm
    have HRN:Hid (R≠[]):=hRne
    have HBD:Hid (lens (trQ R)≤x.flat.length+1+(y.flat.length+1)):=by
     show _ ≤ _
     rw [hR1]
     have h1:=lens_mrg _ (Nat.le_refl _) (a:=spine k x) (b:=spine k y)
     have h2:=len_build (k:=k) (spine_ne k x)
     have h3:=len_build (k:=k) (spine_ne k y)
     rw [build_spine HOX.out] at h2
     rw [build_spine HOY.out] at h3
     omega
    have HLN:Hid ((flatL pre).length+x.flat.length+y.flat.length≤10000):=by
     show _ ≤ _
     have:=HN.out
     rw [flatL_append,flatL_cons,flatL_one] at this
     simp only [List.length_append] at this
     omega
    obtain ⟨g,o,rc,hv,hrc,hrc2,hgl,hcells⟩:=own_sreads (L:=spQ R) (by rw [spQ_length];exact hoR) (fun e=>hRne (by simpa [spQ] using e))
    subst hv
    rw [spQ_length] at hoR hrc hcells ⊢
    obtain ⟨cur,hcur⟩:=own_ty2 hoR g rfl
    have HCUR:Hid (w4.heap[g]?=some (.cells cur 123 (0,0))):=hcur
    have HCELL:Hid (∀ {w9:World},w9.heap[g]?=some (.cells cur 123 (0,0))→∀ i,i<R.length→w9.cell? ⟨g,o+i * 2,none⟩=some (.int .i64 (((spQ R).getD i (0,0)).1:Int))∧w9.cell? ⟨g,o+i * 2+1,none⟩=some (.int .i64 (((spQ R).getD i (0,0)).2:Int))):=fun {w9} h9 i hi =>
     ⟨(World.cell?_of_block (a:=⟨g,o+i * 2,none⟩) (h9.trans hcur.symm)).trans (hcells i hi).1,(World.cell?_of_block (a:=⟨g,o+i * 2+1,none⟩) (h9.trans hcur.symm)).trans (hcells i hi).2⟩
    obtain ⟨nR,hnR⟩:∃ nR,R.length=nR:=⟨_,rfl⟩
    have HNR:Hid (R.length=nR):=hnR
    rw [hnR] at hR3 hrc ⊢
    have hnR1:1≤nR:=by rw [← hnR];exact List.length_pos_iff.2 hRne
    clear hR1 hR2 hRne hoR hcells hcur hb4 hnR x0 x1 xf y0 y1 yf pc HB3 HP3 HX3 HY3
    go_wp2_with fail
    go_loopw [45] (fun v45 wr=>∃ (i:Nat) (F':Fb),i≤nR∧v45=.int .i64 (i:Int)∧FT base wr B (pre ++ [x,y] ++ (if i=0 then [] else [build k ((trQ R).take i)])) F'∧FG w wr B F F'∧Px wr cb B∧Bx wr b (.int .i64 (p:Int)) (.int .i64 (q:Int))∧Bx wr (b+1) (.int .i64 (q:Int)) (.int .i64 (e:Int))∧wr.heap[g]?=some (.cells cur 123 (0,0))) (fun v45 _=>nR - (intOf v45).toNat)
    case atStart=>exact ⟨0,F,Nat.zero_le _,rfl,by rw [if_pos rfl,List.append_nil];exact HS.out.stay HB4.out,FG.of HB4.out,HP4.out,HX4.out,HY4.out,HCUR.out⟩
    case round =>
     clear HB4 HP4 HX4 HY4 HCUR
     obtain ⟨i,F',hi,rfl,hs,hg,hpx,hbx,hby,hcu⟩:=hrel
     have HS5:Hid (FT base wr B (pre ++ [x,y] ++ (if i=0 then [] else [build k ((trQ R).take i)])) F'):=hs
     have HG5:Hid (FG w wr B F F'):=hg
     have HP5:Hid (Px wr cb B):=hpx
     have HX5:Hid (Bx wr b (.int .i64 (p:Int)) (.int .i64 (q:Int))):=hbx
     have HY5:Hid (Bx wr (b+1) (.int .i64 (q:Int)) (.int .i64 (e:Int))):=hby
     have HC5:Hid (wr.heap[g]?=some (.cells cur 123 (0,0))):=hcu
     obtain ⟨x0,x1,xf⟩:=hbx.cells
     obtain ⟨y0,y1,yf⟩:=hby.cells
     have pc:=hpx.cell
     clear hs hg hpx hbx hby hcu
     by_cases hlt2 : i < nR
     ·have hltI:(i:Int)<nR:=by omega
      obtain ⟨c0,c1⟩:=HCELL.out HC5.out i (by rw [HNR.out];exact hlt2)
      have hiR:i<R.length:=by rw [HNR.out];exact hlt2
      obtain ⟨⟨P,E,ti⟩,hRi⟩:∃ z,R[i]=z:=⟨_,rfl⟩
      have hsp:(spQ R).getD i (0,0)=(P,E):=by
       rw [List.getD_eq_getElem?_getD,spQ,List.getElem?_map,List.getElem?_eq_getElem hiR,hRi];rfl
      have htr:(trQ R)[i]?=some ti:=by rw [trQ,List.getElem?_map,List.getElem?_eq_getElem hiR,hRi];rfl
      obtain ⟨hat,hoti⟩:=HR2.out (P,E,ti) (by rw [← hRi];exact List.getElem_mem _)
      rw [hsp] at c0 c1
      have HTK:Hid ((trQ R).take (i+1)=(trQ R).take i ++ [ti]):=by show _=_;rw [List.take_add_one,htr];rfl
      obtain ⟨acc,hacc⟩:∃ acc,(if i=0 then [] else [build k ((trQ R).take i)])=acc:=⟨_,rfl⟩
      rw [hacc] at HS5
      have HAC:Hid ((if i=0 then [] else [build k ((trQ R).take i)])=acc):=hacc
      have HAT:Hid (At (flatL (pre ++ [x,y] ++ acc)) (szL (pre ++ [x,y] ++ acc)) P E ti):=by
       show At _ _ _ _ _
       rw [flatL_append,szL_append]
       exact hat.more
      have HLA:Hid ((flatL (pre ++ [x,y] ++ acc)).length≤30000):=by
       show _ ≤ _
       have h1:=HLN.out
       have h2:=HBD.out
       have h3:(flatL acc).length≤lens (trQ R):=by
        rw [← hacc]
        by_cases h0 : i = 0
        ·rw [if_pos h0];simp [flatL]
        ·rw [if_neg h0,flatL_one]
         have hne:(trQ R).take i≠[]:=fun e=>by
          have:=congrArg List.length e
          rw [List.length_take,trQ,List.length_map,List.length_nil] at this
          omega
         have h4:=len_build (k:=k) hne
         have h5:=lens_append ((trQ R).take i) ((trQ R).drop i)
         rw [List.take_append_drop] at h5
         omega
       rw [flatL_append,List.length_append,flatL_append,flatL_cons,flatL_one]
       simp only [List.length_append]
       omega
      have HB6:Hid (Below wr.heap.size wr (wr.alloc (.cells #[.int .i64 (P:Int),.int .i64 (E:Int)] 123))):=(Below.refl _ _).alloc (Nat.le_refl _) _
      have HZ6:Hid (Bx (wr.alloc (.cells #[.int .i64 (P:Int),.int .i64 (E:Int)] 123)) wr.heap.size (.int .i64 (P:Int)) (.int .i64 (E:Int))):=Bx.new wr _ _
      have cbl:=HP5.out.lt
      clear hat hsp htr hRi hacc x0 x1 xf y0 y1 yf
      go_wp2_with fail
      refine (repeat_stack (HS5.out.stay HB6.out) HAT.out (by have:=HLA.out;omega)).mono ?_
      rintro en w7 ⟨rfl,F7,hs7,hg7⟩
      have HS7:Hid (FT base w7 B (pre ++ [x,y] ++ acc ++ [ti]) F7):=hs7
      have hfr:=(HS5.out.stay HB6.out).raw
      have HG7:Hid (FG w w7 B F F7):=HG5.out.trans ((FG.of HB6.out).trans hg7)
      have HP7:Hid (Px w7 cb B):=(HP5.out.stay HB6.out).through hfr hg7
      have HX7:Hid (Bx w7 b (.int .i64 (p:Int)) (.int .i64 (q:Int))):=(HX5.out.stay HB6.out).through hfr hg7
      have HY7:Hid (Bx w7 (b+1) (.int .i64 (q:Int)) (.int .i64 (e:Int))):=(HY5.out.stay HB6.out).through hfr hg7
      have HC7:Hid (w7.heap[g]?=some (.cells cur 123 (0,0))):=hg7.other hfr ((HB6.out.block g (Array.getElem?_eq_some_iff.1 HC5.out).1).trans HC5.out) (by decide) (by decide) (by decide)
      have pc7:=HP7.out.cell
      clear hs7 hg7 hfr HB6 HZ6 pc c0 c1 cbl
      by_cases hi0 : i = 0
      ·subst hi0
       have HS8:Hid (FT base w7 B (pre ++ [x,y] ++ (if (0:Nat)+1=0 then [] else [build k ((trQ R).take (0+1))])) F7):=by
        show FT _ _ _ _ _
        have hac:=HAC.out
        rw [if_pos rfl] at hac
        have h7:=HS7.out
        rw [← hac,List.append_nil] at h7
        rw [if_neg (by omega),HTK.out,List.take_zero,List.nil_append]
        exact h7
       go_wp2_with fail
       go_roundw
       case rel=>exact ⟨0+1,F7,by omega,by go_num,HS8.out,HG7.out,HP7.out,HX7.out,HY7.out,HC7.out⟩
       case measure=>simp [intOf];omega
      ·have hi0I:(0:Int)<i:=by omega
       have hne:(trQ R).take i≠[]:=fun e=>by
        have:=congrArg List.length e
        rw [List.length_take,trQ,List.length_map,List.length_nil] at this
        omega
       have hst:pre ++ [x,y] ++ acc ++ [ti]=(pre ++ [x,y]) ++ [build k ((trQ R).take i),ti]:=by
        have hac:=HAC.out
        rw [if_neg hi0] at hac
        rw [← hac]
        simp
       rw [hst] at HS7
       have HLB:Hid ((flatL ((pre ++ [x,y]) ++ [build k ((trQ R).take i),ti])).length<100000):=by
        show _ < _
        rw [← hst,flatL_append,List.length_append,flatL_one]
        have h1:=HLA.out
        have h2:=HAT.out.le
        have h3:=HAT.out.end_
        omega
       have HBS:Hid (build k ((trQ R).take (i+1))=.two (k,0) (build k ((trQ R).take i)) ti):=by show _=_;rw [HTK.out,build_snoc _ hne]
       clear hne hst
       go_wp2_with fail
       refine (put2 HS7.out (k,0) HLB.out).mono ?_
       rintro en w8 ⟨rfl,F8,hs8,hg8⟩
       have HS8:Hid (FT base w8 B (pre ++ [x,y] ++ (if i+1=0 then [] else [build k ((trQ R).take (i+1))])) F8):=by
        show FT _ _ _ _ _
        rw [if_neg (by omega),HBS.out]
        exact hs8
       have hfr:=HS7.out.raw
       have HG8:Hid (FG w w8 B F F8):=HG7.out.trans hg8
       have HP8:Hid (Px w8 cb B):=HP7.out.through hfr hg8
       have HX8:Hid (Bx w8 b (.int .i64 (p:Int)) (.int .i64 (q:Int))):=HX7.out.through hfr hg8
       have HY8:Hid (Bx w8 (b+1) (.int .i64 (q:Int)) (.int .i64 (e:Int))):=HY7.out.through hfr hg8
       have HC8:Hid (w8.heap[g]?=some (.cells cur 123 (0,0))):=hg8.other hfr HC7.out (by decide) (by decide) (by decide)
       clear hs8 hg8 hfr
       go_wp2_with fail
       go_roundw
       case rel=>exact ⟨i+1,F8,by omega,by go_num,HS8.out,HG8.out,HP8.out,HX8.out,HY8.out,HC8.out⟩
       case measure=>simp [intOf];omega
     ·obtain rfl:i=nR:=by omega
      have hltI:¬ (i:Int)<i:=by omega
      have hst:pre ++ [x,y] ++ (if i=0 then [] else [build k ((trQ R).take i)])=pre ++ [x,y] ++ [T]:=by
       rw [if_neg (by omega),HT2.out,← HR1.out,← HNR.out,show R.length=(trQ R).length by rw [trQ,List.length_map],List.take_length]
      rw [hst] at HS5
      clear hst
      go_wp2_with fail
      refine (drop_two HS5.out HP.out HE.out).mono ?_
      rintro en w8 ⟨rfl,hf8⟩
      have HF8:Hid (FE base wr B F' (flatL (pre ++ [T])) (szL (pre ++ [T])) w8):=hf8
      clear hf8
      go_wp2_with fail
      refine bodyPost_end (results_none rfl _ _ _) rfl ?_
      exact ⟨rfl,FE.chain HG5.out HF8.out⟩
end Go.Proofs.YtfdhaknecjcjoaaGreatDoor
