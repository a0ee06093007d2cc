/- The members of a form. -/
import Derived.Test.YtdmjcfecahcdnaaDoorXk
namespace Go.Proofs.YtdmjcfecahcdnaaDoor
open Go Go.RowKit
set_option linter.unusedVariables false

/-- A tree and where it stands. -/
abbrev Pq := Nat × Nat × Tr
def spQ (Q : List Pq) : List Sp := Q.map fun x => (x.1, x.2.1)
def trQ (Q : List Pq) : List Tr := Q.map fun x => x.2.2
def PlQ (N : List Nd) (Z : List Nat) (Q : List Pq) : Prop := ∀ x ∈ Q, At N Z x.1 x.2.1 x.2.2 ∧ x.2.2.ok
theorem Tryd.info_span2 : (Tryd.prog.info? 70).map (fun i => (i.zero, i.size, i.bytes)) = some (some (.agg #[.int .i64 0, .int .i64 0]), 2, 16) := by kernel_rfl
def endB (w : World) (b : Nat) : Nat := match w.cell? ⟨b, 1, none⟩ with
  | some (.int _ n) => n.toNat
  | _ => 0
theorem endB_eq {w : World} {b e : Nat} {x : Value} (h : Bx w b x (.int .i64 (e : Int))) : endB w b = e := by
  unfold endB
  rw [h.cells.2.1]
  simp
/-- Two cells of a box, made into a new row. -/
theorem two_new3 (w : World) (x y : Value) (t : TypeId) : ∀ j u, [x, y][j]? = some u → (w.alloc (.cells #[x, y] t)).cell? ((⟨w.heap.size, 0, none⟩ : Addr).add j) = some u := by
  intro j u hj
  have h := heap_alloc_new w (.cells #[x, y] t)
  rw [Addr.add_lit]
  simp only [World.cell?, h]
  rw [Nat.zero_add]
  simpa using hj
theorem spine_two {k : Int} {n : Nd} {a b : Tr} (h : n.1 = k) : spine k (.two n a b) = spine k a ++ [b] := by rw [spine, if_pos h]
/-- The row of spans grows: a box elsewhere stands. -/
theorem Bx.grown {w w' : World} {b : Nat} {x y : Value} {r : Option Nat} (h : Bx w b x y) (hg : w.grownBy w' r) (hne : r ≠ some b) : Bx w' b x y := (hg.block b h.lt (fun e => hne e.symm)).trans h
theorem fs_grown {base : Nat} {w w' : World} {B : Nat} {N : List Nd} {Z : List Nat} {F : Fb} {r : Option Nat} (h : FS base w B N Z F) (hg : w.grownBy w' r) (hne : ∀ b, r = some b → b ≠ B ∧ b ≠ F.nb ∧ b ≠ F.sb) : FS base w' B N Z F :=
  ⟨(hg.block B h.lt (fun e => (hne B e.symm).1 rfl)).trans h.blk, h.nod.kept hg (.inr (fun e => (hne F.nb (by rw [← e]; rfl)).2.1 rfl)), h.siz.kept hg (.inr (fun e => (hne F.sb (by rw [← e]; rfl)).2.2 rfl)), h.from_, h.len, h.small⟩

set_option maxHeartbeats 4000000 in
set_option maxRecDepth 100000 in
theorem members_any {base : Nat} {w : World} {B : Nat} {N : List Nd} {Z : List Nat} {F : Fb} (h : FS base w B N Z F) {p e : Nat} {t : Tr} (ht : At N Z p e t) (ho : t.ok) (k : Int) (hk : k = 5 ∨ k = 6) :
    Calls Tryd.prog 46 #[.pointer (some ⟨B, 0, none⟩), .int .i64 k, .agg #[.int .i64 (p : Int), .int .i64 (e : Int)]] w fun en w' => ∃ (Q : List Pq) (v : Value), trQ Q = spine k t ∧ PlQ N Z Q ∧ Q.length ≤ 100000 ∧ en = .returned v ∧ w'.ownsRow w.heap.size 70 2 v Q.length (spC (spQ Q)) ∧ Below w.heap.size w w' := by
  have HS : Hid (FS base w B N Z F) := h
  have HT : Hid (At N Z p e t) := ht
  have HO : Hid t.ok := ho
  have hle := ht.le
  have hsm := h.small
  have hlt := h.lt
  obtain ⟨i0, hi0, hz0, hz1, hz2⟩ := info_parts Tryd.info_span2
  have HB0 : Hid (Below w.heap.size w (w.alloc (.cells #[.int .i64 (p : Int), .int .i64 (e : Int)] 70))) := (Below.refl _ _).alloc (Nat.le_refl _) _
  have HX0 : Hid (Bx (w.alloc (.cells #[.int .i64 (p : Int), .int .i64 (e : Int)] 70)) w.heap.size (.int .i64 (p : Int)) (.int .i64 (e : Int))) := Bx.new w _ _
  clear h ht ho
  go_enter Tryd.func46, Tryd.ntmps46
  go_wp2_with fail
  generalize w.alloc (.cells #[.int .i64 (p : Int), .int .i64 (e : Int)] 70) = wA at HB0 HX0 ⊢
  go_loopw [7] (fun v7 wr => ∃ (R : List Pq) (p' e' : Nat) (t' : Tr), spine k t = spine k t' ++ (trQ R).reverse ∧ PlQ N Z R ∧ At N Z p' e' t' ∧ t'.ok ∧ R.length + e' ≤ e ∧ wr.ownsRow (w.heap.size + 1) 70 2 v7 R.length (spC (spQ R)) ∧ Bx wr w.heap.size (.int .i64 (p' : Int)) (.int .i64 (e' : Int)) ∧ Below w.heap.size w wr) (fun _ wr => endB wr w.heap.size)
  case atStart => exact ⟨[], p, e, t, by simp [trQ], fun x hx => by simp at hx, HT.out, HO.out, by simp, World.ownsRow_nil _ _ _ _, HX0.out, HB0.out⟩
  case round =>
    clear HX0 HB0
    obtain ⟨R, p', e', t', hsp, hpl, hat, hok, hlen, hown, hbx, hbl⟩ := hrel
    have HSP : Hid (spine k t = spine k t' ++ (trQ R).reverse) := hsp
    have HPL : Hid (PlQ N Z R) := hpl
    have HAT : Hid (At N Z p' e' t') := hat
    have HOK : Hid t'.ok := hok
    have HOW : Hid (wr.ownsRow (w.heap.size + 1) 70 2 u7 R.length (spC (spQ R))) := hown
    have HBX : Hid (Bx wr w.heap.size (.int .i64 (p' : Int)) (.int .i64 (e' : Int))) := hbx
    have HBL : Hid (Below w.heap.size w wr) := hbl
    obtain ⟨c0, c1, cf⟩ := hbx.cells
    clear hsp hpl hat hok hown hbx hbl
    go_wp2_with fail
    refine (rootT (HS.out.stay HBL.out) HAT.out).mono ?_
    rintro en w1 ⟨rfl, hb1⟩
    have hs0 := HBL.out.size
    have HB1 : Hid (Below w.heap.size w w1) := go_on HBL.out hb1
    have HX1 : Hid (Bx w1 w.heap.size (.int .i64 (p' : Int)) (.int .i64 (e' : Int))) := HBX.out.stay hb1
    have HO1 : Hid (w1.ownsRow (w.heap.size + 1) 70 2 u7 R.length (spC (spQ R))) := own_below HOW.out hb1
    clear hb1 HOW c0 c1 cf
    obtain ⟨c0, c1, cf⟩ := HX1.out.cells
    by_cases hr : t'.root.1 = k
    · obtain ⟨n, a, b, et⟩ : ∃ n a b, t' = .two n a b := by
        cases t' with
        | zero n => exact absurd hr (ok_root0 hk HOK.out)
        | one n a => exact absurd hr (ok_root1 hk HOK.out)
        | two n a b => exact ⟨n, a, b, rfl⟩
      subst et
      have hnk : n.1 = k := hr
      obtain ⟨q, hqa, hqb⟩ := HAT.out.two
      have hqe : q < e' := by have := hqb.le; omega
      have HQA : Hid (At N Z p' q a) := hqa
      have HQB : Hid (At N Z q (e' - 1) b) := hqb
      have HSP2 : Hid (spine k t = spine k a ++ ([b] ++ (trQ R).reverse)) := by show _ = _; rw [HSP.out, spine_two hnk, List.append_assoc]
      have hbk : (k == k) = true := by simp
      rw [hr]
      clear hqa hqb hr hnk
      go_wp2_with fail
      refine (partsT (HS.out.stay HB1.out) HQA.out HQB.out hqe p').mono ?_
      rintro en w2 ⟨rfl, hb2⟩
      obtain ⟨r, hr⟩ : ∃ r, e' - 1 = r := ⟨_, rfl⟩
      rw [hr] at HQB ⊢
      have hs1 := HB1.out.size
      have hs2 := hb2.size
      have HB2 : Below w.heap.size w w2 := go_on HB1.out hb2
      have HO2 := own_below HO1.out hb2
      have HX2 := HX1.out.stay hb2
      have hx2l := HX2.lt
      -- the three new blocks
      have HOC : Hid ((((w2.alloc (.cells #[.int .i64 (p' : Int), .int .i64 (q : Int)] 70)).alloc (.cells #[.int .i64 (q : Int), .int .i64 (r : Int)] 70)).alloc (.cells #[.int .i64 (q : Int), .int .i64 (r : Int)] 70)).ownsRow (w.heap.size + 1) 70 2 u7 R.length (spC (spQ R))) := ((HO2.alloc _).alloc _).alloc _
      have HBC : Hid (Below w.heap.size w (((w2.alloc (.cells #[.int .i64 (p' : Int), .int .i64 (q : Int)] 70)).alloc (.cells #[.int .i64 (q : Int), .int .i64 (r : Int)] 70)).alloc (.cells #[.int .i64 (q : Int), .int .i64 (r : Int)] 70))) := ((HB2.alloc HB2.size _).alloc (by simp; omega) _).alloc (by simp; omega) _
      have HXC : Hid (Bx (((w2.alloc (.cells #[.int .i64 (p' : Int), .int .i64 (q : Int)] 70)).alloc (.cells #[.int .i64 (q : Int), .int .i64 (r : Int)] 70)).alloc (.cells #[.int .i64 (q : Int), .int .i64 (r : Int)] 70)) w.heap.size (.int .i64 (p' : Int)) (.int .i64 (e' : Int))) := ((HX2.stay ((Below.refl _ _).alloc (Nat.le_refl _) _)).stay ((Below.refl _ _).alloc (Nat.le_refl _) _)).stay ((Below.refl _ _).alloc (Nat.le_refl _) _)
      have HYC : Hid (Bx (((w2.alloc (.cells #[.int .i64 (p' : Int), .int .i64 (q : Int)] 70)).alloc (.cells #[.int .i64 (q : Int), .int .i64 (r : Int)] 70)).alloc (.cells #[.int .i64 (q : Int), .int .i64 (r : Int)] 70)) w2.heap.size (.int .i64 (p' : Int)) (.int .i64 (q : Int))) := ((Bx.new w2 _ _).stay ((Below.refl _ _).alloc (Nat.le_refl _) _)).stay ((Below.refl _ _).alloc (Nat.le_refl _) _)
      have HNEW : Hid (∀ j u, [Value.int .i64 (q : Int), Value.int .i64 (r : Int)][j]? = some u → (((w2.alloc (.cells #[.int .i64 (p' : Int), .int .i64 (q : Int)] 70)).alloc (.cells #[.int .i64 (q : Int), .int .i64 (r : Int)] 70)).alloc (.cells #[.int .i64 (q : Int), .int .i64 (r : Int)] 70)).cell? ((⟨w2.heap.size + 1 + 1, 0, none⟩ : Addr).add j) = some u) := by
        have := two_new3 ((w2.alloc (.cells #[.int .i64 (p' : Int), .int .i64 (q : Int)] 70)).alloc (.cells #[.int .i64 (q : Int), .int .i64 (r : Int)] 70)) (.int .i64 (q : Int)) (.int .i64 (r : Int)) 70
        rw [show ((w2.alloc (.cells #[.int .i64 (p' : Int), .int .i64 (q : Int)] 70)).alloc (.cells #[.int .i64 (q : Int), .int .i64 (r : Int)] 70)).heap.size = w2.heap.size + 1 + 1 by simp] at this
        exact this
      have HZ2 : Hid (∀ b, u7.ownBlock = some b → b < w2.heap.size ∧ w.heap.size + 1 ≤ b) := fun b hb => ⟨(HO2.lt b hb).2, (HO2.lt b hb).1⟩
      have hRl : R.length + 1 ≤ 100000 := by omega
      clear hb2 HB2 HO2 HX2 hr c0 c1 cf HO1 HX1 HB1
      have hbase : w.heap.size + 1 ≤ (((w2.alloc (.cells #[.int .i64 (p' : Int), .int .i64 (q : Int)] 70)).alloc (.cells #[.int .i64 (q : Int), .int .i64 (r : Int)] 70)).alloc (.cells #[.int .i64 (q : Int), .int .i64 (r : Int)] 70)).heap.size := by simp; omega
      go_wp2_with (at_builtin; refine wpList_append_lies _ rfl _ _ 72 rfl (w.heap.size + 1) 70 i0 (.agg #[.int .i64 0, .int .i64 0]) 2 16 Tryd.underlying72 hi0 hz0 hz1 hz2 rfl (by decide) _ _ _ rfl HOC.out ⟨w2.heap.size + 1 + 1, 0, none⟩ 1 1 [.int .i64 (q : Int), .int .i64 (r : Int)] rfl rfl HNEW.out (by intro u hu; simp at hu; rcases hu with rfl | rfl <;> rfl) (by decide) (by unfold maxLen; omega) (by omega) hbase _ rfl ?_)
      intro g9 c9 w9 ho9 hg9 hl9 hlt9
      have hg9b := (ho9.lt g9 rfl).1
      have B9 : Below w.heap.size w w9 := HBC.out.grown hg9 HBC.out.size (fun b hb => by have := (HZ2.out b hb).2; omega)
      have X9 : Bx w9 w.heap.size (.int .i64 (p' : Int)) (.int .i64 (e' : Int)) := HXC.out.grown hg9 (fun hb => by have := (HZ2.out _ hb).2; omega)
      have Y9 : Bx w9 w2.heap.size (.int .i64 (p' : Int)) (.int .i64 (q : Int)) := HYC.out.grown hg9 (fun hb => by have := (HZ2.out _ hb).1; omega)
      obtain ⟨c0, c1, cf⟩ := X9.cells
      obtain ⟨d0, d1, df⟩ := Y9.cells
      have x9l := X9.lt
      have y9l := Y9.lt
      have HB10 : Hid (Below w.heap.size w ((w9.setCell ⟨w.heap.size, 0, none⟩ (.int .i64 (p' : Int))).setCell ⟨w.heap.size, 1, none⟩ (.int .i64 (q : Int)))) := below_put B9 (Nat.le_refl _) _ _
      have HX10 : Hid (Bx ((w9.setCell ⟨w.heap.size, 0, none⟩ (.int .i64 (p' : Int))).setCell ⟨w.heap.size, 1, none⟩ (.int .i64 (q : Int))) w.heap.size (.int .i64 (p' : Int)) (.int .i64 (q : Int))) := X9.put _ _
      have HO10 : Hid (((w9.setCell ⟨w.heap.size, 0, none⟩ (.int .i64 (p' : Int))).setCell ⟨w.heap.size, 1, none⟩ (.int .i64 (q : Int))).ownsRow (w.heap.size + 1) 70 2 (.slice (some ⟨g9, 0, none⟩) (R.length + 1) c9) (R.length + 1) (spC (spQ (R ++ [(q, r, b)])))) := by
        have e1 : spC (spQ (R ++ [(q, r, b)])) = spC (spQ R) ++ [.int .i64 (q : Int), .int .i64 (r : Int)] := by rw [spQ, List.map_append, spC_append]; rfl
        show World.ownsRow _ _ _ _ _ _ _
        rw [e1]
        exact own_set_ne (own_set_ne ho9 _ (by simp [Value.ownBlock]; omega)) _ (by simp [Value.ownBlock]; omega)
      clear ho9 hg9 hl9 hlt9 B9 X9 Y9 HOC HBC HXC HYC HNEW
      go_wp2_with fail
      go_roundw
      case rel =>
        refine ⟨R ++ [(q, r, b)], p', q, a, ?_, ?_, HQA.out, HOK.out.2.2.1, ?_, ?_, HX10.out, HB10.out⟩
        · rw [HSP2.out]; simp [trQ]
        · intro x hx
          rcases List.mem_append.1 hx with hx | hx
          · exact HPL.out x hx
          · simp at hx; subst hx; exact ⟨HQB.out, HOK.out.2.2.2⟩
        · rw [List.length_append, List.length_singleton]; omega
        · rw [List.length_append, List.length_singleton]; exact HO10.out
      case measure => rw [endB_eq HX10.out, endB_eq HBX.out]; exact hqe
    · have hbk : (t'.root.1 == k) = false := by simpa using hr
      have HSP2 : Hid (spine k t' = [t']) := spine_other hr
      have hs1 := HB1.out.size
      have hx1l := HX1.out.lt
      have HOC : Hid ((w1.alloc (.cells #[.int .i64 (p' : Int), .int .i64 (e' : Int)] 70)).ownsRow (w.heap.size + 1) 70 2 u7 R.length (spC (spQ R))) := HO1.out.alloc _
      have HBC : Hid (Below w.heap.size w (w1.alloc (.cells #[.int .i64 (p' : Int), .int .i64 (e' : Int)] 70))) := HB1.out.alloc HB1.out.size _
      have HNEW : Hid (∀ j u, [Value.int .i64 (p' : Int), Value.int .i64 (e' : Int)][j]? = some u → (w1.alloc (.cells #[.int .i64 (p' : Int), .int .i64 (e' : Int)] 70)).cell? ((⟨w1.heap.size, 0, none⟩ : Addr).add j) = some u) := two_new3 w1 _ _ _
      have HZ2 : Hid (∀ b, u7.ownBlock = some b → w.heap.size + 1 ≤ b) := fun b hb => (HO1.out.lt b hb).1
      have hRl : R.length + 1 ≤ 100000 := by have := HAT.out.le; omega
      have hbase : w.heap.size + 1 ≤ (w1.alloc (.cells #[.int .i64 (p' : Int), .int .i64 (e' : Int)] 70)).heap.size := by simp; omega
      clear hr HO1 HB1
      go_wp2_with (at_builtin; refine wpList_append_lies _ rfl _ _ 72 rfl (w.heap.size + 1) 70 i0 (.agg #[.int .i64 0, .int .i64 0]) 2 16 Tryd.underlying72 hi0 hz0 hz1 hz2 rfl (by decide) _ _ _ rfl HOC.out ⟨w1.heap.size, 0, none⟩ 1 1 [.int .i64 (p' : Int), .int .i64 (e' : Int)] rfl rfl HNEW.out (by intro u hu; simp at hu; rcases hu with rfl | rfl <;> rfl) (by decide) (by unfold maxLen; omega) (by omega) hbase _ rfl ?_)
      intro g9 c9 w9 ho9 hg9 hl9 hlt9
      have hg9b := (ho9.lt g9 rfl).1
      have HB9 : Hid (Below w.heap.size w w9) := HBC.out.grown hg9 HBC.out.size (fun b hb => by have := HZ2.out b hb; omega)
      have hln : (spQ (R ++ [(p', e', t')])).length = R.length + 1 := by simp [spQ]
      have HLN : Hid ((spQ (R ++ [(p', e', t')])).length = R.length + 1) := hln
      have HO9 : Hid (w9.ownsRow (w.heap.size + 1) 70 2 (.slice (some ⟨g9, 0, none⟩) (spQ (R ++ [(p', e', t')])).length c9) (spQ (R ++ [(p', e', t')])).length (spC (spQ (R ++ [(p', e', t')])))) := by
        have e1 : spC (spQ (R ++ [(p', e', t')])) = spC (spQ R) ++ [.int .i64 (p' : Int), .int .i64 (e' : Int)] := by rw [spQ, List.map_append, spC_append]; rfl
        show World.ownsRow _ _ _ _ _ _ _
        rw [e1, hln]
        exact ho9
      clear ho9 hg9 hl9 hlt9 HOC HBC HNEW c0 c1 cf
      go_wp2_with fail
      rw [← HLN.out]
      refine (reverse_any (w.heap.size + 1) g9 c9 _ _ HO9.out (by rw [HLN.out]; omega)).mono ?_
      rintro en w10 ⟨rfl, ho10, hg10⟩
      have HB10 : Hid (Below w.heap.size w w10) := HB9.out.grown hg10 HB9.out.size (fun b hb => by simp only [Option.some.injEq] at hb; omega)
      have HO10 : Hid (w10.ownsRow w.heap.size 70 2 (.slice (some ⟨g9, 0, none⟩) (spQ (R ++ [(p', e', t')])).length c9) (R ++ [(p', e', t')]).reverse.length (spC (spQ (R ++ [(p', e', t')]).reverse))) := by
        have e2 : spQ (R ++ [(p', e', t')]).reverse = (spQ (R ++ [(p', e', t')])).reverse := by simp [spQ]
        have e3 : (R ++ [(p', e', t')]).reverse.length = (spQ (R ++ [(p', e', t')])).length := by simp [spQ]
        show World.ownsRow _ _ _ _ _ _ _
        rw [e2, e3]
        exact own_mono ho10 (by omega)
      clear ho10 hg10
      go_wp2_with fail
      go_ret
      refine ⟨(R ++ [(p', e', t')]).reverse, .slice (some ⟨g9, 0, none⟩) (spQ (R ++ [(p', e', t')])).length c9, ?_, ?_, ?_, by first | rfl | (rw [HLN.out]; rfl), HO10.out, HB10.out⟩
      · rw [HSP.out, HSP2.out]; simp [trQ]
      · intro x hx
        rw [List.mem_reverse] at hx
        rcases List.mem_append.1 hx with hx | hx
        · exact HPL.out x hx
        · simp at hx; subst hx; exact ⟨HAT.out, HOK.out⟩
      · simp; omega
end Go.Proofs.YtdmjcfecahcdnaaDoor
