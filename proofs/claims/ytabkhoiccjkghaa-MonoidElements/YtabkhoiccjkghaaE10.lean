/- monoid: finding.extend. -/
import Derived.Test.YtabkhoiccjkghaaE7
import Derived.Test.YtabkhoiccjkghaaE8
import Derived.Test.YtabkhoiccjkghaaE9
namespace Go.Proofs.Ytabkhoiccjkghaa
open Go Go.RowKit Go.Lib Go.Maps
set_option linter.unusedVariables false
attribute [-instance] List.instBEq instBEqProd

theorem Try.info_u16 : (Try.prog.info? 97).map (fun i => (i.zero, i.size, i.bytes)) = some (some (.int .u16 0), 1, 2) := by kernel_rfl
theorem mD_cmp {A : Aut} {l : List Nat} (hl : Tf l) (e : l.length = A.ac.length) (c : Nat) : cmp l (act A [c]) = mD A l c := by rw [cmp_act hl e]; rfl
/-- All that stands in memory while letters are put behind an element. -/
structure EX (A : Aut) (base : Nat) (w : World) (fb b mb g hb : Nat) (l : List Nat) (S0 : Nat → Prop) (vl vw vr : Value) (M : List (List Nat)) (W : List (Nat × Nat)) (N : List Nat) (D : DataW Unit) (wr : World) : Prop where
  fn : FN base wr fb b mb A.k.toNat A.ac.length vl vw vr M W N D
  fr : Fr S0 w (FS fb b mb vl vw vr) wr
  sp : SP wr g A A.k.toNat
  tl : TL wr hb l
  ng : ¬ FS fb b mb vl vw vr g
  nh : ¬ FS fb b mb vl vw vr hb
theorem EX.call {A : Aut} {base : Nat} {w : World} {fb b mb g hb : Nat} {l : List Nat} {S0 : Nat → Prop} {vl vw vr : Value} {M : List (List Nat)} {W : List (Nat × Nat)} {N : List Nat} {D : DataW Unit} {wr y : World} (h : EX A base w fb b mb g hb l S0 vl vw vr M W N D wr) (hy : Below wr.heap.size wr y) : EX A base w fb b mb g hb l S0 vl vw vr M W N D y :=
  ⟨h.fn.below hy, h.fr.trans (Fr.of hy), h.sp.keep (hy.block _ h.sp.lt), (hy.block _ h.tl.lt).trans h.tl, h.ng, h.nh⟩
theorem EX.put {A : Aut} {base : Nat} {w : World} {fb b mb g hb : Nat} {l : List Nat} {S0 : Nat → Prop} {vl vw vr vl' vw' vr' : Value} {M M' : List (List Nat)} {W W' : List (Nat × Nat)} {N N' : List Nat} {D D' : DataW Unit} {wr y : World} (h : EX A base w fb b mb g hb l S0 vl vw vr M W N D wr) (hf : FN base y fb b mb A.k.toNat A.ac.length vl' vw' vr' M' W' N' D') (hr : Fr (FS fb b mb vl vw vr) wr (FS fb b mb vl' vw' vr') y) : EX A base w fb b mb g hb l S0 vl' vw' vr' M' W' N' D' y := by
  have e1 := hr.only.block g h.sp.lt h.ng
  have e2 := hr.only.block hb h.tl.lt h.nh
  refine ⟨hf, h.fr.trans hr, h.sp.keep e1, e2.trans h.tl, fun q => ?_, fun q => ?_⟩
  · rcases hr.grow g q with q | q
    · exact h.ng q
    · have := h.sp.lt; omega
  · rcases hr.grow hb q with q | q
    · exact h.nh q
    · have := h.tl.lt; omega
/-- What extend answers. -/
def ExQ (A : Aut) (base fb b mb g i : Nat) (S0 : Nat → Prop) (w : World) (e : Ending) (w' : World) : Prop :=
  (mEl A = none ∧ e = .returned (.bool false) ∧ Only S0 w w') ∨
  ∃ vl vw vr M W N D f, e = .returned (.bool true) ∧ FN base w' fb b mb A.k.toNat A.ac.length vl vw vr M W N D ∧ MSs A i A.k.toNat M W N f ∧ Fr S0 w (FS fb b mb vl vw vr) w'

set_option maxHeartbeats 8000000 in
set_option maxRecDepth 100000 in
theorem extend_any {A : Aut} (G : Good A) (h64 : A.ac.length ≤ 64) {base : Nat} {w : World} {fb b mb g i : Nat} {vl vw vr : Value} {M : List (List Nat)} {W : List (Nat × Nat)} {N : List Nat} {D : DataW Unit} {f : Nat} {l : List Nat} (h : FN base w fb b mb A.k.toNat A.ac.length vl vw vr M W N D) (hm : MSs A i 0 M W N f) (hl : M[i]? = some l) (hg : SP w g A A.k.toNat) (hng : ¬ FS fb b mb vl vw vr g) (i' : Int) (hi' : i' = i) :
    Calls Try.prog 60 #[.pointer (some ⟨fb, 0, none⟩), .int .i64 i', .slice (some ⟨g, 0, none⟩) A.k.toNat A.k.toNat] w (ExQ A base fb b mb g i (FS fb b mb vl vw vr) w) := by
  subst hi'
  have HGd : Hid (Good A) := G
  have hks := G.ks
  have HTL : Hid (Tf l ∧ l.length = A.ac.length) := h.tb.all l (List.mem_of_getElem? hl)
  have t1 : w.cell? ⟨fb, 1, none⟩ = some (.pointer (some ⟨b, 0, none⟩)) := cell_at h.box rfl
  have HF : Hid (FN base w fb b mb A.k.toNat A.ac.length vl vw vr M W N D) := h
  have HM0 : Hid (MSs A i 0 M W N f) := hm
  have HL0 : Hid (M[i]? = some l) := hl
  have HSP : Hid (SP w g A A.k.toNat) := hg
  obtain ⟨S0, hS0⟩ : ∃ S0, S0 = FS fb b mb vl vw vr := ⟨_, rfl⟩
  have HNG : Hid (¬ FS fb b mb vl vw vr g) := hng
  rw [← hS0]
  have HS0 : Hid (S0 = FS fb b mb vl vw vr) := hS0
  clear h hm hl hg hng G hS0
  go_enter Try.func60, Try.ntmps60
  go_wp2_with fail
  refine (ttat_any HF.out.tb HL0.out).mono ?_
  rintro e w1 ⟨rfl, hB1⟩
  have hst := st_trNew w1 l
  have HX0 : Hid (EX A base w fb b mb g w1.heap.size l S0 vl vw vr M W N D (w1.alloc (.cells (tC l) 42))) := by
    have hb : Below w.heap.size w (w1.alloc (.cells (tC l) 42)) := go_on hB1 (below_new _ _)
    refine ⟨HF.out.below hb, by rw [HS0.out]; exact Fr.of hb, HSP.out.keep (hb.block _ HSP.out.lt), heap_last _ _, HNG.out, fun q => ?_⟩
    have := (HF.out.fs q).2
    have := hB1.size
    omega
  clear hB1 t1
  go_wp2_with fail
  clear hst
  go_loopw [26, 9, 10, 11, 12, 13, 14] (fun vi _ _ _ _ _ _ wr => ∃ (c : Nat) (vl vw vr : Value) (M : List (List Nat)) (W : List (Nat × Nat)) (N : List Nat) (D : DataW Unit) (f : Nat), vi = .int .i64 c ∧ c ≤ A.k.toNat ∧ EX A base w fb b mb g w1.heap.size l S0 vl vw vr M W N D wr ∧ MSs A i c M W N f ∧ M[i]? = some l) (fun vi _ _ _ _ _ _ _ => A.k.toNat - (intOf vi).toNat)
  case atStart => exact ⟨0, vl, vw, vr, M, W, N, D, f, rfl, Nat.zero_le _, HX0.out, HM0.out, HL0.out⟩
  case round =>
    clear HX0 HM0 HL0 HF HSP HNG HS0
    clear f
    obtain ⟨c, vl2, vw2, vr2, M2, W2, N2, D2, f2, rfl, hcK, hX, hMS, hMi⟩ := hrel
    have HX : Hid (EX A base w fb b mb g w1.heap.size l S0 vl2 vw2 vr2 M2 W2 N2 D2 wr) := hX
    have HM : Hid (MSs A i c M2 W2 N2 f2) := hMS
    have HMI : Hid (M2[i]? = some l) := hMi
    clear hX hMS hMi
    by_cases hlt : c < A.k.toNat
    · have hcI : (c : Int) < A.k.toNat := by omega
      have hst := st_trNew wr (act A [c])
      have HAC : Hid (Tf (act A [c])) := act_tf HGd.out h64 (Lt.one hlt)
      have HY : Hid (Below wr.heap.size wr (wr.alloc (.cells (tC (act A [c])) 42))) := below_new _ _
      have HX1 : Hid (EX A base w fb b mb g w1.heap.size l S0 vl2 vw2 vr2 M2 W2 N2 D2 (wr.alloc (.cells (tC (act A [c])) 42))) := HX.out.call (below_new _ _)
      have HT1 : Hid (TL (wr.alloc (.cells (tC (act A [c])) 42)) wr.heap.size (act A [c])) := heap_last _ _
      go_wp2_with (first
        | (refine wa_load rfl rfl (HX.out.sp.cells hlt) rfl ?_)
        | (refine wl_load rfl rfl HX1.out.tl rfl ?_)
        | (refine wl_load rfl rfl HT1.out rfl ?_))
      have hcmp := compose_tC l (act A [c]) HTL.out.1 HAC.out (by rw [act_len]; exact HTL.out.2) (wr.alloc (.cells (tC (act A [c])) 42))
      rw [mD_cmp HTL.out.1 HTL.out.2 c] at hcmp
      obtain ⟨t, ht⟩ : ∃ t, mD A l c = t := ⟨_, rfl⟩
      rw [ht] at hcmp
      have HT : Hid (mD A l c = t) := ht
      have HTT : Hid (Tf t ∧ t.length = A.ac.length) := by
        show _ ∧ _
        rw [← ht, ← mD_cmp HTL.out.1 HTL.out.2 c]
        exact ⟨cmp_tf HTL.out.1 HAC.out (by rw [act_len]; exact HTL.out.2), by rw [cmp_len]; exact HTL.out.2⟩
      refine hcmp.mono ?_
      rintro e y1 ⟨rfl, hy1⟩
      have HX2 : Hid (EX A base w fb b mb g w1.heap.size l S0 vl2 vw2 vr2 M2 W2 N2 D2 (y1.alloc (.cells (tC t) 42))) := (HX1.out.call hy1).call (below_new _ _)
      have HT2 : Hid (TL (y1.alloc (.cells (tC t) 42)) y1.heap.size t) := heap_last _ _
      clear hcmp hst hy1 HX1 HT1 HX HY ht
      have hst := st_trNew y1 t
      go_wp2_with (first
        | (refine wl_load rfl rfl HT2.out rfl ?_))
      obtain ⟨y2, hy2⟩ : ∃ y2, y2 = y1.alloc (.cells (tC t) 42) := ⟨_, rfl⟩
      rw [← hy2]
      have HX3 : Hid (EX A base w fb b mb g w1.heap.size l S0 vl2 vw2 vr2 M2 W2 N2 D2 y2) := by rw [hy2]; exact HX2.out
      clear hst HT2 HX2 hy2
      have hmo := HM.out.most
      have hns := HM.out.small
      by_cases hin : t ∈ M2
      · obtain ⟨p, hp⟩ : ∃ p, M2.idxOf t = p := ⟨_, rfl⟩
        obtain ⟨f', hM'⟩ := HM.out.old HGd.out HMI.out hlt (by rw [HT.out]; exact hin)
        rw [HT.out, hp] at hM'
        have HM' : Hid (MSs A i (c + 1) M2 W2 (N2 ++ [p]) f') := hM'
        have hpl : p < 512 := by have := List.idxOf_lt_length_of_mem hin; omega
        refine (fput_old HX3.out.fn HTT.out.1 HTT.out.2 i c hin hp).mono ?_
        rintro e y3 ⟨rfl, hy3⟩
        have HX4 : Hid (EX A base w fb b mb g w1.heap.size l S0 vl2 vw2 vr2 M2 W2 N2 D2 y3) := HX3.out.call hy3
        have HMJ : Hid (M2[i]? = some l) := HMI.out
        clear hy3 hM' HX3 HM hin hp HMI
        obtain ⟨ra, rc, rfl⟩ := own_shape HX4.out.fn.right
        obtain ⟨i0, hi, hz0, hz1, hz2⟩ := info_parts Try.info_u16
        have t3 : y3.cell? ⟨fb, 3, none⟩ = some (.slice ra N2.length rc) := cell_at HX4.out.fn.box rfl
        have hw16 : IntKind.u16.wrap (p : Int) = (p : Int) := by rw [IntKind.wrap_u16]; omega
        have hbs : base ≤ y3.heap.size := by have := HX4.out.fn.fs (.inl rfl); omega
        go_wp2_with (at_builtin; go_loud (refine wpList_append_own_at _ rfl _ _ 68 rfl base 97 i0 (.int .u16 0) 1 2 Try.underlying68 hi hz0 hz1 hz2 rfl (by decide) _ _ _ rfl (HX4.out.fn.right.alloc _) ⟨y3.heap.size, 0, none⟩ 1 1 [.int .u16 (p : Int)] rfl rfl (cell_one_new _ _ _) (by intro u hu; simp at hu; subst hu; rfl) (by unfold maxLen; omega) (by omega) (by simp; omega) ?_; intro v7 w7 ho7 hg7 _ hl7; obtain ⟨a7, c7, rfl⟩ := own_shape ho7; have hN7 := HX4.out.fn.rightd ho7 hg7; have hcs : w7.cell? ⟨fb, 3, none⟩ = some (.slice ra N2.length rc) := cell_at hN7.1 rfl; have hfz : w7.frozen? ⟨fb, 3, none⟩ = false := frozen_blk hN7.1 3; have HN7 : Hid _ := hN7.2; have HL7 : Hid ((Value.slice a7 (N2.length + 1) c7).ownBlock = (Value.slice ra N2.length rc).ownBlock ∨ (Value.slice a7 (N2.length + 1) c7).ownBlock = some (y3.heap.size + 1)) := (by rcases hl7 with q | q; exact .inl q; exact .inr (q.trans (by rw [World.size_alloc]))); clear hN7 ho7 hg7 hl7 t3))
        have HX5 : Hid (EX A base w fb b mb g w1.heap.size l S0 vl2 vw2 (.slice a7 (N2.length + 1) c7) M2 W2 (N2 ++ [p]) D2 (w7.setCell ⟨fb, 3, none⟩ (.slice a7 (N2.length + 1) c7))) := by
          refine HX4.out.put HN7.out.1 ⟨HN7.out.2, fun j hj => ?_⟩
          rcases hj with q | q | q | q
          · exact .inl (.inl q)
          · exact .inl (.inr (.inl q))
          · exact .inl (.inr (.inr (.inl q)))
          · rcases HL7.out with r | r
            · exact .inl (.inr (.inr (.inr (r.symm.trans q))))
            · rw [r] at q
              simp only [Option.some.injEq] at q
              exact .inr (by omega)
        clear HN7 HL7 HX4
        go_roundw
        case rel => exact ⟨c + 1, _, _, _, _, _, _, _, f', by go_num, by omega, HX5.out, HM'.out, HMJ.out⟩
        case measure => simp [intOf]; omega
      · by_cases hfl : M2.length < 512
        · obtain ⟨f', hM'⟩ := HM.out.new HGd.out HMI.out hlt (by rw [HT.out]; exact hin) hfl
          rw [HT.out] at hM'
          have HMJ : Hid ((M2 ++ [t])[i]? = some l) := getElem?_snoc_lt HMI.out
          refine (fput_new HX3.out.fn HTT.out.1 HTT.out.2 i c hin hfl (by rw [HM.out.wy.len]; omega)).mono ?_
          rintro e y3 ⟨vl3, vw3, rfl, hF3, hR3⟩
          have HX4 : Hid (EX A base w fb b mb g w1.heap.size l S0 vl3 vw3 vr2 (M2 ++ [t]) (W2 ++ [(i, c)]) N2 (D2.put (klT t) (.lit (.int .i64 (M2.length : Nat)))) y3) := HX3.out.put hF3 hR3
          obtain ⟨p, hp⟩ : ∃ p, M2.length = p := ⟨_, rfl⟩
          have hpl : p < 512 := by omega
          rw [hp] at hM' HX4
          rw [hp]
          obtain ⟨M3, hM3⟩ : ∃ M3, M2 ++ [t] = M3 := ⟨_, rfl⟩
          obtain ⟨W3, hW3⟩ : ∃ W3, W2 ++ [(i, c)] = W3 := ⟨_, rfl⟩
          obtain ⟨D3, hD3⟩ : ∃ D3, D2.put (klT t) (.lit (.int .i64 (p : Nat))) = D3 := ⟨_, rfl⟩
          rw [hM3, hW3] at hM'
          rw [hM3] at HMJ
          rw [hM3, hW3, hD3] at HX4
          have HM' : Hid (MSs A i (c + 1) M3 W3 (N2 ++ [p]) f') := hM'
          clear hF3 hR3 hM' HX3 HM hin hp hM3 hW3 hD3 hfl hmo HMI
          obtain ⟨ra, rc, rfl⟩ := own_shape HX4.out.fn.right
          obtain ⟨i0, hi, hz0, hz1, hz2⟩ := info_parts Try.info_u16
          have t3 : y3.cell? ⟨fb, 3, none⟩ = some (.slice ra N2.length rc) := cell_at HX4.out.fn.box rfl
          have hw16 : IntKind.u16.wrap (p : Int) = (p : Int) := by rw [IntKind.wrap_u16]; omega
          have hbs : base ≤ y3.heap.size := by have := HX4.out.fn.fs (.inl rfl); omega
          go_wp2_with (at_builtin; go_loud (refine wpList_append_own_at _ rfl _ _ 68 rfl base 97 i0 (.int .u16 0) 1 2 Try.underlying68 hi hz0 hz1 hz2 rfl (by decide) _ _ _ rfl (HX4.out.fn.right.alloc _) ⟨y3.heap.size, 0, none⟩ 1 1 [.int .u16 (p : Int)] rfl rfl (cell_one_new _ _ _) (by intro u hu; simp at hu; subst hu; rfl) (by unfold maxLen; omega) (by omega) (by simp; omega) ?_; intro v7 w7 ho7 hg7 _ hl7; obtain ⟨a7, c7, rfl⟩ := own_shape ho7; have hN7 := HX4.out.fn.rightd ho7 hg7; have hcs : w7.cell? ⟨fb, 3, none⟩ = some (.slice ra N2.length rc) := cell_at hN7.1 rfl; have hfz : w7.frozen? ⟨fb, 3, none⟩ = false := frozen_blk hN7.1 3; have HN7 : Hid _ := hN7.2; have HL7 : Hid ((Value.slice a7 (N2.length + 1) c7).ownBlock = (Value.slice ra N2.length rc).ownBlock ∨ (Value.slice a7 (N2.length + 1) c7).ownBlock = some (y3.heap.size + 1)) := (by rcases hl7 with q | q; exact .inl q; exact .inr (q.trans (by rw [World.size_alloc]))); clear hN7 ho7 hg7 hl7 t3))
          have HX5 : Hid (EX A base w fb b mb g w1.heap.size l S0 vl3 vw3 (.slice a7 (N2.length + 1) c7) M3 W3 (N2 ++ [p]) D3 (w7.setCell ⟨fb, 3, none⟩ (.slice a7 (N2.length + 1) c7))) := by
            refine HX4.out.put HN7.out.1 ⟨HN7.out.2, fun j hj => ?_⟩
            rcases hj with q | q | q | q
            · exact .inl (.inl q)
            · exact .inl (.inr (.inl q))
            · exact .inl (.inr (.inr (.inl q)))
            · rcases HL7.out with r | r
              · exact .inl (.inr (.inr (.inr (r.symm.trans q))))
              · rw [r] at q
                simp only [Option.some.injEq] at q
                exact .inr (by omega)
          clear HN7 HL7 HX4
          go_roundw
          case rel => exact ⟨c + 1, _, _, _, _, _, _, _, f', by go_num, by omega, HX5.out, HM'.out, HMJ.out⟩
          case measure => simp [intOf]; omega
        · have HNO : Hid (mEl A = none) := HM.out.full HGd.out HMI.out hlt (by rw [HT.out]; exact hin) (by omega)
          refine (fput_full HX3.out.fn HTT.out.1 HTT.out.2 i c hin (by omega)).mono ?_
          rintro e y3 ⟨rfl, hy3⟩
          have HX4 : Hid (EX A base w fb b mb g w1.heap.size l S0 vl2 vw2 vr2 M2 W2 N2 D2 y3) := HX3.out.call hy3
          clear hy3 HX3
          go_wp2_with fail
          go_ret
          exact .inl ⟨HNO.out, rfl, HX4.out.fr.only⟩
    · have hcI : ¬ (c : Int) < A.k.toNat := by omega
      obtain rfl : c = A.k.toNat := by omega
      go_wp2_with fail
      go_ret
      exact .inr ⟨vl2, vw2, vr2, M2, W2, N2, D2, f2, rfl, HX.out.fn, HM.out, HX.out.fr⟩
end Go.Proofs.Ytabkhoiccjkghaa
