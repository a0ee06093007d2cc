/- E76 E77 E83 E78 E23 E51 E82 E79 E84 E86 E80 E81 E87, in one text. -/
import Derived.Test.YtlohfeogaalfcaaGreatW3
import Derived.Test.YtlohfeogaalfcaaGreatW1
import Derived.Deep.RegionHeld3
import Derived.Test.YtlohfeogaalfcaaGreatW2
import Derived.Deep.QuietTactic
namespace Go.Proofs.YtlohfeogaalfcaaGreat
open Go Go.RowKit Go.Lib Go.Maps
set_option linter.unusedVariables false
attribute [-instance] List.instBEq instBEqProd

/-- A group that Of made lies in memory. -/
structure GX (w : World) (gb : Nat) (K : Nat) (N : List Nat) (e : Nat) (l : List Nat) (gm cm mb pb ib : Nat) (D : DataW Unit) (P I : List Nat) (tv : Value) : Prop where
  box : w.heap[gb]? = some (.cells #[.pointer (some ⟨gb, 0, none⟩), .slice (some ⟨gm, 0, none⟩) l.length cm, .map (some mb), .slice (some ⟨pb, 0, none⟩) l.length l.length, .slice (some ⟨ib, 0, none⟩) l.length l.length, .int .i64 (plN l e : Nat), tv] 53 (0, 0))
  pm : PM l l.length D
  mem : SR w (some ⟨gm, 0, none⟩) (nC l)
  mp : w.ownsMap Tryz.prog 3 (plainElem Tryz.prog 3) mb l.length D
  ps : PR w pb P []
  is : PR w ib I []
  pl : P.length = l.length
  il : I.length = l.length
  pi : ∀ j, j < l.length → PIk K N l P I j
  tb : ∃ ta tc, tv = .slice ta (l.length * l.length) tc ∧ SR w ta (hC (tbT K N l l.length))

/-- What Of answers. -/
def OfQ (K n : Nat) (N : List Nat) (i : Int) (w : World) (en : Ending) (w' : World) : Prop :=
  ((hasE n i = true ∧ idE K N i.toNat = true ∧ ∃ gb gm cm mb pb ib D P I tv, en = .returned (.tuple #[.pointer (some ⟨gb, 0, none⟩), .int .i64 0]) ∧ w.heap.size ≤ gb ∧ GX w' gb K N i.toNat (thL n (hcE K N i.toNat)) gm cm mb pb ib D P I tv) ∨
   (hasE n i = true ∧ idE K N i.toNat = false ∧ en = .returned (.tuple #[.pointer none, .int .i64 160])) ∨ (¬ hasE n i = true ∧ en = .returned (.tuple #[.pointer none, .int .i64 11]))) ∧ Below w.heap.size w w'

theorem OwnN.sr {w : World} {base gm n cm : Nat} {l : List Nat} (h : OwnN w base (.slice (some ⟨gm, 0, none⟩) n cm) l) (hn : n = l.length) : SR w (some ⟨gm, 0, none⟩) (nC l) := by
  subst hn
  exact own_sr h

set_option maxHeartbeats 4000000 in
set_option maxRecDepth 100000 in
theorem of_any {w : World} {ob : Nat} {A : Aut} {M : List (List Nat)} {N : List Nat} (h : MO w ob A M N) (i : Int) :
    Calls Tryz.prog 7 #[.pointer (some ⟨ob, 0, none⟩), .int .i64 i] w (OfQ A.k.toNat M.length N i w) := by
  have HM : Hid (MO w ob A M N) := h
  have HI : Hid _ := iIdem_any h i
  have HMON : Hid (Mon A M N) := h.mon
  have HQ : Hid (∃ Q, OfQ A.k.toNat M.length N i w = Q) := ⟨_, rfl⟩
  obtain ⟨Q, hQ⟩ := HQ.out
  have HQE : Hid (OfQ A.k.toNat M.length N i w = Q) := hQ
  rw [hQ]
  unfold ipV at HI
  clear h hQ HQ
  by_cases hE : hasE M.length i = true
  · obtain ⟨x, rfl, hx⟩ := hasE_of hE
    have HEE : Hid (hasE M.length (x : Int) = true) := hE
    have HX : Hid (x < M.length) := hx
    rw [if_pos hE, Int.toNat_natCast] at HI
    clear hE hx
    cases hid : idE A.k.toNat N x with
    | false =>
      rw [hid] at HI
      have HID : Hid (idE A.k.toNat N x = false) := hid
      clear hid
      go_enter Tryz.func7, Tryz.ntmps7
      go_wp2_with fail
      refine Calls.mono HI.out ?_
      rintro en w1 ⟨rfl, hb⟩
      have HB : Hid (Below w.heap.size w w1) := hb
      clear hb
      go_wp2_with fail
      rw [← HQE.out]
      exact ⟨.inr (.inl ⟨HEE.out, by rw [Int.toNat_natCast]; exact HID.out, rfl⟩), HB.out⟩
    | true =>
      rw [hid] at HI
      have HID : Hid (idE A.k.toNat N x = true) := hid
      have HXX : Hid (pr A.k.toNat N x x = x) := by show _ = _; unfold idE at hid; exact of_decide_eq_true hid
      clear hid
      go_enter Tryz.func7, Tryz.ntmps7
      go_wp2_with fail
      refine Calls.mono HI.out ?_
      rintro en w1 ⟨rfl, hb⟩
      have HB : Hid (Below w.heap.size w w1) := hb
      have HRO : Hid _ := rollOf_any (HM.out.below hb) x HX.out HXX.out
      obtain ⟨l, hl⟩ : ∃ l, thL M.length (hcE A.k.toNat N x) = l := ⟨_, rfl⟩
      have HL : Hid (thL M.length (hcE A.k.toNat N x) = l) := hl
      unfold RoQ at HRO
      rw [hl] at HRO
      have HL5 : Hid (l.length ≤ 512) := by show _ ≤ _; rw [← hl]; exact Nat.le_trans (thL_len _ _) HMON.out.most
      have HND : Hid (∀ i j, i < l.length → j < l.length → l.getD i 0 = l.getD j 0 → i = j) := by show ∀ i j, _; rw [← hl]; exact thL_nodup _ _
      have HLM : Hid (∀ j, j < l.length → l.getD j 0 < M.length) := fun j hj => by
        have : l.getD j 0 ∈ thL M.length (hcE A.k.toNat N x) := by rw [hl, List.getD_eq_getElem?_getD, List.getElem?_eq_getElem hj]; exact List.getElem_mem hj
        exact (mem_thL.1 this).1
      have HPOS : Hid (0 < l.length) := by
        show _ < _
        rw [← hl]
        refine List.length_pos_of_mem (a := x) (mem_thL.2 ⟨HX.out, ?_⟩)
        unfold hcE
        rw [omE_true ⟨1, by omega, HMON.out.pw_one HX.out, HXX.out⟩]
        unfold btE
        rw [HXX.out, HXX.out]
        simp
      clear hb hl HI
      go_wp2_with fail
      refine Calls.mono HRO.out ?_
      rintro en w2 ⟨gm, cm, mb, pb, ib, D, P, I, rfl, hpm, hmem, hmp, hps, his, hpl, hil, hpi, g1, g2, g3, g4, hb2⟩
      unfold roC
      have HB2 : Hid (Below w.heap.size w w2) := go_on HB.out hb2
      have hs2 := HB2.out.size
      obtain ⟨one, hone⟩ : ∃ one, plN l x = one := ⟨_, rfl⟩
      have HONE : Hid (plN l x = one) := hone
      rw [hone]
      obtain ⟨w3, hw3⟩ : ∃ w3, w3 = w2.alloc (.cells #[.pointer none, .slice (some ⟨gm, 0, none⟩) l.length cm, .map (some mb), .slice (some ⟨pb, 0, none⟩) l.length l.length, .slice (some ⟨ib, 0, none⟩) l.length l.length, .int .i64 (one : Nat), .slice none 0 0] 53) := ⟨_, rfl⟩
      have HW3 : Hid (w3 = w2.alloc (.cells #[.pointer none, .slice (some ⟨gm, 0, none⟩) l.length cm, .map (some mb), .slice (some ⟨pb, 0, none⟩) l.length l.length, .slice (some ⟨ib, 0, none⟩) l.length l.length, .int .i64 (one : Nat), .slice none 0 0] 53)) := hw3
      have hbx : Below w2.heap.size w2 w3 := by rw [hw3]; exact below_new _ _
      have HBX : Hid (Below w2.heap.size w2 w3) := hbx
      have HZ3 : Hid (w3.heap.size = w2.heap.size + 1) := by show _ = _; rw [hw3]; simp
      have HB3 : Hid (Below w.heap.size w w3) := go_on HB2.out hbx
      have hbox : w3.heap[w2.heap.size]? = some (.cells #[.pointer none, .slice (some ⟨gm, 0, none⟩) l.length cm, .map (some mb), .slice (some ⟨pb, 0, none⟩) l.length l.length, .slice (some ⟨ib, 0, none⟩) l.length l.length, .int .i64 (one : Nat), .slice none 0 0] 53 (0, 0)) := by rw [hw3]; exact heap_last _ _
      have HBOX : Hid _ := hbox
      have HMEM2 : Hid (SR w2 (some ⟨gm, 0, none⟩) (nC l)) := hmem.sr rfl
      have HMP2 : Hid (w2.ownsMap Tryz.prog 3 (plainElem Tryz.prog 3) mb l.length D) := hmp
      have HPS2 : Hid (PR w2 pb P []) := hps
      have HIS2 : Hid (PR w2 ib I []) := his
      have HMEM : Hid (SR w3 (some ⟨gm, 0, none⟩) (nC l)) := (hmem.sr rfl).stay hbx
      have HMP : Hid (w3.ownsMap Tryz.prog 3 (plainElem Tryz.prog 3) mb l.length D) := map_below hmp hbx
      have HPM : Hid (PM l l.length D) := hpm
      have HLEN : Hid (P.length = l.length ∧ I.length = l.length) := ⟨hpl, hil⟩
      have HPI : Hid (∀ j, j < l.length → PIk A.k.toNat N l P I j) := hpi
      have HPR : Hid _ := products_any (HM.out.below HB3.out) w2.heap.size gm cm mb l D (cell_at hbox rfl) (cell_at hbox rfl) HMEM.out HMP.out hpm HND.out HPOS.out HL5.out HLM.out
      clear hpm hmem hmp hps his hpl hil hpi g1 g2 g3 g4 hb2 hone hw3 hbx hbox HRO
      go_wp2_with fail
      rw [← HW3.out]
      refine Calls.mono HPR.out ?_
      rintro en w4 ⟨tv, rfl, ho, hb4⟩
      obtain ⟨ta, tc, rfl⟩ := own_shape ho
      have hz3 := HZ3.out
      obtain ⟨gb, hgb⟩ : ∃ gb, w2.heap.size = gb := ⟨_, rfl⟩
      have HGB : Hid (w2.heap.size = gb) := hgb
      have hbox4 : w4.heap[gb]? = some (.cells #[.pointer none, .slice (some ⟨gm, 0, none⟩) l.length cm, .map (some mb), .slice (some ⟨pb, 0, none⟩) l.length l.length, .slice (some ⟨ib, 0, none⟩) l.length l.length, .int .i64 (one : Nat), .slice none 0 0] 53 (0, 0)) := by
        rw [← hgb, hb4.block _ (by omega)]; exact HBOX.out
      have k0 : w4.cell? ⟨gb, 0, none⟩ = some (.pointer none) := cell_at hbox4 rfl
      have k6 : w4.cell? ⟨gb, 6, none⟩ = some (.slice none 0 0) := cell_at hbox4 rfl
      have kf : ∀ o, w4.frozen? ⟨gb, o, none⟩ = false := fun o => frz_at hbox4
      have HTT : Hid ((tbT A.k.toNat N l l.length).length = l.length * l.length) := tbT_len _ _ _ _ (Nat.le_refl _)
      obtain ⟨n2, hn2⟩ : ∃ n2, (tbT A.k.toNat N l l.length).length = n2 := ⟨_, rfl⟩
      have HN2 : Hid ((tbT A.k.toNat N l l.length).length = n2) := hn2
      have HOT : Hid (OwnH w4 w3.heap.size (.slice ta (tbT A.k.toNat N l l.length).length tc) (tbT A.k.toNat N l l.length)) := ho
      have HB4 : Hid (Below w3.heap.size w3 w4) := hb4
      have HBX4 : Hid (w4.heap[gb]? = _) := hbox4
      have HS2 : Hid (w.heap.size ≤ w2.heap.size) := hs2
      rw [hgb, hn2]
      clear ho hb4 hbox4 hz3 hn2 hgb hs2
      go_wp2_with fail
      rw [← HQE.out]
      refine ⟨.inl ⟨HEE.out, by rw [Int.toNat_natCast]; exact HID.out, gb, gm, cm, mb, pb, ib, D, P, I, .slice ta n2 tc, rfl, by rw [← HGB.out]; exact HS2.out, ?_⟩, ?_⟩
      · rw [Int.toNat_natCast, HL.out]
        have hb5 : Below w2.heap.size w2 ((w4.setCell ⟨gb, 6, none⟩ (.slice ta n2 tc)).setCell ⟨gb, 0, none⟩ (.pointer (some ⟨gb, 0, none⟩))) := by
          refine ((go_on HBX.out HB4.out).setCell (p := ⟨gb, 6, none⟩) ?_ _).setCell (p := ⟨gb, 0, none⟩) ?_ _
          all_goals show w2.heap.size ≤ gb; rw [HGB.out]; exact Nat.le_refl _
        refine ⟨?_, HPM.out, HMEM2.out.stay hb5, map_below HMP2.out hb5, HPS2.out.below hb5, HIS2.out.below hb5, HLEN.out.1, HLEN.out.2, HPI.out, ta, tc, by rw [← HTT.out, HN2.out], ?_⟩
        · rw [heap_set (heap_set HBX4.out), HONE.out]
          rfl
        · refine own_sr (own_keep HOT.out (fun b cur h1 h2 => ?_))
          have := own_blk HOT.out h1
          have hne : b ≠ gb := by have := HZ3.out; have := HGB.out; omega
          rw [heap_set_other hne, heap_set_other hne]
      · refine ((go_on HB3.out HB4.out).setCell (p := ⟨gb, 6, none⟩) ?_ _).setCell (p := ⟨gb, 0, none⟩) ?_ _
        all_goals show w.heap.size ≤ gb; rw [← HGB.out]; exact HS2.out
  · rw [if_neg hE] at HI
    have HEE : Hid (¬ hasE M.length i = true) := hE
    clear hE
    go_enter Tryz.func7, Tryz.ntmps7
    go_wp2_with fail
    refine Calls.mono HI.out ?_
    rintro en w1 ⟨rfl, hb⟩
    have HB : Hid (Below w.heap.size w w1) := hb
    clear hb
    go_wp2_with fail
    rw [← HQE.out]
    exact ⟨.inr (.inr ⟨HEE.out, rfl⟩), HB.out⟩
end Go.Proofs.YtlohfeogaalfcaaGreat

namespace Go.Proofs.YtlohfeogaalfcaaGreat
open Go Go.RowKit Go.Lib Go.Maps
set_option linter.unusedVariables false
attribute [-instance] List.instBEq instBEqProd

theorem eq_ptrG (a : Addr) (w : World) : (binOp .eql 30 (.pointer (some a)) (.pointer (some a))).run Tryz.prog w = .ok (.bool true) w := by
  simp only [binOp]
  simp only [Op.equal, Op.maxDepth]
  rw [show (10000 : Nat) = 9999 + 1 from rfl, Op.equalIn]
  simp [Sem.run_bind, run_underlying Tryz.underlying30, sameAddr]

theorem GX.below {w w' : World} {gb : Nat} {K : Nat} {N : List Nat} {e : Nat} {l : List Nat} {gm cm mb pb ib : Nat} {D : DataW Unit} {P I : List Nat} {tv : Value} (h : GX w gb K N e l gm cm mb pb ib D P I tv) (hb : Below w.heap.size w w') : GX w' gb K N e l gm cm mb pb ib D P I tv := by
  obtain ⟨ta, tc, e1, e2⟩ := h.tb
  exact ⟨(hb.block _ (Array.getElem?_eq_some_iff.1 h.box).1).trans h.box, h.pm, h.mem.stay hb, map_below h.mp hb, h.ps.below hb, h.is.below hb, h.pl, h.il, h.pi, ta, tc, e1, e2.stay hb⟩

set_option maxHeartbeats 1000000 in
set_option maxRecDepth 100000 in
theorem gmade_any {w : World} {gb : Nat} {K : Nat} {N : List Nat} {e : Nat} {l : List Nat} {gm cm mb pb ib : Nat} {D : DataW Unit} {P I : List Nat} {tv : Value} (h : GX w gb K N e l gm cm mb pb ib D P I tv) :
    Calls Tryz.prog 52 #[.pointer (some ⟨gb, 0, none⟩)] w fun e w' => e = .returned (.bool true) ∧ w = w' := by
  have h0 : w.cell? ⟨gb, 0, none⟩ = some (.pointer (some ⟨gb, 0, none⟩)) := cell_at h.box rfl
  have he := eq_ptrG ⟨gb, 0, none⟩ w
  clear h
  go_enter Tryz.func52, Tryz.ntmps52
  go_wp2_with fail
  go_ret
  exact ⟨rfl, rfl⟩

set_option maxHeartbeats 1000000 in
set_option maxRecDepth 100000 in
theorem gorder_any {w : World} {gb : Nat} {K : Nat} {N : List Nat} {e : Nat} {l : List Nat} {gm cm mb pb ib : Nat} {D : DataW Unit} {P I : List Nat} {tv : Value} (h : GX w gb K N e l gm cm mb pb ib D P I tv) :
    Calls Tryz.prog 37 #[.pointer (some ⟨gb, 0, none⟩)] w fun e w' => e = .returned (.int .i64 (l.length : Nat)) ∧ w = w' := by
  have h1 : w.cell? ⟨gb, 1, none⟩ = some (.slice (some ⟨gm, 0, none⟩) l.length cm) := cell_at h.box rfl
  have HG : Hid _ := gmade_any h
  clear h
  go_enter Tryz.func37, Tryz.ntmps37
  go_wp2_with fail
  refine Calls.mono HG.out ?_
  rintro en w1 ⟨rfl, rfl⟩
  go_wp2_with fail
  go_ret
  exact ⟨rfl, rfl⟩

set_option maxHeartbeats 1000000 in
set_option maxRecDepth 100000 in
theorem gmembers_any {w : World} {gb : Nat} {K : Nat} {N : List Nat} {e : Nat} {l : List Nat} {gm cm mb pb ib : Nat} {D : DataW Unit} {P I : List Nat} {tv : Value} (h : GX w gb K N e l gm cm mb pb ib D P I tv) (h0 : 0 < l.length) (h5 : l.length ≤ 512) :
    Calls Tryz.prog 15 #[.pointer (some ⟨gb, 0, none⟩)] w fun e w' => ∃ v, e = .returned v ∧ OwnN w' w.heap.size v l ∧ Below w.heap.size w w' := by
  have h1 : w.cell? ⟨gb, 1, none⟩ = some (.slice (some ⟨gm, 0, none⟩) l.length cm) := cell_at h.box rfl
  have HG : Hid _ := gmade_any h
  have hm := h.mem
  rw [nC_zC] at hm
  obtain ⟨L, hL⟩ : ∃ L, (l.map fun (n : Nat) => (n : Int)) = L := ⟨_, rfl⟩
  have HLL : Hid ((l.map fun (n : Nat) => (n : Int)) = L) := hL
  have hlen : l.length = L.length := by rw [← hL, List.length_map]
  have HLN : Hid (l.length = L.length) := hlen
  rw [hL] at hm
  rw [hlen] at h1
  have HC : Hid _ := cloneI_any (some ⟨gm, 0, none⟩) cm L w hm (by omega) (by omega)
  clear h hm hL hlen
  go_enter Tryz.func15, Tryz.ntmps15
  go_wp2_with fail
  refine Calls.mono HG.out ?_
  rintro en w1 ⟨rfl, rfl⟩
  go_wp2_with fail
  refine Calls.mono HC.out ?_
  rintro en w1 ⟨g, c, rfl, ho, hb⟩
  have HO : Hid (w1.ownsRow w.heap.size 3 1 (.slice (some ⟨g, 0, none⟩) L.length c) L.length (zC L)) := ho
  have HB : Hid (Below w.heap.size w w1) := hb
  clear ho hb
  go_wp2_with fail
  go_ret
  refine ⟨_, rfl, ?_, HB.out⟩
  unfold OwnN
  rw [nC_zC, HLL.out, HLN.out]
  exact HO.out

/-- What place answers. -/
def plV (l : List Nat) (i : Int) : Value := if i ∈ l.map (fun (n : Nat) => (n : Int)) then .tuple #[.int .i64 (plN l i.toNat : Nat), .int .i64 0] else .tuple #[.int .i64 0, .int .i64 3]

set_option maxHeartbeats 2000000 in
set_option maxRecDepth 100000 in
theorem gplace_any {w : World} {gb : Nat} {K : Nat} {N : List Nat} {e : Nat} {l : List Nat} {gm cm mb pb ib : Nat} {D : DataW Unit} {P I : List Nat} {tv : Value} (h : GX w gb K N e l gm cm mb pb ib D P I tv) (hd : ∀ i j, i < l.length → j < l.length → l.getD i 0 = l.getD j 0 → i = j) (i : Int) (hw : (Lit.int .i64 i).wf = true) :
    Calls Tryz.prog 80 #[.pointer (some ⟨gb, 0, none⟩), .int .i64 i] w fun e w' => e = .returned (plV l i) ∧ w = w' := by
  have h2 : w.cell? ⟨gb, 2, none⟩ = some (.map (some mb)) := cell_at h.box rfl
  have HG : Hid _ := gmade_any h
  have hkey : keyOf Tryz.prog 3 (.int .i64 i) = some (.int .i64 i) := keyOf_int_mk Tryz.und_int hw
  obtain ⟨v, ps, e1, e2⟩ := h.mp.look_ok keyI Tryz.und_mapI (Tryz.zero_int _) (plainElem_int Tryz.und_int (by decide)) hkey
  by_cases hi : i ∈ l.map (fun (n : Nat) => (n : Int))
  · obtain ⟨x, hx, rfl⟩ := List.mem_map.1 hi
    have hh : Maps.has D (.int .i64 (x : Nat)) = true := by
      refine (h.pm.has _).2 ?_
      obtain ⟨j, hj⟩ := List.mem_iff_getElem?.1 hx
      exact ⟨j, (List.getElem?_eq_some_iff.1 hj).1, by rw [List.getD_eq_getElem?_getD, hj]; rfl⟩
    rw [hh] at e1
    rw [h.pm.all hd x] at e2
    obtain ⟨c, rfl, h3, _⟩ := plainElem_int_inv Tryz.und_int e2
    simp only [Prod.mk.injEq, DataW.lit.injEq, Lit.int.injEq, true_and] at h3
    obtain ⟨h3, _⟩ := h3
    rw [← h3] at e1
    have HV : Hid (plV l (x : Nat) = .tuple #[.int .i64 (plN l x : Nat), .int .i64 0]) := by show _ = _; unfold plV; rw [if_pos hi, Int.toNat_natCast]
    clear h e2 h3 hi hx hh hkey hw
    go_enter Tryz.func80, Tryz.ntmps80
    go_wp2_with fail
    refine Calls.mono HG.out ?_
    rintro en w1 ⟨rfl, rfl⟩
    go_wp2_with fail
    go_ret2
    exact ⟨by rw [HV.out]; rfl, rfl⟩
  · have hh : Maps.has D (.int .i64 i) = false := by
      rw [Bool.eq_false_iff]
      intro q
      obtain ⟨j, hj, e⟩ := (h.pm.has _).1 q
      refine hi (List.mem_map.2 ⟨l.getD j 0, ?_, e.symm⟩)
      rw [List.getD_eq_getElem?_getD, List.getElem?_eq_getElem hj]
      exact List.getElem_mem hj
    rw [hh] at e1
    rw [atKey_of_not_has hh] at e2
    obtain ⟨c, rfl, h3, _⟩ := plainElem_int_inv Tryz.und_int e2
    have HV : Hid (plV l i = .tuple #[.int .i64 0, .int .i64 3]) := by show _ = _; unfold plV; rw [if_neg hi]
    clear h e2 h3 hi hh hkey hw
    go_enter Tryz.func80, Tryz.ntmps80
    go_wp2_with fail
    refine Calls.mono HG.out ?_
    rintro en w1 ⟨rfl, rfl⟩
    go_wp2_with fail
    go_ret2
    exact ⟨by rw [HV.out]; rfl, rfl⟩
end Go.Proofs.YtlohfeogaalfcaaGreat

namespace Go.Proofs.YtlohfeogaalfcaaGreat
open Go Go.RowKit Go.Lib Go.Maps
set_option linter.unusedVariables false
attribute [-instance] List.instBEq instBEqProd

set_option maxHeartbeats 2000000 in
set_option maxRecDepth 100000 in
theorem indexI_any {w : World} {b : Nat} {L : List Nat} {tl : List Value} (h : PR w b L tl) (c : Nat) (x : Nat) (hm : L.length ≤ 40000) :
    Calls Tryz.prog 115 #[.slice (some ⟨b, 0, none⟩) L.length c, .int .i64 (x : Nat)] w fun e w' => w = w' ∧ ((e = .returned (.int .i64 (-1)) ∧ x ∉ L) ∨ ∃ k : Nat, e = .returned (.int .i64 (k : Nat)) ∧ k < L.length ∧ x ∈ L) := by
  have HP : Hid (PR w b L tl) := h
  clear h
  go_enter Tryz.func115, Tryz.ntmps115
  go_wp2_with fail
  go_loopw [8] (fun vi wr => ∃ i : Nat, i ≤ L.length ∧ vi = .int .i64 (i : Nat) ∧ (∀ j, j < i → L.getD j 0 ≠ x) ∧ w = wr) (fun vi _ => L.length - (Go.RowKit.intOf vi).toNat)
  case atStart => exact ⟨0, Nat.zero_le _, rfl, fun j hj => by omega, rfl⟩
  case round =>
    obtain ⟨i, hi, rfl, hj, rfl⟩ := hrel
    have HJ : Hid (∀ j, j < i → L.getD j 0 ≠ x) := hj
    clear hj
    by_cases hlt : i < L.length
    · have hiI : (i : Int) < L.length := by omega
      have hc := HP.out.cell hlt
      have HLT : Hid (i < L.length) := hlt
      clear hlt
      obtain ⟨y, hy⟩ : ∃ y, L.getD i 0 = y := ⟨_, rfl⟩
      have HY : Hid (L.getD i 0 = y) := hy
      rw [hy] at hc
      clear hy
      by_cases hxy : x = y
      · have HXY : Hid (x = y) := hxy
        have hb : ((x : Int) == (y : Int)) = true := by rw [hxy]; simp
        clear hxy
        go_wp2_with fail
        all_goals first
          | (exfalso; have := HXY.out; omega)
          | skip
        go_ret
        refine ⟨rfl, .inr ⟨i, rfl, HLT.out, ?_⟩⟩
        rw [HXY.out, ← HY.out, List.getD_eq_getElem?_getD, List.getElem?_eq_getElem HLT.out]
        exact List.getElem_mem HLT.out
      · have hne : ¬ (x : Int) = (y : Int) := by omega
        have hb : ((x : Int) == (y : Int)) = false := beq_eq_false_iff_ne.2 hne
        have HJ2 : Hid (∀ j, j < i + 1 → L.getD j 0 ≠ x) := fun j hj => by
          by_cases e : j = i
          · subst e; rw [HY.out]; exact fun q => hxy q.symm
          · exact HJ.out j (by omega)
        go_wp2_with fail
        go_roundw
        case rel => exact ⟨i + 1, HLT.out, by go_num, HJ2.out, trivial⟩
        case measure => have := HLT.out; simp [Go.RowKit.intOf]; omega
    · have hiI : ¬ (i : Int) < L.length := by omega
      have HE : Hid (i = L.length) := (by omega : i = L.length)
      clear hlt
      go_wp2_with fail
      go_ret
      refine ⟨rfl, .inl ⟨rfl, fun q => ?_⟩⟩
      obtain ⟨j, hj⟩ := List.mem_iff_getElem?.1 q
      exact HJ.out j (by rw [HE.out]; exact (List.getElem?_eq_some_iff.1 hj).1) (by rw [List.getD_eq_getElem?_getD, hj]; rfl)

set_option maxHeartbeats 2000000 in
set_option maxRecDepth 100000 in
theorem containsI_any {w : World} {b : Nat} {L : List Nat} {tl : List Value} (h : PR w b L tl) (c : Nat) (x : Nat) (hm : L.length ≤ 40000) :
    Calls Tryz.prog 87 #[.slice (some ⟨b, 0, none⟩) L.length c, .int .i64 (x : Nat)] w fun e w' => e = .returned (.bool (decide (x ∈ L))) ∧ w = w' := by
  have HI : Hid _ := indexI_any h c x hm
  clear h
  go_enter Tryz.func87, Tryz.ntmps87
  go_wp2_with fail
  refine Calls.mono HI.out ?_
  rintro e w1 ⟨rfl, ⟨rfl, hx⟩ | ⟨k, rfl, hk, hx⟩⟩
  · have HX : Hid (decide (x ∈ L) = false) := decide_eq_false hx
    clear hx
    go_wp2_with fail
    go_ret
    exact ⟨by rw [HX.out]; rfl, rfl⟩
  · have HX : Hid (decide (x ∈ L) = true) := decide_eq_true hx
    have hk0 : (0 : Int) ≤ (k : Int) := by omega
    clear hx
    go_wp2_with fail
    go_ret
    exact ⟨by rw [HX.out]; simp_all, rfl⟩

set_option maxHeartbeats 4000000 in
set_option maxRecDepth 100000 in
theorem gcyclic_any {w : World} {gb : Nat} {K : Nat} {N : List Nat} {e : Nat} {l : List Nat} {gm cm mb pb ib : Nat} {D : DataW Unit} {P I : List Nat} {tv : Value} (h : GX w gb K N e l gm cm mb pb ib D P I tv) (h5 : l.length ≤ 512) :
    Calls Tryz.prog 50 #[.pointer (some ⟨gb, 0, none⟩)] w fun e w' => e = .returned (.bool (decide (l.length ∈ P))) ∧ Below w.heap.size w w' := by
  have HG : Hid (∀ y, Below w.heap.size w y → Calls Tryz.prog 52 #[.pointer (some ⟨gb, 0, none⟩)] y fun e w' => e = .returned (.bool true) ∧ y = w') := fun y hy => gmade_any (h.below hy)
  have HCO : Hid (∀ y, Below w.heap.size w y → Calls Tryz.prog 87 #[.slice (some ⟨pb, 0, none⟩) l.length l.length, .int .i64 (l.length : Nat)] y fun e w' => e = .returned (.bool (decide (l.length ∈ P))) ∧ y = w') := fun y hy => by
    have := containsI_any (h.ps.below hy) l.length l.length (by rw [h.pl]; omega)
    rwa [h.pl] at this
  have hS0 : (w.drew.cell? ⟨gb, 1, none⟩ = some (.slice (some ⟨gm, 0, none⟩) l.length cm) ∧ w.drew.cell? ⟨gb, 3, none⟩ = some (.slice (some ⟨pb, 0, none⟩) l.length l.length) ∧ Below w.heap.size w w.drew) := ⟨cell_at h.box rfl, cell_at h.box rfl, (Below.refl _ _).drew⟩
  obtain ⟨B, hB⟩ : ∃ B, decide (l.length ∈ P) = B := ⟨_, rfl⟩
  rw [hB] at HCO
  rw [hB]
  clear h hB
  go_enter Tryz.func50, Tryz.ntmps50
  go_upto_region 1 with fail
  refine wp_region_held_drew (S := fun y => (y.cell? ⟨gb, 1, none⟩ = some (.slice (some ⟨gm, 0, none⟩) l.length cm) ∧ y.cell? ⟨gb, 3, none⟩ = some (.slice (some ⟨pb, 0, none⟩) l.length l.length) ∧ Below w.heap.size w y)) (by kernel_rfl) hS0 (fun hH0 => ?_)
  clear hS0
  refine wpAnyH_take (i := 0) (oi := { dst := some 3, op := Go.Op.move (Go.Operand.tmp 0), type := 30, pos := "groups.go:113", after := #[], guard := none }) (v := ?_) rfl (by kernel_rfl) (by kernel_rfl) (by kernel_rfl) (fun _ _ _ h => h) (Or.inl ⟨by rfl, ?_⟩) (by assumption) ?_
  rotate_left
  · intro w' hS; go_simp; (try with_reducible rfl)
  simp only [Act.put, List.setIfInBounds_toArray, List.set_cons_zero, List.set_cons_succ]
  refine wpAnyH_ready (rs := [1]) (by kernel_rfl) (by simp) ?_
  refine AllReadyH.cons rfl (fun K hK => ?_) AllReadyH.nil
  go_simp
  go_at_call 52
  refine Calls.mono (HG.out _ hH0.2.2) ?_
  rintro en y1 ⟨rfl, rfl⟩
  go_simp
  refine hK.out _ _ hH0 (fun hH1 => ?_)
  clear hK K
  refine wpAnyH_take (i := 2) (oi := { dst := some 5, op := Go.Op.move (Go.Operand.tmp 4), type := 4, pos := "groups.go:113", after := #[{ on := 1, ground := Go.Ground.data }, { on := 1, ground := Go.Ground.chain }], guard := none }) (v := ?_) rfl (by kernel_rfl) (by kernel_rfl) (by kernel_rfl) (fun _ _ _ h => h) (Or.inl ⟨by rfl, ?_⟩) (by assumption) ?_
  rotate_left
  · intro w' hS; go_simp; (try with_reducible rfl)
  simp only [Act.put, List.setIfInBounds_toArray, List.set_cons_zero, List.set_cons_succ]
  refine wpAnyH_take (i := 3) (oi := { dst := some 6, op := Go.Op.move (Go.Operand.tmp 0), type := 30, pos := "groups.go:113", after := #[{ on := 2, ground := Go.Ground.guard }], guard := some (2, true) }) (v := ?_) rfl (by kernel_rfl) (by kernel_rfl) (by kernel_rfl) (fun _ _ _ h => h) (Or.inl ⟨by rfl, ?_⟩) (by assumption) ?_
  rotate_left
  · intro w' hS; go_simp; (try with_reducible rfl)
  simp only [Act.put, List.setIfInBounds_toArray, List.set_cons_zero, List.set_cons_succ]
  refine wpAnyH_take (i := 4) (oi := { dst := some 7, op := Go.Op.nilCheck (Go.Operand.tmp 6), type := 0, pos := "groups.go:113", after := #[{ on := 3, ground := Go.Ground.data }, { on := 2, ground := Go.Ground.guard }], guard := some (2, true) }) (v := ?_) rfl (by kernel_rfl) (by kernel_rfl) (by kernel_rfl) (fun _ _ _ h => h) (Or.inl ⟨by rfl, ?_⟩) (by assumption) ?_
  rotate_left
  · intro w' hS; go_simp; (try with_reducible rfl)
  simp only [Act.put, List.setIfInBounds_toArray, List.set_cons_zero, List.set_cons_succ]
  refine wpAnyH_take (i := 5) (oi := { dst := some 8, op := Go.Op.fieldAddr 53 (Go.Operand.tmp 7) 1, type := 0, pos := "groups.go:113", after := #[{ on := 4, ground := Go.Ground.data }, { on := 2, ground := Go.Ground.guard }], guard := some (2, true) }) (v := ?_) rfl (by kernel_rfl) (by kernel_rfl) (by kernel_rfl) (fun _ _ _ h => h) (Or.inl ⟨by rfl, ?_⟩) (by assumption) ?_
  rotate_left
  · intro w' hS; go_simp; (try with_reducible rfl)
  simp only [Act.put, List.setIfInBounds_toArray, List.set_cons_zero, List.set_cons_succ]
  refine wpAnyH_take (i := 6) (oi := { dst := some 9, op := Go.Op.fieldAddr 50 (Go.Operand.tmp 8) 2, type := 0, pos := "groups.go:113", after := #[{ on := 5, ground := Go.Ground.data }, { on := 2, ground := Go.Ground.guard }], guard := some (2, true) }) (v := ?_) rfl (by kernel_rfl) (by kernel_rfl) (by kernel_rfl) (fun _ _ _ h => h) (Or.inl ⟨by rfl, ?_⟩) (by assumption) ?_
  rotate_left
  · intro w' hS; go_simp; (try with_reducible rfl)
  simp only [Act.put, List.setIfInBounds_toArray, List.set_cons_zero, List.set_cons_succ]
  refine wpAnyH_take (i := 7) (oi := { dst := some 10, op := Go.Op.load 22 (Go.Operand.tmp 9), type := 22, pos := "groups.go:113", after := #[{ on := 6, ground := Go.Ground.data }, { on := 2, ground := Go.Ground.guard }], guard := some (2, true) }) (v := .slice (some ⟨pb, 0, none⟩) l.length l.length) rfl (by kernel_rfl) (by kernel_rfl) (by kernel_rfl) (fun _ _ _ h => h) (Or.inl ⟨by rfl, ?_⟩) (by assumption) ?_
  · intro w' hS; have hz := hS.2.1; go_simp
  simp only [Act.put, List.setIfInBounds_toArray, List.set_cons_zero, List.set_cons_succ]
  refine wpAnyH_take (i := 8) (oi := { dst := some 11, op := Go.Op.move (Go.Operand.tmp 0), type := 30, pos := "groups.go:113", after := #[{ on := 2, ground := Go.Ground.guard }], guard := some (2, true) }) (v := ?_) rfl (by kernel_rfl) (by kernel_rfl) (by kernel_rfl) (fun _ _ _ h => h) (Or.inl ⟨by rfl, ?_⟩) (by assumption) ?_
  rotate_left
  · intro w' hS; go_simp; (try with_reducible rfl)
  simp only [Act.put, List.setIfInBounds_toArray, List.set_cons_zero, List.set_cons_succ]
  refine wpAnyH_take (i := 9) (oi := { dst := some 12, op := Go.Op.nilCheck (Go.Operand.tmp 11), type := 0, pos := "groups.go:113", after := #[{ on := 8, ground := Go.Ground.data }, { on := 2, ground := Go.Ground.guard }], guard := some (2, true) }) (v := ?_) rfl (by kernel_rfl) (by kernel_rfl) (by kernel_rfl) (fun _ _ _ h => h) (Or.inl ⟨by rfl, ?_⟩) (by assumption) ?_
  rotate_left
  · intro w' hS; go_simp; (try with_reducible rfl)
  simp only [Act.put, List.setIfInBounds_toArray, List.set_cons_zero, List.set_cons_succ]
  refine wpAnyH_take (i := 10) (oi := { dst := some 13, op := Go.Op.fieldAddr 53 (Go.Operand.tmp 12) 1, type := 0, pos := "groups.go:113", after := #[{ on := 9, ground := Go.Ground.data }, { on := 2, ground := Go.Ground.guard }], guard := some (2, true) }) (v := ?_) rfl (by kernel_rfl) (by kernel_rfl) (by kernel_rfl) (fun _ _ _ h => h) (Or.inl ⟨by rfl, ?_⟩) (by assumption) ?_
  rotate_left
  · intro w' hS; go_simp; (try with_reducible rfl)
  simp only [Act.put, List.setIfInBounds_toArray, List.set_cons_zero, List.set_cons_succ]
  refine wpAnyH_take (i := 11) (oi := { dst := some 14, op := Go.Op.fieldAddr 50 (Go.Operand.tmp 13) 0, type := 0, pos := "groups.go:113", after := #[{ on := 10, ground := Go.Ground.data }, { on := 2, ground := Go.Ground.guard }], guard := some (2, true) }) (v := ?_) rfl (by kernel_rfl) (by kernel_rfl) (by kernel_rfl) (fun _ _ _ h => h) (Or.inl ⟨by rfl, ?_⟩) (by assumption) ?_
  rotate_left
  · intro w' hS; go_simp; (try with_reducible rfl)
  simp only [Act.put, List.setIfInBounds_toArray, List.set_cons_zero, List.set_cons_succ]
  refine wpAnyH_take (i := 12) (oi := { dst := some 15, op := Go.Op.load 22 (Go.Operand.tmp 14), type := 22, pos := "groups.go:113", after := #[{ on := 11, ground := Go.Ground.data }, { on := 2, ground := Go.Ground.guard }], guard := some (2, true) }) (v := .slice (some ⟨gm, 0, none⟩) l.length cm) rfl (by kernel_rfl) (by kernel_rfl) (by kernel_rfl) (fun _ _ _ h => h) (Or.inl ⟨by rfl, ?_⟩) (by assumption) ?_
  · intro w' hS; have hz := hS.1; go_simp
  simp only [Act.put, List.setIfInBounds_toArray, List.set_cons_zero, List.set_cons_succ]
  refine wpAnyH_take (i := 13) (oi := { dst := some 16, op := Go.Op.call { callee := Go.Callee.builtin Go.Builtin.len, args := #[Go.Operand.tmp 15], argTypes := #[22] }, type := 3, pos := "groups.go:113", after := #[{ on := 12, ground := Go.Ground.data }, { on := 2, ground := Go.Ground.guard }], guard := some (2, true) }) (v := ?_) rfl (by kernel_rfl) (by kernel_rfl) (by kernel_rfl) (fun _ _ _ h => h) (Or.inl ⟨by rfl, ?_⟩) (by assumption) ?_
  rotate_left
  · intro w' hS; go_simp; (try with_reducible rfl)
  simp only [Act.put, List.setIfInBounds_toArray, List.set_cons_zero, List.set_cons_succ]
  refine wpAnyH_ready (rs := [14]) (by kernel_rfl) (by simp) ?_
  refine AllReadyH.cons rfl (fun K hK => ?_) AllReadyH.nil
  go_simp
  go_at_call 87
  refine Calls.mono (HCO.out _ hH1.2.2) ?_
  rintro en y1 ⟨rfl, rfl⟩
  go_simp
  refine hK.out _ _ hH1 (fun hH2 => ?_)
  clear hK K
  refine wpAnyH_take (i := 15) (oi := { dst := some 18, op := Go.Op.pick (Go.Operand.tmp 5) (Go.Operand.tmp 17) (Go.Operand.const (Go.Value.bool false)), type := 4, pos := "groups.go:113", after := #[{ on := 2, ground := Go.Ground.data }, { on := 14, ground := Go.Ground.data }], guard := none }) (v := ?_) rfl (by kernel_rfl) (by kernel_rfl) (by kernel_rfl) (fun _ _ _ h => h) (Or.inl ⟨by rfl, ?_⟩) (by assumption) ?_
  rotate_left
  · intro w' hS; go_simp; (try with_reducible rfl)
  simp only [Act.put, List.setIfInBounds_toArray, List.set_cons_zero, List.set_cons_succ]
  refine wpAnyH_take (i := 16) (oi := { dst := some 2, op := Go.Op.assign (Go.Operand.tmp 18), type := 4, pos := "groups.go:113", after := #[{ on := 15, ground := Go.Ground.data }, { on := 14, ground := Go.Ground.chain }, { on := 0, ground := Go.Ground.phase }, { on := 1, ground := Go.Ground.phase }, { on := 2, ground := Go.Ground.phase }, { on := 3, ground := Go.Ground.phase }, { on := 4, ground := Go.Ground.phase }, { on := 5, ground := Go.Ground.phase }, { on := 6, ground := Go.Ground.phase }, { on := 7, ground := Go.Ground.phase }, { on := 8, ground := Go.Ground.phase }, { on := 9, ground := Go.Ground.phase }, { on := 10, ground := Go.Ground.phase }, { on := 11, ground := Go.Ground.phase }, { on := 12, ground := Go.Ground.phase }, { on := 13, ground := Go.Ground.phase }, { on := 14, ground := Go.Ground.phase }, { on := 15, ground := Go.Ground.phase }], guard := none }) (v := ?_) rfl (by kernel_rfl) (by kernel_rfl) (by kernel_rfl) (fun _ _ _ h => h) (Or.inl ⟨by rfl, ?_⟩) (by assumption) ?_
  rotate_left
  · intro w' hS; go_simp; (try with_reducible rfl)
  simp only [Act.put, List.setIfInBounds_toArray, List.set_cons_zero, List.set_cons_succ]
  refine wpAnyH_done (by kernel_rfl) ?_ _
  go_wp2_with fail
  go_ret
  exact ⟨rfl, hH2.2.2⟩
end Go.Proofs.YtlohfeogaalfcaaGreat

namespace Go.Proofs.YtlohfeogaalfcaaGreat
open Go Go.RowKit Go.Lib Go.Maps
set_option linter.unusedVariables false
attribute [-instance] List.instBEq instBEqProd

/-- Is a number a member? -/
def inL (l : List Nat) (i : Int) : Bool := decide (i ∈ l.map (fun (n : Nat) => (n : Int)))

set_option maxHeartbeats 1000000 in
set_option maxRecDepth 100000 in
theorem ghas_any {w : World} {gb : Nat} {K : Nat} {N : List Nat} {e : Nat} {l : List Nat} {gm cm mb pb ib : Nat} {D : DataW Unit} {P I : List Nat} {tv : Value} (h : GX w gb K N e l gm cm mb pb ib D P I tv) (hd : ∀ i j, i < l.length → j < l.length → l.getD i 0 = l.getD j 0 → i = j) (i : Int) (hw : (Lit.int .i64 i).wf = true) :
    Calls Tryz.prog 39 #[.pointer (some ⟨gb, 0, none⟩), .int .i64 i] w fun e w' => e = .returned (.bool (inL l i)) ∧ w = w' := by
  have HG : Hid _ := gplace_any h hd i hw
  clear h hw
  by_cases hi : i ∈ l.map (fun (n : Nat) => (n : Int))
  · have HV : Hid (inL l i = true) := decide_eq_true hi
    unfold plV at HG
    rw [if_pos hi] at HG
    clear hi
    go_enter Tryz.func39, Tryz.ntmps39
    go_wp2_with fail
    refine Calls.mono HG.out ?_
    rintro en w1 ⟨rfl, rfl⟩
    go_wp2_with fail
    go_ret
    exact ⟨by rw [HV.out]; rfl, rfl⟩
  · have HV : Hid (inL l i = false) := decide_eq_false hi
    unfold plV at HG
    rw [if_neg hi] at HG
    clear hi
    go_enter Tryz.func39, Tryz.ntmps39
    go_wp2_with fail
    refine Calls.mono HG.out ?_
    rintro en w1 ⟨rfl, rfl⟩
    go_wp2_with fail
    go_ret
    exact ⟨by rw [HV.out]; rfl, rfl⟩

/-- What Inverse answers. -/
def gvV (l I : List Nat) (i : Int) : Value := if i ∈ l.map (fun (n : Nat) => (n : Int)) then .tuple #[.int .i64 (l.getD (I.getD (plN l i.toNat) 0) 0 : Nat), .int .i64 0] else .tuple #[.int .i64 0, .int .i64 3]

set_option maxHeartbeats 4000000 in
set_option maxRecDepth 100000 in
theorem ginverse_any {w : World} {gb : Nat} {K : Nat} {N : List Nat} {e : Nat} {l : List Nat} {gm cm mb pb ib : Nat} {D : DataW Unit} {P I : List Nat} {tv : Value} (h : GX w gb K N e l gm cm mb pb ib D P I tv) (hd : ∀ i j, i < l.length → j < l.length → l.getD i 0 = l.getD j 0 → i = j) (h0 : 0 < l.length) (i : Int) (hw : (Lit.int .i64 i).wf = true) :
    Calls Tryz.prog 33 #[.pointer (some ⟨gb, 0, none⟩), .int .i64 i] w fun e w' => e = .returned (gvV l I i) ∧ Below w.heap.size w w' := by
  have HG : Hid _ := gplace_any h hd i hw
  by_cases hi : i ∈ l.map (fun (n : Nat) => (n : Int))
  · obtain ⟨x, hx, rfl⟩ := List.mem_map.1 hi
    unfold plV at HG
    rw [if_pos hi, Int.toNat_natCast] at HG
    have hpl : plN l x < l.length := plN_lt h0 x
    have hii : I.getD (plN l x) 0 < l.length := by rw [(h.pi _ hpl).2]; exact plN_lt h0 _
    obtain ⟨p, hp⟩ : ∃ p, plN l x = p := ⟨_, rfl⟩
    rw [hp] at hpl hii HG
    obtain ⟨q, hq⟩ : ∃ q, I.getD p 0 = q := ⟨_, rfl⟩
    obtain ⟨z, hz⟩ : ∃ z, l.getD q 0 = z := ⟨_, rfl⟩
    have HV : Hid (gvV l I (x : Nat) = .tuple #[.int .i64 (z : Nat), .int .i64 0]) := by show _ = _; unfold gvV; rw [if_pos hi, Int.toNat_natCast, hp, hq, hz]
    have ci := h.is.cell (i := p) (by rw [h.il]; exact hpl)
    rw [hq] at ci hii
    obtain ⟨g, o, e1, _, cm'⟩ := h.mem.nat hii
    simp only [Option.some.injEq, Addr.mk.injEq, and_true] at e1
    obtain ⟨rfl, rfl⟩ := e1
    rw [Nat.zero_add, hz] at cm'
    have c1 : w.cell? ⟨gb, 1, none⟩ = some (.slice (some ⟨gm, 0, none⟩) l.length cm) := cell_at h.box rfl
    have c4 : w.cell? ⟨gb, 4, none⟩ = some (.slice (some ⟨ib, 0, none⟩) l.length l.length) := cell_at h.box rfl
    have hpI : (p : Int) < l.length := by omega
    have hqI : (q : Int) < l.length := by omega
    clear h hw hi hx hp hq hz hpl hii
    go_enter Tryz.func33, Tryz.ntmps33
    go_wp2_with fail
    refine Calls.mono HG.out ?_
    rintro en w1 ⟨rfl, rfl⟩
    go_wp2_with fail
    go_region
    go_wp2_with fail
    go_ret2
    exact ⟨by rw [HV.out]; rfl, (Below.refl _ _).drew⟩
  · have HV : Hid (gvV l I i = .tuple #[.int .i64 0, .int .i64 3]) := by show _ = _; unfold gvV; rw [if_neg hi]
    unfold plV at HG
    rw [if_neg hi] at HG
    clear hi h hw
    go_enter Tryz.func33, Tryz.ntmps33
    go_wp2_with fail
    refine Calls.mono HG.out ?_
    rintro en w1 ⟨rfl, rfl⟩
    go_wp2_with fail
    go_ret2
    exact ⟨by rw [HV.out]; rfl, Below.refl _ _⟩
end Go.Proofs.YtlohfeogaalfcaaGreat

namespace Go.Proofs.YtlohfeogaalfcaaGreat
open Go Go.RowKit Go.Lib Go.Maps
set_option linter.unusedVariables false

/-- No monoid, or one whose mark is nil. -/
def NoM (w : World) (x : Value) : Prop := x = .pointer none ∨ ∃ b, x = .pointer (some ⟨b, 0, none⟩) ∧ b < w.heap.size ∧ w.cell? ⟨b, 0, none⟩ = some (.pointer none)

theorem NoM.below {w w' : World} {x : Value} (h : NoM w x) (hb : Below w.heap.size w w') : NoM w' x := by
  rcases h with h | ⟨b, h1, h2, h3⟩
  · exact .inl h
  · exact .inr ⟨b, h1, Nat.lt_of_lt_of_le h2 hb.size, by rw [below_cellJ hb h2]; exact h3⟩

theorem eq_nilM (a : Addr) (w : World) : (binOp .eql 26 (.pointer none) (.pointer (some a))).run Tryz.prog w = .ok (.bool false) w := by
  simp only [binOp]
  simp only [Op.equal, Op.maxDepth]
  rw [show (10000 : Nat) = 9999 + 1 from rfl, Op.equalIn]
  simp [Sem.run_bind, run_underlying Tryz.underlying26]

set_option maxHeartbeats 1000000 in
set_option maxRecDepth 100000 in
theorem mmade_no (x : Value) (w : World) (h : NoM w x) : Calls Tryz.prog 67 #[x] w fun e w' => e = .returned (.bool false) ∧ w = w' := by
  rcases h with rfl | ⟨b, rfl, hb, hc⟩
  · go_enter Tryz.func67, Tryz.ntmps67
    go_wp2_with fail
    go_ret
    exact ⟨rfl, rfl⟩
  · have heq := eq_nilM ⟨b, 0, none⟩ w
    go_enter Tryz.func67, Tryz.ntmps67
    go_wp2_with fail
    go_ret
    exact ⟨rfl, rfl⟩

set_option maxHeartbeats 1000000 in
set_option maxRecDepth 100000 in
theorem mlen_no (x : Value) (w : World) (h : NoM w x) : Calls Tryz.prog 24 #[x] w fun e w' => e = .returned (.int .i64 0) ∧ w = w' := by
  have HX : Hid (NoM w x) := h
  clear h
  go_enter Tryz.func24, Tryz.ntmps24
  go_wp2_with (go_at_call 67; refine (mmade_no _ _ HX.out).mono ?_; rintro e w1 ⟨rfl, rfl⟩)
  go_ret
  exact ⟨rfl, rfl⟩

set_option maxHeartbeats 1000000 in
set_option maxRecDepth 100000 in
theorem mcheck_no (x : Value) (i : Int) (w : World) (h : NoM w x) : Calls Tryz.prog 108 #[x, .int .i64 i] w fun e w' => e = .returned (.int .i64 1) ∧ w = w' := by
  have HX : Hid (NoM w x) := h
  clear h
  go_enter Tryz.func108, Tryz.ntmps108
  go_wp2_with (go_at_call 67; refine (mmade_no _ _ HX.out).mono ?_; rintro e w1 ⟨rfl, rfl⟩)
  go_ret
  exact ⟨rfl, rfl⟩

set_option maxHeartbeats 1000000 in
set_option maxRecDepth 100000 in
theorem mProduct_no (x : Value) (i j : Int) (w : World) (h : NoM w x) : Calls Tryz.prog 72 #[x, .int .i64 i, .int .i64 j] w fun e w' => e = .returned (.tuple #[.int .i64 0, .int .i64 1]) ∧ w = w' := by
  have HX : Hid (NoM w x) := h
  clear h
  go_enter Tryz.func72, Tryz.ntmps72
  go_wp2_with (go_at_call 108; refine (mcheck_no _ _ _ HX.out).mono ?_; rintro e w1 ⟨rfl, rfl⟩)
  go_ret2
  exact ⟨rfl, rfl⟩

set_option maxHeartbeats 1000000 in
set_option maxRecDepth 100000 in
theorem mPower_no (x : Value) (i k : Int) (w : World) (h : NoM w x) : Calls Tryz.prog 71 #[x, .int .i64 i, .int .u64 k] w fun e w' => e = .returned (.tuple #[.int .i64 0, .int .i64 1]) ∧ w = w' := by
  have HX : Hid (NoM w x) := h
  clear h
  go_enter Tryz.func71, Tryz.ntmps71
  go_wp2_with (go_at_call 108; refine (mcheck_no _ _ _ HX.out).mono ?_; rintro e w1 ⟨rfl, rfl⟩)
  go_ret2
  exact ⟨rfl, rfl⟩

end Go.Proofs.YtlohfeogaalfcaaGreat

namespace Go.Proofs.YtlohfeogaalfcaaGreat
open Go Go.RowKit Go.Lib Go.Maps
set_option linter.unusedVariables false
attribute [-instance] List.instBEq instBEqProd

theorem drew_twiceE (w : World) (q n : Nat) : (w.drewN q).drewN n = w.drewN (q + n) := by simp [World.drewN, Nat.add_assoc]

theorem drewN_belowE (w : World) (q : Nat) : Below w.heap.size w (w.drewN q) := ⟨rfl, rfl, rfl, Nat.le_refl _, fun _ _ => rfl⟩

set_option maxHeartbeats 1000000 in
set_option maxRecDepth 100000 in
theorem isame_any (a1 a2 : Option Addr) (c1 c2 : Nat) (xs : List Int) (w : World) (g1 : SR w a1 (zC xs)) (g2 : SR w a2 (zC xs)) (hm1 : xs.length ≤ 9223372036854775806) :
    Calls Tryz.prog 12 #[.slice a1 xs.length c1, .slice a2 xs.length c2] w fun e w' => e = .returned (.bool true) ∧ Below w.heap.size w w' := by
  have H1 : Hid (SR w a1 (zC xs)) := g1
  have H2 : Hid (SR w a2 (zC xs)) := g2
  clear g1 g2
  go_enter Tryz.func12, Tryz.ntmps12
  go_wp2_with fail
  go_loopw [5] (fun vi wr => ∃ i q : Nat, vi = .int .i64 i ∧ i ≤ xs.length ∧ wr = w.drewN q) (fun vi _ => xs.length - (Go.Lib.intOf vi).toNat)
  case atStart => exact ⟨0, 0, rfl, Nat.zero_le _, rfl⟩
  case round =>
    obtain ⟨i, q, rfl, hi, rfl⟩ := hrel
    by_cases hlt : i < xs.length
    · obtain ⟨ga, oa, rfl, _, ca⟩ := H1.out.int hlt
      obtain ⟨gb, ob, rfl, _, cb⟩ := H2.out.int hlt
      obtain ⟨x, hx⟩ : ∃ x, xs.getD i 0 = x := ⟨_, rfl⟩
      rw [hx] at ca cb
      clear hx
      go_wp2_with fail
      go_quiet (fail)
      go_wp2
      go_roundw
      case rel => exact ⟨i + 1, _, by go_num, by omega, rfl⟩
      case measure => simp [Go.Lib.intOf]; omega
    · have hiI : ¬ (i : Int) < xs.length := by omega
      go_wp2_with fail
      go_ret
      exact ⟨rfl, drewN_belowE w q⟩

set_option maxHeartbeats 1000000 in
set_option maxRecDepth 100000 in
theorem icheck_no (p : Option Addr) (a : Option Addr) (n c : Nat) (w : World) (h : NoM w (.pointer p)) : Calls Tryz.prog 68 #[.pointer p, .slice a n c] w fun e w' => e = .returned (.int .i64 1) ∧ w = w' := by
  have HX : Hid (NoM w (.pointer p)) := h
  clear h
  go_enter Tryz.func68, Tryz.ntmps68
  go_wp2_with fail
  refine (mlen_no _ _ HX.out).mono ?_
  rintro e w1 ⟨rfl, rfl⟩
  go_wp2_with fail
  go_ret
  exact ⟨rfl, rfl⟩

set_option maxHeartbeats 1000000 in
set_option maxRecDepth 100000 in
theorem icheckI_no (p : Option Addr) (a : Option Addr) (n c : Nat) (w : World) (h : NoM w (.pointer p)) : Calls Tryz.prog 111 #[.pointer p, .slice a n c] w fun e w' => e = .returned (.int .i64 1) ∧ w = w' := by
  have HX : Hid (NoM w (.pointer p)) := h
  clear h
  go_enter Tryz.func111, Tryz.ntmps111
  go_wp2_with fail
  refine (icheck_no _ _ _ _ _ HX.out).mono ?_
  rintro e w1 ⟨rfl, rfl⟩
  go_wp2_with fail
  go_ret
  exact ⟨rfl, rfl⟩

set_option maxHeartbeats 1000000 in
set_option maxRecDepth 100000 in
theorem iIdempotent_no (p : Option Addr) (w : World) (h : NoM w (.pointer p)) : Calls Tryz.prog 26 #[.pointer p, .int .i64 0] w fun e w' => e = .returned (.tuple #[.bool false, .int .i64 1]) ∧ Below w.heap.size w w' := by
  have HB : Hid (Below w.heap.size w (w.alloc (.cells #[.int .i64 0] 3))) := (go_on (Below.refl _ _) (below_new _ _))
  have HX : Hid (NoM (w.alloc (.cells #[.int .i64 0] 3)) (.pointer p)) := h.below HB.out
  clear h
  go_enter Tryz.func26, Tryz.ntmps26
  go_wp2_with fail
  refine (icheck_no _ _ _ _ _ HX.out).mono ?_
  rintro e w1 ⟨rfl, rfl⟩
  go_wp2_with fail
  go_ret2
  exact ⟨rfl, HB.out⟩

set_option maxHeartbeats 1000000 in
set_option maxRecDepth 100000 in
theorem iList_no (p : Option Addr) (w : World) (h : NoM w (.pointer p)) : Calls Tryz.prog 31 #[.pointer p] w fun e w' => e = .returned (.tuple #[.slice none 0 0, .int .i64 1]) ∧ Below w.heap.size w w' := by
  have HB : Hid (Below w.heap.size w (w.alloc (.cells #[.pointer p] 26))) := (go_on (Below.refl _ _) (below_new _ _))
  have HX : Hid (NoM (w.alloc (.cells #[.pointer p] 26)) (.pointer p)) := h.below HB.out
  clear h
  go_enter Tryz.func31, Tryz.ntmps31
  go_wp2_with fail
  refine (icheck_no _ _ _ _ _ HX.out).mono ?_
  rintro e w1 ⟨rfl, rfl⟩
  go_wp2_with fail
  go_ret2
  exact ⟨rfl, HB.out⟩

set_option maxHeartbeats 1000000 in
set_option maxRecDepth 100000 in
theorem iOmega_no (p : Option Addr) (w : World) (h : NoM w (.pointer p)) : Calls Tryz.prog 79 #[.pointer p, .int .i64 0] w fun e w' => e = .returned (.tuple #[.int .i64 0, .int .i64 1]) ∧ Below w.heap.size w w' := by
  have HB : Hid (Below w.heap.size w ((w.alloc (.cells #[.pointer p] 26)).alloc (.cells #[.int .i64 0] 3))) := (go_on ((go_on (Below.refl _ _) (below_new _ _))) (below_new _ _))
  have HX : Hid (NoM ((w.alloc (.cells #[.pointer p] 26)).alloc (.cells #[.int .i64 0] 3)) (.pointer p)) := h.below HB.out
  clear h
  go_enter Tryz.func79, Tryz.ntmps79
  go_wp2_with fail
  refine (icheck_no _ _ _ _ _ HX.out).mono ?_
  rintro e w1 ⟨rfl, rfl⟩
  go_wp2_with fail
  go_ret2
  exact ⟨rfl, HB.out⟩

set_option maxHeartbeats 1000000 in
set_option maxRecDepth 100000 in
theorem iCycle_no (p : Option Addr) (w : World) (h : NoM w (.pointer p)) : Calls Tryz.prog 70 #[.pointer p, .int .i64 0] w fun e w' => e = .returned (.tuple #[.int .i64 0, .int .i64 0, .int .i64 1]) ∧ Below w.heap.size w w' := by
  have HB : Hid (Below w.heap.size w (w.alloc (.cells #[.int .i64 0] 3))) := (go_on (Below.refl _ _) (below_new _ _))
  have HX : Hid (NoM (w.alloc (.cells #[.int .i64 0] 3)) (.pointer p)) := h.below HB.out
  clear h
  go_enter Tryz.func70, Tryz.ntmps70
  go_wp2_with fail
  refine (icheck_no _ _ _ _ _ HX.out).mono ?_
  rintro e w1 ⟨rfl, rfl⟩
  go_wp2_with fail
  go_ret3
  exact ⟨rfl, HB.out⟩

set_option maxHeartbeats 1000000 in
set_option maxRecDepth 100000 in
theorem iBetween_no (p : Option Addr) (w : World) (h : NoM w (.pointer p)) : Calls Tryz.prog 76 #[.pointer p, .int .i64 0] w fun e w' => e = .returned (.tuple #[.slice none 0 0, .int .i64 1]) ∧ Below w.heap.size w w' := by
  have HB : Hid (Below w.heap.size w (((w.alloc (.cells #[.pointer p] 26)).alloc (.cells #[.int .i64 0] 3)).alloc (.cells #[.int .i64 0] 3))) := (go_on ((go_on ((go_on (Below.refl _ _) (below_new _ _))) (below_new _ _))) (below_new _ _))
  have HX : Hid (NoM (((w.alloc (.cells #[.pointer p] 26)).alloc (.cells #[.int .i64 0] 3)).alloc (.cells #[.int .i64 0] 3)) (.pointer p)) := h.below HB.out
  clear h
  go_enter Tryz.func76, Tryz.ntmps76
  go_wp2_with fail
  refine (icheckI_no _ _ _ _ _ HX.out).mono ?_
  rintro e w1 ⟨rfl, rfl⟩
  go_wp2_with fail
  go_ret2
  exact ⟨rfl, HB.out⟩

end Go.Proofs.YtlohfeogaalfcaaGreat

namespace Go.Proofs.YtlohfeogaalfcaaGreat
open Go Go.RowKit Go.Lib Go.Maps
set_option linter.unusedVariables false
attribute [-instance] List.instBEq instBEqProd

set_option maxHeartbeats 1000000 in
set_option maxRecDepth 100000 in
theorem iIdempotent_nay (p : Option Addr) (i : Int) (w : World) (h : NoM w (.pointer p)) : Calls Tryz.prog 26 #[.pointer p, .int .i64 i] w fun e w' => e = .returned (.tuple #[.bool false, .int .i64 1]) ∧ Below w.heap.size w w' := by
  have HB : Hid (Below w.heap.size w (w.alloc (.cells #[.int .i64 i] 3))) := (go_on (Below.refl _ _) (below_new _ _))
  have HX : Hid (NoM (w.alloc (.cells #[.int .i64 i] 3)) (.pointer p)) := h.below HB.out
  clear h
  go_enter Tryz.func26, Tryz.ntmps26
  go_wp2_with fail
  refine (icheck_no _ _ _ _ _ HX.out).mono ?_
  rintro e w1 ⟨rfl, rfl⟩
  go_wp2_with fail
  go_ret2
  exact ⟨rfl, HB.out⟩

set_option maxHeartbeats 1000000 in
set_option maxRecDepth 100000 in
theorem of_none (p : Option Addr) (i : Int) (w : World) (h : NoM w (.pointer p)) : Calls Tryz.prog 7 #[.pointer p, .int .i64 i] w fun e w' => e = .returned (.tuple #[.pointer none, .int .i64 1]) ∧ Below w.heap.size w w' := by
  have HI : Hid _ := iIdempotent_nay p i w h
  clear h
  go_enter Tryz.func7, Tryz.ntmps7
  go_wp2_with fail
  refine Calls.mono HI.out ?_
  rintro e w1 ⟨rfl, hb⟩
  have HB : Hid (Below w.heap.size w w1) := hb
  clear hb
  go_wp2_with fail
  go_ret2
  exact ⟨rfl, HB.out⟩

set_option maxHeartbeats 1000000 in
theorem num17_any (e : Int) (w : World) : Calls Tryz.prog 11 #[.int .i64 e] w fun en w' => en = .returned (.int .i64 e) ∧ w = w' := by
  go_enter Tryz.func11, Tryz.ntmps11
  go_wp2_with fail
  go_ret
  exact ⟨rfl, rfl⟩

theorem mod_in (n : Int) (L : Nat) (h : 0 < L) (hL : L ≤ 512) : ∃ (m : Int) (k : Nat), n.tmod (L : Int) = m ∧ -(L : Int) < m ∧ m < L ∧ (m + L).tmod (L : Int) = (k : Nat) ∧ k < L := by
  have h1 := Int.tmod_lt_of_pos n (b := (L : Int)) (by omega)
  have h2 : -(L : Int) < n.tmod (L : Int) := by
    have := Int.tmod_lt_of_pos (-n) (b := (L : Int)) (by omega)
    rw [Int.neg_tmod] at this
    omega
  obtain ⟨m, hm⟩ : ∃ m, n.tmod (L : Int) = m := ⟨_, rfl⟩
  rw [hm] at h1 h2
  have h3 : 0 ≤ (m + L).tmod (L : Int) := by rw [Int.tmod_eq_emod_of_nonneg (by omega)]; exact Int.emod_nonneg _ (by omega)
  have h4 := Int.tmod_lt_of_pos (m + L) (b := (L : Int)) (by omega)
  exact ⟨m, ((m + L).tmod (L : Int)).toNat, hm, h2, h1, by omega, by omega⟩

/-- What chosen answers. -/
def ChQ (K n : Nat) (N : List Nat) (w : World) (en : Ending) (w' : World) : Prop :=
  ∃ (x gb gm cm mb pb ib : Nat) (D : DataW Unit) (P I : List Nat) (tv : Value), x < n ∧ pr K N x x = x ∧ en = .returned (.tuple #[.pointer (some ⟨gb, 0, none⟩), .int .i64 (x : Nat), .bool true]) ∧ w.heap.size ≤ gb ∧ GX w' gb K N x (thL n (hcE K N x)) gm cm mb pb ib D P I tv ∧ Below w.heap.size w w'

end Go.Proofs.YtlohfeogaalfcaaGreat

namespace Go.Proofs.YtlohfeogaalfcaaGreat
open Go Go.RowKit Go.Lib Go.Maps
set_option linter.unusedVariables false
attribute [-instance] List.instBEq instBEqProd

/-- A member of the group at e. -/
structure Hm (K n : Nat) (N : List Nat) (e x : Nat) : Prop where
  lt : x < n
  el : pr K N e x = x
  er : pr K N x e = x
  om : OmQ K N x e

theorem hcE_iff {A : Aut} {M : List (List Nat)} {N : List Nat} (h : Mon A M N) {e x : Nat} (he : e < M.length) (hee : Go.Proofs.YtlohfeogaalfcaaGreat.pr A.k.toNat N e e = e) (hx : x < M.length) : hcE A.k.toNat N e x = true ↔ Hm A.k.toNat M.length N e x := by
  unfold hcE
  rw [Bool.and_eq_true]
  constructor
  · rintro ⟨hb, ho⟩
    have hb2 : Go.Proofs.YtlohfeogaalfcaaGreat.pr A.k.toNat N (Go.Proofs.YtlohfeogaalfcaaGreat.pr A.k.toNat N e x) e = x := by unfold btE at hb; exact of_decide_eq_true hb
    have ho2 : OmQ A.k.toNat N x e := by
      apply Classical.byContradiction
      intro q
      rw [omE_false q] at ho
      cases ho
    have hex := h.pr_lt he hx
    refine ⟨hx, ?_, ?_, ho2⟩
    · have : Go.Proofs.YtlohfeogaalfcaaGreat.pr A.k.toNat N e (Go.Proofs.YtlohfeogaalfcaaGreat.pr A.k.toNat N (Go.Proofs.YtlohfeogaalfcaaGreat.pr A.k.toNat N e x) e) = Go.Proofs.YtlohfeogaalfcaaGreat.pr A.k.toNat N (Go.Proofs.YtlohfeogaalfcaaGreat.pr A.k.toNat N e x) e := by
        rw [← h.assoc he hex he, ← h.assoc he he hx, hee]
      rwa [hb2] at this
    · have : Go.Proofs.YtlohfeogaalfcaaGreat.pr A.k.toNat N (Go.Proofs.YtlohfeogaalfcaaGreat.pr A.k.toNat N (Go.Proofs.YtlohfeogaalfcaaGreat.pr A.k.toNat N e x) e) e = Go.Proofs.YtlohfeogaalfcaaGreat.pr A.k.toNat N (Go.Proofs.YtlohfeogaalfcaaGreat.pr A.k.toNat N e x) e := by
        rw [h.assoc hex he he, hee]
      rwa [hb2] at this
  · intro q
    refine ⟨?_, omE_true q.om⟩
    unfold btE
    rw [q.el, q.er]
    exact decide_eq_true rfl

theorem Hm.one {A : Aut} {M : List (List Nat)} {N : List Nat} (h : Mon A M N) {e : Nat} (he : e < M.length) (hee : Go.Proofs.YtlohfeogaalfcaaGreat.pr A.k.toNat N e e = e) : Hm A.k.toNat M.length N e e :=
  ⟨he, hee, hee, 1, by omega, h.pw_one he, hee⟩

/-- The period of a member: its power is e. -/
theorem Hm.per {A : Aut} {M : List (List Nat)} {N : List Nat} (h : Mon A M N) {e x : Nat} (hee : Go.Proofs.YtlohfeogaalfcaaGreat.pr A.k.toNat N e e = e) (q : Hm A.k.toNat M.length N e x) {t r : Nat} (R : TR (rm A.k.toNat N x) 0 t r) : t ≤ 1 ∧ pwN A.k.toNat N x r = e := by
  obtain ⟨n, n1, hn, _⟩ := q.om
  have h1 : pwN A.k.toNat N x (1 + n) = pwN A.k.toNat N x 1 := by
    rw [h.pw_add q.lt, h.pw_one q.lt, hn, q.er]
  have h2 := (R.iff 1 n n1).1 h1
  refine ⟨h2.1, ?_⟩
  have hr := R.pos
  have h3 := (h.idem_iff q.lt R r hr).2 ⟨by omega, Nat.dvd_refl _⟩
  exact h.om_uniq q.lt ⟨r, hr, rfl, h3⟩ q.om

theorem Hm.pw {A : Aut} {M : List (List Nat)} {N : List Nat} (h : Mon A M N) {e x : Nat} (he : e < M.length) (hee : Go.Proofs.YtlohfeogaalfcaaGreat.pr A.k.toNat N e e = e) (q : Hm A.k.toNat M.length N e x) (m : Nat) (hm : 1 ≤ m) : Hm A.k.toNat M.length N e (pwN A.k.toNat N x m) := by
  obtain ⟨k, rfl⟩ : ∃ k, m = 1 + k := ⟨m - 1, by omega⟩
  obtain ⟨n, n1, hn, _⟩ := q.om
  refine ⟨h.pw_lt q.lt _, ?_, ?_, n, n1, ?_, hee⟩
  · rw [h.pw_add q.lt, h.pw_one q.lt, ← h.assoc he q.lt (h.pw_lt q.lt k), q.el]
  · rw [Nat.add_comm, h.pw_add q.lt, h.pw_one q.lt, h.assoc (h.pw_lt q.lt k) q.lt he, q.er]
  · rw [h.pw_mul q.lt, Nat.mul_comm, ← h.pw_mul q.lt, hn, h.pw_idem he hee _ (by omega)]

/-- A member's inverse. -/
theorem Hm.inv {A : Aut} {M : List (List Nat)} {N : List Nat} (h : Mon A M N) {e x : Nat} (he : e < M.length) (hee : Go.Proofs.YtlohfeogaalfcaaGreat.pr A.k.toNat N e e = e) (q : Hm A.k.toNat M.length N e x) {t r : Nat} (R : TR (rm A.k.toNat N x) 0 t r) :
    Hm A.k.toNat M.length N e (pwN A.k.toNat N x (2 * r - 1)) ∧ Go.Proofs.YtlohfeogaalfcaaGreat.pr A.k.toNat N x (pwN A.k.toNat N x (2 * r - 1)) = e ∧ Go.Proofs.YtlohfeogaalfcaaGreat.pr A.k.toNat N (pwN A.k.toNat N x (2 * r - 1)) x = e := by
  have hr := R.pos
  obtain ⟨_, hp⟩ := q.per h hee R
  have e2 : pwN A.k.toNat N x (2 * r) = e := by rw [show 2 * r = r + r by omega, h.pw_add q.lt, hp, hee]
  refine ⟨q.pw h he hee _ (by omega), ?_, ?_⟩
  · have := h.pw_add q.lt 1 (2 * r - 1)
    rw [show 1 + (2 * r - 1) = 2 * r by omega, h.pw_one q.lt, e2] at this
    exact this.symm
  · have := h.pw_add q.lt (2 * r - 1) 1
    rw [show 2 * r - 1 + 1 = 2 * r by omega, h.pw_one q.lt, e2] at this
    exact this.symm

theorem Hm.has_inv {A : Aut} {M : List (List Nat)} {N : List Nat} (h : Mon A M N) {e x : Nat} (he : e < M.length) (hee : Go.Proofs.YtlohfeogaalfcaaGreat.pr A.k.toNat N e e = e) (q : Hm A.k.toNat M.length N e x) : ∃ y, Hm A.k.toNat M.length N e y ∧ Go.Proofs.YtlohfeogaalfcaaGreat.pr A.k.toNat N x y = e ∧ Go.Proofs.YtlohfeogaalfcaaGreat.pr A.k.toNat N y x = e := by
  obtain ⟨t, r, R⟩ := tr_ex (h.rm_lt q.lt) h.pos
  exact ⟨_, q.inv h he hee R⟩

/-- Only one. -/
theorem Hm.inv_uniq {A : Aut} {M : List (List Nat)} {N : List Nat} (h : Mon A M N) {e x y z : Nat} (he : e < M.length) (hee : Go.Proofs.YtlohfeogaalfcaaGreat.pr A.k.toNat N e e = e) (q : Hm A.k.toNat M.length N e x) (qy : Hm A.k.toNat M.length N e y) (qz : Hm A.k.toNat M.length N e z) (hy : Go.Proofs.YtlohfeogaalfcaaGreat.pr A.k.toNat N x y = e) (hz : Go.Proofs.YtlohfeogaalfcaaGreat.pr A.k.toNat N x z = e) : y = z := by
  obtain ⟨v, qv, _, hv⟩ := q.has_inv h he hee
  have ky : y = v := by rw [← qy.el, ← hv, h.assoc qv.lt q.lt qy.lt, hy, qv.er]
  have kz : z = v := by rw [← qz.el, ← hv, h.assoc qv.lt q.lt qz.lt, hz, qv.er]
  rw [ky, kz]

theorem Hm.mul {A : Aut} {M : List (List Nat)} {N : List Nat} (h : Mon A M N) {e x y : Nat} (he : e < M.length) (hee : Go.Proofs.YtlohfeogaalfcaaGreat.pr A.k.toNat N e e = e) (qx : Hm A.k.toNat M.length N e x) (qy : Hm A.k.toNat M.length N e y) : Hm A.k.toNat M.length N e (Go.Proofs.YtlohfeogaalfcaaGreat.pr A.k.toNat N x y) := by
  have hl := h.pr_lt qx.lt qy.lt
  have e1 : Go.Proofs.YtlohfeogaalfcaaGreat.pr A.k.toNat N e (Go.Proofs.YtlohfeogaalfcaaGreat.pr A.k.toNat N x y) = Go.Proofs.YtlohfeogaalfcaaGreat.pr A.k.toNat N x y := by rw [← h.assoc he qx.lt qy.lt, qx.el]
  have e2 : Go.Proofs.YtlohfeogaalfcaaGreat.pr A.k.toNat N (Go.Proofs.YtlohfeogaalfcaaGreat.pr A.k.toNat N x y) e = Go.Proofs.YtlohfeogaalfcaaGreat.pr A.k.toNat N x y := by rw [h.assoc qx.lt qy.lt he, qy.er]
  obtain ⟨x', qx', hx1, hx2⟩ := qx.has_inv h he hee
  obtain ⟨y', qy', hy1, hy2⟩ := qy.has_inv h he hee
  -- powers of the product can be undone
  have undo : ∀ k, ∃ v, v < M.length ∧ Go.Proofs.YtlohfeogaalfcaaGreat.pr A.k.toNat N v (pwN A.k.toNat N (Go.Proofs.YtlohfeogaalfcaaGreat.pr A.k.toNat N x y) (k + 1)) = e := by
    have hz : ∃ z, z < M.length ∧ Go.Proofs.YtlohfeogaalfcaaGreat.pr A.k.toNat N z (Go.Proofs.YtlohfeogaalfcaaGreat.pr A.k.toNat N x y) = e := by
      refine ⟨Go.Proofs.YtlohfeogaalfcaaGreat.pr A.k.toNat N y' x', h.pr_lt qy'.lt qx'.lt, ?_⟩
      rw [h.assoc qy'.lt qx'.lt hl, ← h.assoc qx'.lt qx.lt qy.lt, hx2, qy.el, hy2]
    obtain ⟨z, hz1, hz2⟩ := hz
    intro k
    induction k with
    | zero => exact ⟨z, hz1, by rw [h.pw_one hl]; exact hz2⟩
    | succ k ih =>
      obtain ⟨v, hv, hv2⟩ := ih
      refine ⟨Go.Proofs.YtlohfeogaalfcaaGreat.pr A.k.toNat N z v, h.pr_lt hz1 hv, ?_⟩
      rw [pwN_succ, h.assoc hz1 hv (h.pr_lt (h.pw_lt hl _) hl), ← h.assoc hv (h.pw_lt hl _) hl, hv2, e1, hz2]
  obtain ⟨n, n1, _, hn⟩ := h.om_ex hl
  obtain ⟨k, rfl⟩ : ∃ k, n = k + 1 := ⟨n - 1, by omega⟩
  obtain ⟨v, hv, hv2⟩ := undo k
  refine ⟨hl, e1, e2, k + 1, n1, ?_, hee⟩
  have hf := h.pw_lt hl (k + 1)
  have hef : Go.Proofs.YtlohfeogaalfcaaGreat.pr A.k.toNat N e (pwN A.k.toNat N (Go.Proofs.YtlohfeogaalfcaaGreat.pr A.k.toNat N x y) (k + 1)) = pwN A.k.toNat N (Go.Proofs.YtlohfeogaalfcaaGreat.pr A.k.toNat N x y) (k + 1) := by
    rw [show k + 1 = 1 + k by omega, h.pw_add hl, h.pw_one hl, ← h.assoc he hl (h.pw_lt hl k), e1]
  have := congrArg (Go.Proofs.YtlohfeogaalfcaaGreat.pr A.k.toNat N v) hn
  rw [← h.assoc hv hf hf, hv2, hef] at this
  exact this
end Go.Proofs.YtlohfeogaalfcaaGreat

namespace Go.Proofs.YtlohfeogaalfcaaGreat
open Go Go.RowKit Go.Lib Go.Maps
set_option linter.unusedVariables false
attribute [-instance] List.instBEq instBEqProd

/-- An even number of letters. -/
def eA : Aut := ⟨1, [1, 0], [true, false]⟩

theorem eA_good : Good eA := by
  refine ⟨by decide, by decide, by decide, by decide, by decide, ?_, ?_⟩
  · decide
  · decide

def eM : List (List Nat) := [[0, 1], [1, 0]]

def eN : List Nat := [1, 0]

theorem eA_el : mEl eA = some (eM, eN) := by decide +kernel

theorem eA_mon : Mon eA eM eN := mon_of eA_good (by decide) eA_el

theorem eA_one : Hm 1 2 eN 0 1 := ⟨by decide, by decide +kernel, by decide +kernel, 2, by decide, by decide +kernel, by decide +kernel⟩

theorem eA_list : thL 2 (hcE 1 eN 0) = [0, 1] := by
  have h0 : hcE 1 eN 0 0 = true := (hcE_iff eA_mon (e := 0) (x := 0) (by decide) (by decide +kernel) (by decide)).2 (Hm.one eA_mon (by decide) (by decide +kernel))
  have h1 : hcE 1 eN 0 1 = true := (hcE_iff eA_mon (e := 0) (x := 1) (by decide) (by decide +kernel) (by decide)).2 eA_one
  have e : List.range 2 = [0, 1] := by decide
  unfold thL
  rw [e, List.filter_cons_of_pos h0, List.filter_cons_of_pos h1]
  rfl

theorem eA_per : TR (rm 1 eN 1) 0 0 2 := ⟨fun a b h1 h2 => by
  obtain rfl : a = 0 := by omega
  obtain rfl : b = 1 := by omega
  decide +kernel, by decide +kernel, by decide⟩

theorem eA_cyc {P I : List Nat} (h : ∀ j, j < 2 → PIk 1 eN [0, 1] P I j) (hl : P.length = 2) : decide (2 ∈ P) = true := by
  obtain ⟨⟨t, q⟩, _⟩ := h 1 (by decide)
  have q2 : TR (rm 1 eN 1) 0 t (P.getD 1 0) := q
  have e := (eA_per.uniq q2).2
  rw [e]
  refine decide_eq_true ?_
  rw [List.getD_eq_getElem?_getD, List.getElem?_eq_getElem (by omega)]
  exact List.getElem_mem _

set_option maxHeartbeats 1000000 in
set_option maxRecDepth 100000 in
theorem even_any (w : World) : Calls Tryz.prog 59 #[] w fun e w' => ∃ v, e = .returned v ∧ AR w' v eA ∧ Below w.heap.size w w' := by
  obtain ⟨w3, hw3⟩ : ∃ w3, w3 = (((w.alloc (.cells #[.int .i64 1, .slice (some ⟨w.heap.size + 1, 0, none⟩) 2 2, .slice (some ⟨w.heap.size + 1 + 1, 0, none⟩) 2 2] 25)).alloc (.cells #[.int .i64 1, .int .i64 0] 3)).alloc (.cells #[.bool true, .bool false] 4)) := ⟨_, rfl⟩
  have HW3 : Hid (w3 = (((w.alloc (.cells #[.int .i64 1, .slice (some ⟨w.heap.size + 1, 0, none⟩) 2 2, .slice (some ⟨w.heap.size + 1 + 1, 0, none⟩) 2 2] 25)).alloc (.cells #[.int .i64 1, .int .i64 0] 3)).alloc (.cells #[.bool true, .bool false] 4))) := hw3
  have H0 : Hid (w3.heap[w.heap.size]? = some (.cells #[.int .i64 1, .slice (some ⟨w.heap.size + 1, 0, none⟩) 2 2, .slice (some ⟨w.heap.size + 1 + 1, 0, none⟩) 2 2] 25 (0, 0))) := by
    show _ = _
    rw [hw3, heap_allo (by simp; omega), heap_allo (by simp)]
    exact heap_last _ _
  have H1 : Hid (w3.heap[w.heap.size + 1]? = some (.cells #[.int .i64 1, .int .i64 0] 3 (0, 0))) := by
    show _ = _
    rw [hw3, heap_allo (by simp)]
    have := heap_last (w.alloc (.cells #[.int .i64 1, .slice (some ⟨w.heap.size + 1, 0, none⟩) 2 2, .slice (some ⟨w.heap.size + 1 + 1, 0, none⟩) 2 2] 25)) (.cells #[.int .i64 1, .int .i64 0] 3)
    rwa [World.size_alloc] at this
  have H2 : Hid (w3.heap[w.heap.size + 1 + 1]? = some (.cells #[.bool true, .bool false] 4 (0, 0))) := by
    show _ = _
    rw [hw3]
    have := heap_last ((w.alloc (.cells #[.int .i64 1, .slice (some ⟨w.heap.size + 1, 0, none⟩) 2 2, .slice (some ⟨w.heap.size + 1 + 1, 0, none⟩) 2 2] 25)).alloc (.cells #[.int .i64 1, .int .i64 0] 3)) (.cells #[.bool true, .bool false] 4)
    rwa [World.size_alloc, World.size_alloc] at this
  have HB : Hid (Below w.heap.size w w3) := by show Below _ _ _; rw [hw3]; exact go_on (go_on (below_new _ _) (below_new _ _)) (below_new _ _)
  clear hw3
  go_enter Tryz.func59, Tryz.ntmps59
  go_wp2_with fail
  rw [← HW3.out]
  refine bodyPost_ret (results_cell_row rfl _ _ w.heap.size 25 _ (0, 0) _ rfl H0.out Tryz.underlying25 rfl (by rw [Tryz.info_au]; rfl)) rfl ⟨_, rfl, ⟨_, _, _, _, rfl, ?_, ?_⟩, HB.out⟩
  · intro j u hj
    refine ⟨_, _, rfl, (Array.getElem?_eq_some_iff.1 H1.out).1, ?_⟩
    rw [Nat.zero_add, cell_of_row _ _ _ _ _ _ H1.out]
    rw [← hj]
    simp [eA, zC]
  · intro j u hj
    refine ⟨_, _, rfl, (Array.getElem?_eq_some_iff.1 H2.out).1, ?_⟩
    rw [Nat.zero_add, cell_of_row _ _ _ _ _ _ H2.out]
    rw [← hj]
    simp [eA, bC]

/-- The group of two lies in memory. -/
theorem gx_even {w : World} {gb gm cm mb pb ib : Nat} {D : DataW Unit} {P I : List Nat} {tv : Value} (h : GX w gb 1 eN 0 (thL 2 (hcE 1 eN 0)) gm cm mb pb ib D P I tv) : GX w gb 1 eN 0 [0, 1] gm cm mb pb ib D P I tv := by
  rw [eA_list] at h
  exact h
end Go.Proofs.YtlohfeogaalfcaaGreat

namespace Go.Proofs.YtlohfeogaalfcaaGreat
open Go Go.RowKit Go.Lib Go.Maps
set_option linter.unusedVariables false
attribute [-instance] List.instBEq instBEqProd

theorem eq_Gnil (a : Addr) (w : World) : (binOp .eql 30 (.pointer (some a)) (.pointer none)).run Tryz.prog w = .ok (.bool false) w := by
  simp only [binOp]
  simp only [Op.equal, Op.maxDepth]
  rw [show (10000 : Nat) = 9999 + 1 from rfl, Op.equalIn]
  simp [Sem.run_bind, run_underlying Tryz.underlying30]

set_option maxHeartbeats 4000000 in
set_option maxRecDepth 100000 in
theorem knows17_any (w : World) : Calls Tryz.prog 21 #[] w fun e w' => e = .returned (.bool true) ∧ Below w.heap.size w w' := by
  go_enter Tryz.func21, Tryz.ntmps21
  go_wp2_with fail
  refine (even_any w).mono ?_
  rintro e w1 ⟨v, rfl, hAR, hB1⟩
  have HB1 : Hid (Below w.heap.size w w1) := hB1
  have HAR : Hid (AR w1 v eA) := hAR
  clear hB1 hAR
  go_wp2_with fail
  refine (build_any v eA w1 HAR.out eA_good (by decide)).mono ?_
  rintro e w2 (⟨hno, _⟩ | ⟨ob, M, N, rfl, hE, hMO, hB2⟩)
  · rw [eA_el] at hno
    cases hno
  rw [eA_el] at hE
  simp only [Option.some.injEq, Prod.mk.injEq] at hE
  obtain ⟨rfl, rfl⟩ := hE
  have HM : Hid (MO w2 ob eA eM eN) := hMO
  have HB2 : Hid (Below w.heap.size w w2) := go_on HB1.out hB2
  clear hMO hB2
  have HOF : Hid _ := of_any HM.out 0
  go_wp2_with fail
  refine Calls.mono HOF.out ?_
  rintro en w3 ⟨hof, hb2⟩
  have HB3 : Hid (Below w.heap.size w w3) := go_on HB2.out hb2
  clear HOF
  rcases hof with ⟨_, _, gb, gm, cm, mb, pb, ib, D, P, I, tv, rfl, hgb, hgx⟩ | ⟨_, q, _⟩ | ⟨q, _⟩
  rotate_left
  · exact absurd q (by decide +kernel)
  · exact absurd (by decide +kernel) q
  have hgy : GX w3 gb 1 eN 0 [0, 1] gm cm mb pb ib D P I tv := gx_even hgx
  have HOD : Hid (∀ y, Below w3.heap.size w3 y → Calls Tryz.prog 37 #[.pointer (some ⟨gb, 0, none⟩)] y fun e w' => e = .returned (.int .i64 2) ∧ y = w') := fun y hy => gorder_any (hgy.below hy)
  have HCY : Hid (∀ y, Below w3.heap.size w3 y → Calls Tryz.prog 50 #[.pointer (some ⟨gb, 0, none⟩)] y fun e w' => e = .returned (.bool true) ∧ Below y.heap.size y w') := fun y hy => by
    have q := gcyclic_any (hgy.below hy) (by decide)
    rw [show decide (([0, 1] : List Nat).length ∈ P) = true from eA_cyc hgy.pi hgy.pl] at q
    exact q
  have HMB : Hid (∀ y, Below w3.heap.size w3 y → Calls Tryz.prog 15 #[.pointer (some ⟨gb, 0, none⟩)] y fun e w' => ∃ v, e = .returned v ∧ OwnN w' y.heap.size v [0, 1] ∧ Below y.heap.size y w') := fun y hy => gmembers_any (hgy.below hy) (by decide) (by decide)
  have hne := eq_Gnil ⟨gb, 0, none⟩
  clear hgx hgy hgb hb2 HB2 HB1 HAR HM
  have HB3' : Hid (Below w3.heap.size w3 w3) := Below.refl _ _
  go_wp2_with (first | (go_at_call 11; refine (num17_any _ _).mono ?_; rintro e yn ⟨rfl, hyn⟩; subst yn) | (go_at_call 37; refine Calls.mono (HOD.out _ HB3'.out) ?_; rintro en yn ⟨rfl, hyn⟩; subst yn) | (go_at_call 50; refine Calls.mono (HCY.out _ HB3'.out) ?_; rintro en yc ⟨rfl, hb⟩; have HBC : Hid (Below w3.heap.size w3 yc) := hb; clear hb) | (go_at_call 15; refine Calls.mono (HMB.out _ HBC.out) ?_; rintro en ym ⟨v, rfl, ho, hb⟩; obtain ⟨la, lc, rfl⟩ := own_shape ho; have HL : Hid (SR ym la (zC [0, 1])) := (by have q := own_sr ho; rw [nC_zC] at q; exact q); have HBM : Hid (Below w3.heap.size w3 ym) := go_on HBC.out hb; have HSM : Hid (Calls Tryz.prog 12 #[.slice la 2 lc, .slice (some ⟨ym.heap.size, 0, none⟩) 2 2] (ym.alloc (.cells #[.int .i64 0, .int .i64 1] 3)) fun e w' => e = .returned (.bool true) ∧ Below (ym.alloc (.cells #[.int .i64 0, .int .i64 1] 3)).heap.size (ym.alloc (.cells #[.int .i64 0, .int .i64 1] 3)) w') := isame_any la _ lc 2 [0, 1] _ (HL.out.stay (below_new _ _)) (sr_newZ ym [0, 1] 3) (by decide); clear hb ho) | (go_at_call 12; refine HSM.out.mono ?_; rintro e yz ⟨rfl, hb⟩; have HBZ : Hid (Below w3.heap.size w3 yz) := go_on (go_on HBM.out (below_new _ _)) hb; clear hb HSM))
  go_ret
  exact ⟨rfl, go_on HB3.out HBZ.out⟩
end Go.Proofs.YtlohfeogaalfcaaGreat

namespace Go.Proofs.YtlohfeogaalfcaaGreat
open Go Go.RowKit Go.Lib Go.Maps
set_option linter.unusedVariables false
attribute [-instance] List.instBEq instBEqProd

/-- No group: nil, or one that nobody made. -/
def NoG (w : World) (p : Value) : Prop := p = .pointer none ∨ ∃ b, p = .pointer (some ⟨b, 0, none⟩) ∧ w.heap[b]? = some (.cells #[.pointer none, .slice none 0 0, .map none, .slice none 0 0, .slice none 0 0, .int .i64 0, .slice none 0 0] 53 (0, 0))

theorem NoG.below {w w' : World} {p : Value} (h : NoG w p) (hb : Below w.heap.size w w') : NoG w' p := by
  rcases h with rfl | ⟨b, rfl, h⟩
  · exact .inl rfl
  · exact .inr ⟨b, rfl, (hb.block b (Array.getElem?_eq_some_iff.1 h).1).trans h⟩

theorem NoG.ptr {w : World} {p : Value} (h : NoG w p) : ∃ a, p = .pointer a := by
  rcases h with rfl | ⟨b, rfl, _⟩
  · exact ⟨_, rfl⟩
  · exact ⟨_, rfl⟩

theorem ne_ptrG (a : Addr) (w : World) : (binOp .eql 30 (.pointer none) (.pointer (some a))).run Tryz.prog w = .ok (.bool false) w := by
  simp only [binOp]
  simp only [Op.equal, Op.maxDepth]
  rw [show (10000 : Nat) = 9999 + 1 from rfl, Op.equalIn]
  simp [Sem.run_bind, run_underlying Tryz.underlying30, sameAddr]

set_option maxHeartbeats 1000000 in
set_option maxRecDepth 100000 in
theorem nog_made {w : World} {p : Value} (h : NoG w p) : Calls Tryz.prog 52 #[p] w fun e w' => e = .returned (.bool false) ∧ w = w' := by
  rcases h with rfl | ⟨b, rfl, h⟩
  · go_enter Tryz.func52, Tryz.ntmps52
    go_wp2_with fail
    go_ret
    exact ⟨rfl, rfl⟩
  · have h0 : w.cell? ⟨b, 0, none⟩ = some (.pointer none) := cell_at h rfl
    have he := ne_ptrG ⟨b, 0, none⟩ w
    clear h
    go_enter Tryz.func52, Tryz.ntmps52
    go_wp2_with fail
    go_ret
    exact ⟨rfl, rfl⟩

set_option maxHeartbeats 1000000 in
set_option maxRecDepth 100000 in
theorem nog_place {w : World} {p : Value} (h : NoG w p) (i : Int) : Calls Tryz.prog 80 #[p, .int .i64 i] w fun e w' => e = .returned (.tuple #[.int .i64 0, .int .i64 1]) ∧ w = w' := by
  have HG : Hid _ := nog_made h
  obtain ⟨a, rfl⟩ := h.ptr
  clear h
  go_enter Tryz.func80, Tryz.ntmps80
  go_wp2_with fail
  refine Calls.mono HG.out ?_
  rintro en w1 ⟨rfl, rfl⟩
  go_wp2_with fail
  go_ret2
  exact ⟨rfl, rfl⟩

set_option maxHeartbeats 1000000 in
set_option maxRecDepth 100000 in
theorem nog_order {w : World} {p : Value} (h : NoG w p) : Calls Tryz.prog 37 #[p] w fun e w' => e = .returned (.int .i64 0) ∧ w = w' := by
  have HG : Hid _ := nog_made h
  obtain ⟨a, rfl⟩ := h.ptr
  clear h
  go_enter Tryz.func37, Tryz.ntmps37
  go_wp2_with fail
  refine Calls.mono HG.out ?_
  rintro en w1 ⟨rfl, rfl⟩
  go_wp2_with fail
  go_ret
  exact ⟨rfl, rfl⟩

set_option maxHeartbeats 1000000 in
set_option maxRecDepth 100000 in
theorem nog_members {w : World} {p : Value} (h : NoG w p) : Calls Tryz.prog 15 #[p] w fun e w' => e = .returned (.slice none 0 0) ∧ w = w' := by
  have HG : Hid _ := nog_made h
  obtain ⟨a, rfl⟩ := h.ptr
  clear h
  go_enter Tryz.func15, Tryz.ntmps15
  go_wp2_with fail
  refine Calls.mono HG.out ?_
  rintro en w1 ⟨rfl, rfl⟩
  go_wp2_with fail
  go_ret
  exact ⟨rfl, rfl⟩

set_option maxHeartbeats 1000000 in
set_option maxRecDepth 100000 in
theorem nog_has {w : World} {p : Value} (h : NoG w p) (i : Int) : Calls Tryz.prog 39 #[p, .int .i64 i] w fun e w' => e = .returned (.bool false) ∧ w = w' := by
  have HG : Hid _ := nog_place h i
  obtain ⟨a, rfl⟩ := h.ptr
  clear h
  go_enter Tryz.func39, Tryz.ntmps39
  go_wp2_with fail
  refine Calls.mono HG.out ?_
  rintro en w1 ⟨rfl, rfl⟩
  go_wp2_with fail
  go_ret
  exact ⟨rfl, rfl⟩

set_option maxHeartbeats 1000000 in
set_option maxRecDepth 100000 in
theorem nog_inverse {w : World} {p : Value} (h : NoG w p) (i : Int) : Calls Tryz.prog 33 #[p, .int .i64 i] w fun e w' => e = .returned (.tuple #[.int .i64 0, .int .i64 1]) ∧ w = w' := by
  have HG : Hid _ := nog_place h i
  obtain ⟨a, rfl⟩ := h.ptr
  clear h
  go_enter Tryz.func33, Tryz.ntmps33
  go_wp2_with fail
  refine Calls.mono HG.out ?_
  rintro en w1 ⟨rfl, rfl⟩
  go_wp2_with fail
  go_ret2
  exact ⟨rfl, rfl⟩

set_option maxHeartbeats 1000000 in
set_option maxRecDepth 100000 in
theorem nog_period {w : World} {p : Value} (h : NoG w p) (i : Int) : Calls Tryz.prog 34 #[p, .int .i64 i] w fun e w' => e = .returned (.tuple #[.int .i64 0, .int .i64 1]) ∧ w = w' := by
  have HG : Hid _ := nog_place h i
  obtain ⟨a, rfl⟩ := h.ptr
  clear h
  go_enter Tryz.func34, Tryz.ntmps34
  go_wp2_with fail
  refine Calls.mono HG.out ?_
  rintro en w1 ⟨rfl, rfl⟩
  go_wp2_with fail
  go_ret2
  exact ⟨rfl, rfl⟩

set_option maxHeartbeats 1000000 in
set_option maxRecDepth 100000 in
theorem nog_exponent {w : World} {p : Value} (h : NoG w p) : Calls Tryz.prog 41 #[p] w fun e w' => e = .returned (.int .i64 0) ∧ w = w' := by
  have HG : Hid _ := nog_made h
  obtain ⟨a, rfl⟩ := h.ptr
  clear h
  go_enter Tryz.func41, Tryz.ntmps41
  go_wp2_with fail
  refine Calls.mono HG.out ?_
  rintro en w1 ⟨rfl, rfl⟩
  go_wp2_with fail
  go_ret
  exact ⟨rfl, rfl⟩

set_option maxHeartbeats 1000000 in
set_option maxRecDepth 100000 in
theorem nog_profile {w : World} {p : Value} (h : NoG w p) : Calls Tryz.prog 44 #[p] w fun e w' => e = .returned (.slice none 0 0) ∧ w = w' := by
  have HG : Hid _ := nog_made h
  obtain ⟨a, rfl⟩ := h.ptr
  clear h
  go_enter Tryz.func44, Tryz.ntmps44
  go_wp2_with fail
  refine Calls.mono HG.out ?_
  rintro en w1 ⟨rfl, rfl⟩
  go_wp2_with fail
  go_ret
  exact ⟨rfl, rfl⟩

set_option maxHeartbeats 1000000 in
set_option maxRecDepth 100000 in
theorem nog_center {w : World} {p : Value} (h : NoG w p) : Calls Tryz.prog 16 #[p] w fun e w' => e = .returned (.slice none 0 0) ∧ w = w' := by
  have HG : Hid _ := nog_made h
  obtain ⟨a, rfl⟩ := h.ptr
  clear h
  go_enter Tryz.func16, Tryz.ntmps16
  go_wp2_with fail
  refine Calls.mono HG.out ?_
  rintro en w1 ⟨rfl, rfl⟩
  go_wp2_with fail
  go_ret
  exact ⟨rfl, rfl⟩

set_option maxHeartbeats 1000000 in
set_option maxRecDepth 100000 in
theorem nog_derived {w : World} {p : Value} (h : NoG w p) : Calls Tryz.prog 17 #[p] w fun e w' => e = .returned (.slice none 0 0) ∧ w = w' := by
  have HG : Hid _ := nog_made h
  obtain ⟨a, rfl⟩ := h.ptr
  clear h
  go_enter Tryz.func17, Tryz.ntmps17
  go_wp2_with fail
  refine Calls.mono HG.out ?_
  rintro en w1 ⟨rfl, rfl⟩
  go_wp2_with fail
  go_ret
  exact ⟨rfl, rfl⟩

set_option maxHeartbeats 1000000 in
set_option maxRecDepth 100000 in
theorem nog_solvable {w : World} {p : Value} (h : NoG w p) : Calls Tryz.prog 46 #[p] w fun e w' => e = .returned (.tuple #[.int .i64 0, .bool false]) ∧ w = w' := by
  have HG : Hid _ := nog_made h
  obtain ⟨a, rfl⟩ := h.ptr
  clear h
  go_enter Tryz.func46, Tryz.ntmps46
  go_wp2_with fail
  refine Calls.mono HG.out ?_
  rintro en w1 ⟨rfl, rfl⟩
  go_wp2_with fail
  go_ret2
  exact ⟨rfl, rfl⟩

end Go.Proofs.YtlohfeogaalfcaaGreat

namespace Go.Proofs.YtlohfeogaalfcaaGreat
open Go Go.RowKit Go.Lib Go.Maps
set_option linter.unusedVariables false
attribute [-instance] List.instBEq instBEqProd

set_option maxHeartbeats 4000000 in
set_option maxRecDepth 100000 in
theorem nog_abelian {w : World} {p : Value} (h : NoG w p) : Calls Tryz.prog 48 #[p] w fun e w' => e = .returned (.bool false) ∧ Below w.heap.size w w' := by
  have HG : Hid (∀ y, Below w.heap.size w y → Calls Tryz.prog 52 #[p] y fun e w' => e = .returned (.bool false) ∧ y = w') := fun y hy => nog_made (h.below hy)
  obtain ⟨a, rfl⟩ := h.ptr
  clear h
  go_enter Tryz.func48, Tryz.ntmps48
  go_upto_region 1 with fail
  refine wp_region_held_drew (S := fun w' => Below w.heap.size w w') (by kernel_rfl) (Below.refl _ _).drew (fun hH0 => ?_)
  refine wpAnyH_take (i := 0) (oi := { dst := some 3, op := Go.Op.move (Go.Operand.tmp 0), type := 30, pos := "groups.go:109", after := #[], guard := none }) (v := ?_) rfl (by kernel_rfl) (by kernel_rfl) (by kernel_rfl) (fun _ _ _ h => h) (Or.inl ⟨by rfl, ?_⟩) (by assumption) ?_
  rotate_left
  · intro w' hS; go_simp; (try with_reducible rfl)
  simp only [Act.put, List.setIfInBounds_toArray, List.set_cons_zero, List.set_cons_succ]
  refine wpAnyH_ready (rs := [1]) (by kernel_rfl) (by simp) ?_
  refine AllReadyH.cons rfl (fun K hK => ?_) AllReadyH.nil
  go_simp
  go_at_call 52
  refine Calls.mono (HG.out _ hH0) ?_
  rintro en y1 ⟨rfl, rfl⟩
  go_simp
  refine hK.out _ _ hH0 (fun hH1 => ?_)
  clear hK K
  refine wpAnyH_take (i := 2) (oi := { dst := some 5, op := Go.Op.move (Go.Operand.tmp 4), type := 4, pos := "groups.go:109", after := #[{ on := 1, ground := Go.Ground.data }, { on := 1, ground := Go.Ground.chain }], guard := none }) (v := ?_) rfl (by kernel_rfl) (by kernel_rfl) (by kernel_rfl) (fun _ _ _ h => h) (Or.inl ⟨by rfl, ?_⟩) (by assumption) ?_
  rotate_left
  · intro w' hS; go_simp; (try with_reducible rfl)
  simp only [Act.put, List.setIfInBounds_toArray, List.set_cons_zero, List.set_cons_succ]
  refine wpAnyH_take (i := 3) (oi := { dst := some 6, op := Go.Op.move (Go.Operand.tmp 0), type := 30, pos := "groups.go:109", after := #[{ on := 2, ground := Go.Ground.guard }], guard := some (2, true) }) (v := undef) rfl (by kernel_rfl) (by kernel_rfl) (by kernel_rfl) (fun _ _ _ h => h) (Or.inr ⟨by rfl, rfl⟩) (by assumption) ?_
  simp only [Act.put, List.setIfInBounds_toArray, List.set_cons_zero, List.set_cons_succ]
  refine wpAnyH_take (i := 6) (oi := { dst := some 9, op := Go.Op.move (Go.Operand.tmp 0), type := 30, pos := "groups.go:109", after := #[{ on := 2, ground := Go.Ground.guard }], guard := some (2, true) }) (v := undef) rfl (by kernel_rfl) (by kernel_rfl) (by kernel_rfl) (fun _ _ _ h => h) (Or.inr ⟨by rfl, rfl⟩) (by assumption) ?_
  simp only [Act.put, List.setIfInBounds_toArray, List.set_cons_zero, List.set_cons_succ]
  refine wpAnyH_take (i := 7) (oi := { dst := some 10, op := Go.Op.nilCheck (Go.Operand.tmp 9), type := 0, pos := "groups.go:109", after := #[{ on := 6, ground := Go.Ground.data }, { on := 2, ground := Go.Ground.guard }], guard := some (2, true) }) (v := undef) rfl (by kernel_rfl) (by kernel_rfl) (by kernel_rfl) (fun _ _ _ h => h) (Or.inr ⟨by rfl, rfl⟩) (by assumption) ?_
  simp only [Act.put, List.setIfInBounds_toArray, List.set_cons_zero, List.set_cons_succ]
  refine wpAnyH_take (i := 8) (oi := { dst := some 11, op := Go.Op.fieldAddr 53 (Go.Operand.tmp 10) 1, type := 0, pos := "groups.go:109", after := #[{ on := 7, ground := Go.Ground.data }, { on := 2, ground := Go.Ground.guard }], guard := some (2, true) }) (v := undef) rfl (by kernel_rfl) (by kernel_rfl) (by kernel_rfl) (fun _ _ _ h => h) (Or.inr ⟨by rfl, rfl⟩) (by assumption) ?_
  simp only [Act.put, List.setIfInBounds_toArray, List.set_cons_zero, List.set_cons_succ]
  refine wpAnyH_take (i := 9) (oi := { dst := some 12, op := Go.Op.fieldAddr 50 (Go.Operand.tmp 11) 0, type := 0, pos := "groups.go:109", after := #[{ on := 8, ground := Go.Ground.data }, { on := 2, ground := Go.Ground.guard }], guard := some (2, true) }) (v := undef) rfl (by kernel_rfl) (by kernel_rfl) (by kernel_rfl) (fun _ _ _ h => h) (Or.inr ⟨by rfl, rfl⟩) (by assumption) ?_
  simp only [Act.put, List.setIfInBounds_toArray, List.set_cons_zero, List.set_cons_succ]
  refine wpAnyH_take (i := 10) (oi := { dst := some 13, op := Go.Op.load 22 (Go.Operand.tmp 12), type := 22, pos := "groups.go:109", after := #[{ on := 9, ground := Go.Ground.data }, { on := 2, ground := Go.Ground.guard }], guard := some (2, true) }) (v := undef) rfl (by kernel_rfl) (by kernel_rfl) (by kernel_rfl) (fun _ _ _ h => h) (Or.inr ⟨by rfl, rfl⟩) (by assumption) ?_
  simp only [Act.put, List.setIfInBounds_toArray, List.set_cons_zero, List.set_cons_succ]
  refine wpAnyH_take (i := 11) (oi := { dst := some 14, op := Go.Op.call { callee := Go.Callee.builtin Go.Builtin.len, args := #[Go.Operand.tmp 13], argTypes := #[22] }, type := 3, pos := "groups.go:109", after := #[{ on := 10, ground := Go.Ground.data }, { on := 2, ground := Go.Ground.guard }], guard := some (2, true) }) (v := undef) rfl (by kernel_rfl) (by kernel_rfl) (by kernel_rfl) (fun _ _ _ h => h) (Or.inr ⟨by rfl, rfl⟩) (by assumption) ?_
  simp only [Act.put, List.setIfInBounds_toArray, List.set_cons_zero, List.set_cons_succ]
  refine wpAnyH_ready (rs := [4]) (by kernel_rfl) (by simp) ?_
  refine AllReadyH.cons rfl (fun K hK => ?_) AllReadyH.nil
  go_simp
  refine hK.out _ _ hH1 (fun hH1 => ?_)
  clear hK K
  refine wpAnyH_take (i := 5) (oi := { dst := some 8, op := Go.Op.call { callee := Go.Callee.builtin Go.Builtin.len, args := #[Go.Operand.tmp 7], argTypes := #[22] }, type := 3, pos := "groups.go:109", after := #[{ on := 4, ground := Go.Ground.data }, { on := 2, ground := Go.Ground.guard }], guard := some (2, true) }) (v := undef) rfl (by kernel_rfl) (by kernel_rfl) (by kernel_rfl) (fun _ _ _ h => h) (Or.inr ⟨by rfl, rfl⟩) (by assumption) ?_
  simp only [Act.put, List.setIfInBounds_toArray, List.set_cons_zero, List.set_cons_succ]
  refine wpAnyH_take (i := 12) (oi := { dst := some 15, op := Go.Op.binOp Go.BinOp.eql 3 (Go.Operand.tmp 8) (Go.Operand.tmp 14) 3, type := 4, pos := "groups.go:109", after := #[{ on := 5, ground := Go.Ground.data }, { on := 11, ground := Go.Ground.data }, { on := 2, ground := Go.Ground.guard }], guard := some (2, true) }) (v := undef) rfl (by kernel_rfl) (by kernel_rfl) (by kernel_rfl) (fun _ _ _ h => h) (Or.inr ⟨by rfl, rfl⟩) (by assumption) ?_
  simp only [Act.put, List.setIfInBounds_toArray, List.set_cons_zero, List.set_cons_succ]
  refine wpAnyH_take (i := 13) (oi := { dst := some 16, op := Go.Op.pick (Go.Operand.tmp 5) (Go.Operand.tmp 15) (Go.Operand.const (Go.Value.bool false)), type := 4, pos := "groups.go:109", after := #[{ on := 2, ground := Go.Ground.data }, { on := 12, ground := Go.Ground.data }], guard := none }) (v := ?_) rfl (by kernel_rfl) (by kernel_rfl) (by kernel_rfl) (fun _ _ _ h => h) (Or.inl ⟨by rfl, ?_⟩) (by assumption) ?_
  rotate_left
  · intro w' hS; go_simp; (try with_reducible rfl)
  simp only [Act.put, List.setIfInBounds_toArray, List.set_cons_zero, List.set_cons_succ]
  refine wpAnyH_take (i := 14) (oi := { dst := some 2, op := Go.Op.assign (Go.Operand.tmp 16), type := 4, pos := "groups.go:109", after := #[{ on := 13, ground := Go.Ground.data }, { on := 4, ground := Go.Ground.chain }, { on := 0, ground := Go.Ground.phase }, { on := 1, ground := Go.Ground.phase }, { on := 2, ground := Go.Ground.phase }, { on := 3, ground := Go.Ground.phase }, { on := 4, ground := Go.Ground.phase }, { on := 5, ground := Go.Ground.phase }, { on := 6, ground := Go.Ground.phase }, { on := 7, ground := Go.Ground.phase }, { on := 8, ground := Go.Ground.phase }, { on := 9, ground := Go.Ground.phase }, { on := 10, ground := Go.Ground.phase }, { on := 11, ground := Go.Ground.phase }, { on := 12, ground := Go.Ground.phase }, { on := 13, ground := Go.Ground.phase }], guard := none }) (v := ?_) rfl (by kernel_rfl) (by kernel_rfl) (by kernel_rfl) (fun _ _ _ h => h) (Or.inl ⟨by rfl, ?_⟩) (by assumption) ?_
  rotate_left
  · intro w' hS; go_simp; (try with_reducible rfl)
  simp only [Act.put, List.setIfInBounds_toArray, List.set_cons_zero, List.set_cons_succ]
  refine wpAnyH_done (by kernel_rfl) ?_ _
  go_wp2_with fail
  go_ret
  exact ⟨rfl, by assumption⟩

set_option maxHeartbeats 4000000 in
set_option maxRecDepth 100000 in
theorem nog_cyclic {w : World} {p : Value} (h : NoG w p) : Calls Tryz.prog 50 #[p] w fun e w' => e = .returned (.bool false) ∧ Below w.heap.size w w' := by
  have HG : Hid (∀ y, Below w.heap.size w y → Calls Tryz.prog 52 #[p] y fun e w' => e = .returned (.bool false) ∧ y = w') := fun y hy => nog_made (h.below hy)
  obtain ⟨a, rfl⟩ := h.ptr
  clear h
  go_enter Tryz.func50, Tryz.ntmps50
  go_upto_region 1 with fail
  refine wp_region_held_drew (S := fun w' => Below w.heap.size w w') (by kernel_rfl) (Below.refl _ _).drew (fun hH0 => ?_)
  refine wpAnyH_take (i := 0) (oi := { dst := some 3, op := Go.Op.move (Go.Operand.tmp 0), type := 30, pos := "groups.go:113", after := #[], guard := none }) (v := ?_) rfl (by kernel_rfl) (by kernel_rfl) (by kernel_rfl) (fun _ _ _ h => h) (Or.inl ⟨by rfl, ?_⟩) (by assumption) ?_
  rotate_left
  · intro w' hS; go_simp; (try with_reducible rfl)
  simp only [Act.put, List.setIfInBounds_toArray, List.set_cons_zero, List.set_cons_succ]
  refine wpAnyH_ready (rs := [1]) (by kernel_rfl) (by simp) ?_
  refine AllReadyH.cons rfl (fun K hK => ?_) AllReadyH.nil
  go_simp
  go_at_call 52
  refine Calls.mono (HG.out _ hH0) ?_
  rintro en y1 ⟨rfl, rfl⟩
  go_simp
  refine hK.out _ _ hH0 (fun hH1 => ?_)
  clear hK K
  refine wpAnyH_take (i := 2) (oi := { dst := some 5, op := Go.Op.move (Go.Operand.tmp 4), type := 4, pos := "groups.go:113", after := #[{ on := 1, ground := Go.Ground.data }, { on := 1, ground := Go.Ground.chain }], guard := none }) (v := ?_) rfl (by kernel_rfl) (by kernel_rfl) (by kernel_rfl) (fun _ _ _ h => h) (Or.inl ⟨by rfl, ?_⟩) (by assumption) ?_
  rotate_left
  · intro w' hS; go_simp; (try with_reducible rfl)
  simp only [Act.put, List.setIfInBounds_toArray, List.set_cons_zero, List.set_cons_succ]
  refine wpAnyH_take (i := 3) (oi := { dst := some 6, op := Go.Op.move (Go.Operand.tmp 0), type := 30, pos := "groups.go:113", after := #[{ on := 2, ground := Go.Ground.guard }], guard := some (2, true) }) (v := undef) rfl (by kernel_rfl) (by kernel_rfl) (by kernel_rfl) (fun _ _ _ h => h) (Or.inr ⟨by rfl, rfl⟩) (by assumption) ?_
  simp only [Act.put, List.setIfInBounds_toArray, List.set_cons_zero, List.set_cons_succ]
  refine wpAnyH_take (i := 4) (oi := { dst := some 7, op := Go.Op.nilCheck (Go.Operand.tmp 6), type := 0, pos := "groups.go:113", after := #[{ on := 3, ground := Go.Ground.data }, { on := 2, ground := Go.Ground.guard }], guard := some (2, true) }) (v := undef) rfl (by kernel_rfl) (by kernel_rfl) (by kernel_rfl) (fun _ _ _ h => h) (Or.inr ⟨by rfl, rfl⟩) (by assumption) ?_
  simp only [Act.put, List.setIfInBounds_toArray, List.set_cons_zero, List.set_cons_succ]
  refine wpAnyH_take (i := 5) (oi := { dst := some 8, op := Go.Op.fieldAddr 53 (Go.Operand.tmp 7) 1, type := 0, pos := "groups.go:113", after := #[{ on := 4, ground := Go.Ground.data }, { on := 2, ground := Go.Ground.guard }], guard := some (2, true) }) (v := undef) rfl (by kernel_rfl) (by kernel_rfl) (by kernel_rfl) (fun _ _ _ h => h) (Or.inr ⟨by rfl, rfl⟩) (by assumption) ?_
  simp only [Act.put, List.setIfInBounds_toArray, List.set_cons_zero, List.set_cons_succ]
  refine wpAnyH_take (i := 6) (oi := { dst := some 9, op := Go.Op.fieldAddr 50 (Go.Operand.tmp 8) 2, type := 0, pos := "groups.go:113", after := #[{ on := 5, ground := Go.Ground.data }, { on := 2, ground := Go.Ground.guard }], guard := some (2, true) }) (v := undef) rfl (by kernel_rfl) (by kernel_rfl) (by kernel_rfl) (fun _ _ _ h => h) (Or.inr ⟨by rfl, rfl⟩) (by assumption) ?_
  simp only [Act.put, List.setIfInBounds_toArray, List.set_cons_zero, List.set_cons_succ]
  refine wpAnyH_take (i := 7) (oi := { dst := some 10, op := Go.Op.load 22 (Go.Operand.tmp 9), type := 22, pos := "groups.go:113", after := #[{ on := 6, ground := Go.Ground.data }, { on := 2, ground := Go.Ground.guard }], guard := some (2, true) }) (v := undef) rfl (by kernel_rfl) (by kernel_rfl) (by kernel_rfl) (fun _ _ _ h => h) (Or.inr ⟨by rfl, rfl⟩) (by assumption) ?_
  simp only [Act.put, List.setIfInBounds_toArray, List.set_cons_zero, List.set_cons_succ]
  refine wpAnyH_take (i := 8) (oi := { dst := some 11, op := Go.Op.move (Go.Operand.tmp 0), type := 30, pos := "groups.go:113", after := #[{ on := 2, ground := Go.Ground.guard }], guard := some (2, true) }) (v := undef) rfl (by kernel_rfl) (by kernel_rfl) (by kernel_rfl) (fun _ _ _ h => h) (Or.inr ⟨by rfl, rfl⟩) (by assumption) ?_
  simp only [Act.put, List.setIfInBounds_toArray, List.set_cons_zero, List.set_cons_succ]
  refine wpAnyH_take (i := 9) (oi := { dst := some 12, op := Go.Op.nilCheck (Go.Operand.tmp 11), type := 0, pos := "groups.go:113", after := #[{ on := 8, ground := Go.Ground.data }, { on := 2, ground := Go.Ground.guard }], guard := some (2, true) }) (v := undef) rfl (by kernel_rfl) (by kernel_rfl) (by kernel_rfl) (fun _ _ _ h => h) (Or.inr ⟨by rfl, rfl⟩) (by assumption) ?_
  simp only [Act.put, List.setIfInBounds_toArray, List.set_cons_zero, List.set_cons_succ]
  refine wpAnyH_take (i := 10) (oi := { dst := some 13, op := Go.Op.fieldAddr 53 (Go.Operand.tmp 12) 1, type := 0, pos := "groups.go:113", after := #[{ on := 9, ground := Go.Ground.data }, { on := 2, ground := Go.Ground.guard }], guard := some (2, true) }) (v := undef) rfl (by kernel_rfl) (by kernel_rfl) (by kernel_rfl) (fun _ _ _ h => h) (Or.inr ⟨by rfl, rfl⟩) (by assumption) ?_
  simp only [Act.put, List.setIfInBounds_toArray, List.set_cons_zero, List.set_cons_succ]
  refine wpAnyH_take (i := 11) (oi := { dst := some 14, op := Go.Op.fieldAddr 50 (Go.Operand.tmp 13) 0, type := 0, pos := "groups.go:113", after := #[{ on := 10, ground := Go.Ground.data }, { on := 2, ground := Go.Ground.guard }], guard := some (2, true) }) (v := undef) rfl (by kernel_rfl) (by kernel_rfl) (by kernel_rfl) (fun _ _ _ h => h) (Or.inr ⟨by rfl, rfl⟩) (by assumption) ?_
  simp only [Act.put, List.setIfInBounds_toArray, List.set_cons_zero, List.set_cons_succ]
  refine wpAnyH_take (i := 12) (oi := { dst := some 15, op := Go.Op.load 22 (Go.Operand.tmp 14), type := 22, pos := "groups.go:113", after := #[{ on := 11, ground := Go.Ground.data }, { on := 2, ground := Go.Ground.guard }], guard := some (2, true) }) (v := undef) rfl (by kernel_rfl) (by kernel_rfl) (by kernel_rfl) (fun _ _ _ h => h) (Or.inr ⟨by rfl, rfl⟩) (by assumption) ?_
  simp only [Act.put, List.setIfInBounds_toArray, List.set_cons_zero, List.set_cons_succ]
  refine wpAnyH_take (i := 13) (oi := { dst := some 16, op := Go.Op.call { callee := Go.Callee.builtin Go.Builtin.len, args := #[Go.Operand.tmp 15], argTypes := #[22] }, type := 3, pos := "groups.go:113", after := #[{ on := 12, ground := Go.Ground.data }, { on := 2, ground := Go.Ground.guard }], guard := some (2, true) }) (v := undef) rfl (by kernel_rfl) (by kernel_rfl) (by kernel_rfl) (fun _ _ _ h => h) (Or.inr ⟨by rfl, rfl⟩) (by assumption) ?_
  simp only [Act.put, List.setIfInBounds_toArray, List.set_cons_zero, List.set_cons_succ]
  refine wpAnyH_ready (rs := [14]) (by kernel_rfl) (by simp) ?_
  refine AllReadyH.cons rfl (fun K hK => ?_) AllReadyH.nil
  go_simp
  refine hK.out _ _ hH1 (fun hH1 => ?_)
  clear hK K
  refine wpAnyH_take (i := 15) (oi := { dst := some 18, op := Go.Op.pick (Go.Operand.tmp 5) (Go.Operand.tmp 17) (Go.Operand.const (Go.Value.bool false)), type := 4, pos := "groups.go:113", after := #[{ on := 2, ground := Go.Ground.data }, { on := 14, ground := Go.Ground.data }], guard := none }) (v := ?_) rfl (by kernel_rfl) (by kernel_rfl) (by kernel_rfl) (fun _ _ _ h => h) (Or.inl ⟨by rfl, ?_⟩) (by assumption) ?_
  rotate_left
  · intro w' hS; go_simp; (try with_reducible rfl)
  simp only [Act.put, List.setIfInBounds_toArray, List.set_cons_zero, List.set_cons_succ]
  refine wpAnyH_take (i := 16) (oi := { dst := some 2, op := Go.Op.assign (Go.Operand.tmp 18), type := 4, pos := "groups.go:113", after := #[{ on := 15, ground := Go.Ground.data }, { on := 14, ground := Go.Ground.chain }, { on := 0, ground := Go.Ground.phase }, { on := 1, ground := Go.Ground.phase }, { on := 2, ground := Go.Ground.phase }, { on := 3, ground := Go.Ground.phase }, { on := 4, ground := Go.Ground.phase }, { on := 5, ground := Go.Ground.phase }, { on := 6, ground := Go.Ground.phase }, { on := 7, ground := Go.Ground.phase }, { on := 8, ground := Go.Ground.phase }, { on := 9, ground := Go.Ground.phase }, { on := 10, ground := Go.Ground.phase }, { on := 11, ground := Go.Ground.phase }, { on := 12, ground := Go.Ground.phase }, { on := 13, ground := Go.Ground.phase }, { on := 14, ground := Go.Ground.phase }, { on := 15, ground := Go.Ground.phase }], guard := none }) (v := ?_) rfl (by kernel_rfl) (by kernel_rfl) (by kernel_rfl) (fun _ _ _ h => h) (Or.inl ⟨by rfl, ?_⟩) (by assumption) ?_
  rotate_left
  · intro w' hS; go_simp; (try with_reducible rfl)
  simp only [Act.put, List.setIfInBounds_toArray, List.set_cons_zero, List.set_cons_succ]
  refine wpAnyH_done (by kernel_rfl) ?_ _
  go_wp2_with fail
  go_ret
  exact ⟨rfl, by assumption⟩

end Go.Proofs.YtlohfeogaalfcaaGreat

namespace Go.Proofs.YtlohfeogaalfcaaGreat
open Go Go.RowKit Go.Lib Go.Maps
set_option linter.unusedVariables false
attribute [-instance] List.instBEq instBEqProd

set_option maxHeartbeats 1000000 in
set_option maxRecDepth 100000 in
theorem orders_none (p : Option Addr) (w : World) (h : NoM w (.pointer p)) : Calls Tryz.prog 9 #[.pointer p] w fun e w' => e = .returned (.tuple #[.slice none 0 0, .int .i64 1]) ∧ Below w.heap.size w w' := by
  have HI : Hid _ := iList_no p w h
  clear h
  go_enter Tryz.func9, Tryz.ntmps9
  go_wp2_with fail
  refine Calls.mono HI.out ?_
  rintro e w1 ⟨rfl, hb⟩
  have HB : Hid (Below w.heap.size w w1) := hb
  clear hb
  go_wp2_with fail
  go_ret2
  exact ⟨rfl, HB.out⟩

set_option maxHeartbeats 1000000 in
set_option maxRecDepth 100000 in
theorem rnog_order (w : World) : Calls Tryz.prog 38 #[.pointer none] w fun e w' => e = .returned (.int .i64 0) ∧ w = w' := by
  go_enter Tryz.func38, Tryz.ntmps38
  go_wp2_with fail
  go_ret
  exact ⟨rfl, rfl⟩

set_option maxHeartbeats 1000000 in
set_option maxRecDepth 100000 in
theorem rnog_has (w : World) (i : Int) : Calls Tryz.prog 40 #[.pointer none, .int .i64 i] w fun e w' => e = .returned (.bool false) ∧ w = w' := by
  go_enter Tryz.func40, Tryz.ntmps40
  go_wp2_with fail
  go_ret
  exact ⟨rfl, rfl⟩

set_option maxHeartbeats 1000000 in
set_option maxRecDepth 100000 in
theorem rnog_inverse (w : World) (i : Int) : Calls Tryz.prog 35 #[.pointer none, .int .i64 i] w fun e w' => e = .returned (.tuple #[.int .i64 0, .int .i64 1]) ∧ w = w' := by
  go_enter Tryz.func35, Tryz.ntmps35
  go_wp2_with fail
  go_ret2
  exact ⟨rfl, rfl⟩

set_option maxHeartbeats 1000000 in
set_option maxRecDepth 100000 in
theorem rnog_period (w : World) (i : Int) : Calls Tryz.prog 36 #[.pointer none, .int .i64 i] w fun e w' => e = .returned (.tuple #[.int .i64 0, .int .i64 1]) ∧ w = w' := by
  go_enter Tryz.func36, Tryz.ntmps36
  go_wp2_with fail
  go_ret2
  exact ⟨rfl, rfl⟩

set_option maxHeartbeats 1000000 in
set_option maxRecDepth 100000 in
theorem rnog_exponent (w : World) : Calls Tryz.prog 42 #[.pointer none] w fun e w' => e = .returned (.int .i64 0) ∧ w = w' := by
  go_enter Tryz.func42, Tryz.ntmps42
  go_wp2_with fail
  go_ret
  exact ⟨rfl, rfl⟩

set_option maxHeartbeats 1000000 in
set_option maxRecDepth 100000 in
theorem rnog_cyclic (w : World) : Calls Tryz.prog 51 #[.pointer none] w fun e w' => e = .returned (.bool false) ∧ w = w' := by
  go_enter Tryz.func51, Tryz.ntmps51
  go_wp2_with fail
  go_ret
  exact ⟨rfl, rfl⟩

set_option maxHeartbeats 1000000 in
set_option maxRecDepth 100000 in
theorem rnog_profile (w : World) : Calls Tryz.prog 45 #[.pointer none] w fun e w' => e = .returned (.slice none 0 0) ∧ w = w' := by
  go_enter Tryz.func45, Tryz.ntmps45
  go_wp2_with fail
  go_ret
  exact ⟨rfl, rfl⟩

set_option maxHeartbeats 1000000 in
set_option maxRecDepth 100000 in
theorem rnog_solvable (w : World) : Calls Tryz.prog 47 #[.pointer none] w fun e w' => e = .returned (.tuple #[.int .i64 0, .bool false]) ∧ w = w' := by
  go_enter Tryz.func47, Tryz.ntmps47
  go_wp2_with fail
  go_ret2
  exact ⟨rfl, rfl⟩

set_option maxHeartbeats 4000000 in
set_option maxRecDepth 100000 in
theorem rnog_abelian (w : World) : Calls Tryz.prog 49 #[.pointer none] w fun e w' => e = .returned (.bool false) ∧ Below w.heap.size w w' := by
  go_enter Tryz.func49, Tryz.ntmps49
  go_upto_region 1 with fail
  refine wp_region_held_drew (S := fun w' => Below w.heap.size w w') (by kernel_rfl) (Below.refl _ _).drew (fun hH0 => ?_)
  refine wpAnyH_take (i := 0) (oi := { dst := some 3, op := Go.Op.move (Go.Operand.tmp 0), type := 34, pos := "ref.go:167", after := #[], guard := none }) (v := ?_) rfl (by kernel_rfl) (by kernel_rfl) (by kernel_rfl) (fun _ _ _ h => h) (Or.inl ⟨by rfl, ?_⟩) (by assumption) ?_
  rotate_left
  · intro w' hS; go_simp; (try with_reducible rfl)
  simp only [Act.put, List.setIfInBounds_toArray, List.set_cons_zero, List.set_cons_succ]
  refine wpAnyH_take (i := 1) (oi := { dst := some 4, op := Go.Op.binOp Go.BinOp.neq 34 (Go.Operand.tmp 3) (Go.Operand.const (Go.Value.pointer none)) 34, type := 4, pos := "ref.go:167", after := #[{ on := 0, ground := Go.Ground.data }], guard := none }) (v := ?_) rfl (by kernel_rfl) (by kernel_rfl) (by kernel_rfl) (fun _ _ _ h => h) (Or.inl ⟨by rfl, ?_⟩) (by assumption) ?_
  rotate_left
  · intro w' hS; go_simp; (try with_reducible rfl)
  simp only [Act.put, List.setIfInBounds_toArray, List.set_cons_zero, List.set_cons_succ]
  refine wpAnyH_take (i := 2) (oi := { dst := some 5, op := Go.Op.move (Go.Operand.tmp 4), type := 4, pos := "ref.go:167", after := #[{ on := 1, ground := Go.Ground.data }], guard := none }) (v := ?_) rfl (by kernel_rfl) (by kernel_rfl) (by kernel_rfl) (fun _ _ _ h => h) (Or.inl ⟨by rfl, ?_⟩) (by assumption) ?_
  rotate_left
  · intro w' hS; go_simp; (try with_reducible rfl)
  simp only [Act.put, List.setIfInBounds_toArray, List.set_cons_zero, List.set_cons_succ]
  refine wpAnyH_take (i := 3) (oi := { dst := some 6, op := Go.Op.move (Go.Operand.tmp 0), type := 34, pos := "ref.go:167", after := #[{ on := 2, ground := Go.Ground.guard }], guard := some (2, true) }) (v := undef) rfl (by kernel_rfl) (by kernel_rfl) (by kernel_rfl) (fun _ _ _ h => h) (Or.inr ⟨by rfl, rfl⟩) (by assumption) ?_
  simp only [Act.put, List.setIfInBounds_toArray, List.set_cons_zero, List.set_cons_succ]
  refine wpAnyH_take (i := 6) (oi := { dst := some 9, op := Go.Op.move (Go.Operand.tmp 0), type := 34, pos := "ref.go:167", after := #[{ on := 2, ground := Go.Ground.guard }], guard := some (2, true) }) (v := undef) rfl (by kernel_rfl) (by kernel_rfl) (by kernel_rfl) (fun _ _ _ h => h) (Or.inr ⟨by rfl, rfl⟩) (by assumption) ?_
  simp only [Act.put, List.setIfInBounds_toArray, List.set_cons_zero, List.set_cons_succ]
  refine wpAnyH_take (i := 7) (oi := { dst := some 10, op := Go.Op.nilCheck (Go.Operand.tmp 9), type := 0, pos := "ref.go:167", after := #[{ on := 6, ground := Go.Ground.data }, { on := 2, ground := Go.Ground.guard }], guard := some (2, true) }) (v := undef) rfl (by kernel_rfl) (by kernel_rfl) (by kernel_rfl) (fun _ _ _ h => h) (Or.inr ⟨by rfl, rfl⟩) (by assumption) ?_
  simp only [Act.put, List.setIfInBounds_toArray, List.set_cons_zero, List.set_cons_succ]
  refine wpAnyH_take (i := 8) (oi := { dst := some 11, op := Go.Op.fieldAddr 78 (Go.Operand.tmp 10) 2, type := 0, pos := "ref.go:167", after := #[{ on := 7, ground := Go.Ground.data }, { on := 2, ground := Go.Ground.guard }], guard := some (2, true) }) (v := undef) rfl (by kernel_rfl) (by kernel_rfl) (by kernel_rfl) (fun _ _ _ h => h) (Or.inr ⟨by rfl, rfl⟩) (by assumption) ?_
  simp only [Act.put, List.setIfInBounds_toArray, List.set_cons_zero, List.set_cons_succ]
  refine wpAnyH_take (i := 9) (oi := { dst := some 12, op := Go.Op.load 22 (Go.Operand.tmp 11), type := 22, pos := "ref.go:167", after := #[{ on := 8, ground := Go.Ground.data }, { on := 2, ground := Go.Ground.guard }], guard := some (2, true) }) (v := undef) rfl (by kernel_rfl) (by kernel_rfl) (by kernel_rfl) (fun _ _ _ h => h) (Or.inr ⟨by rfl, rfl⟩) (by assumption) ?_
  simp only [Act.put, List.setIfInBounds_toArray, List.set_cons_zero, List.set_cons_succ]
  refine wpAnyH_take (i := 10) (oi := { dst := some 13, op := Go.Op.call { callee := Go.Callee.builtin Go.Builtin.len, args := #[Go.Operand.tmp 12], argTypes := #[22] }, type := 3, pos := "ref.go:167", after := #[{ on := 9, ground := Go.Ground.data }, { on := 2, ground := Go.Ground.guard }], guard := some (2, true) }) (v := undef) rfl (by kernel_rfl) (by kernel_rfl) (by kernel_rfl) (fun _ _ _ h => h) (Or.inr ⟨by rfl, rfl⟩) (by assumption) ?_
  simp only [Act.put, List.setIfInBounds_toArray, List.set_cons_zero, List.set_cons_succ]
  refine wpAnyH_ready (rs := [4]) (by kernel_rfl) (by simp) ?_
  refine AllReadyH.cons rfl (fun K hK => ?_) AllReadyH.nil
  go_simp
  refine hK.out _ _ hH0 (fun hH0 => ?_)
  clear hK K
  refine wpAnyH_take (i := 5) (oi := { dst := some 8, op := Go.Op.call { callee := Go.Callee.builtin Go.Builtin.len, args := #[Go.Operand.tmp 7], argTypes := #[22] }, type := 3, pos := "ref.go:167", after := #[{ on := 4, ground := Go.Ground.data }, { on := 2, ground := Go.Ground.guard }], guard := some (2, true) }) (v := undef) rfl (by kernel_rfl) (by kernel_rfl) (by kernel_rfl) (fun _ _ _ h => h) (Or.inr ⟨by rfl, rfl⟩) (by assumption) ?_
  simp only [Act.put, List.setIfInBounds_toArray, List.set_cons_zero, List.set_cons_succ]
  refine wpAnyH_take (i := 11) (oi := { dst := some 14, op := Go.Op.binOp Go.BinOp.eql 3 (Go.Operand.tmp 8) (Go.Operand.tmp 13) 3, type := 4, pos := "ref.go:167", after := #[{ on := 5, ground := Go.Ground.data }, { on := 10, ground := Go.Ground.data }, { on := 2, ground := Go.Ground.guard }], guard := some (2, true) }) (v := undef) rfl (by kernel_rfl) (by kernel_rfl) (by kernel_rfl) (fun _ _ _ h => h) (Or.inr ⟨by rfl, rfl⟩) (by assumption) ?_
  simp only [Act.put, List.setIfInBounds_toArray, List.set_cons_zero, List.set_cons_succ]
  refine wpAnyH_take (i := 12) (oi := { dst := some 15, op := Go.Op.pick (Go.Operand.tmp 5) (Go.Operand.tmp 14) (Go.Operand.const (Go.Value.bool false)), type := 4, pos := "ref.go:167", after := #[{ on := 2, ground := Go.Ground.data }, { on := 11, ground := Go.Ground.data }], guard := none }) (v := ?_) rfl (by kernel_rfl) (by kernel_rfl) (by kernel_rfl) (fun _ _ _ h => h) (Or.inl ⟨by rfl, ?_⟩) (by assumption) ?_
  rotate_left
  · intro w' hS; go_simp; (try with_reducible rfl)
  simp only [Act.put, List.setIfInBounds_toArray, List.set_cons_zero, List.set_cons_succ]
  refine wpAnyH_take (i := 13) (oi := { dst := some 2, op := Go.Op.assign (Go.Operand.tmp 15), type := 4, pos := "ref.go:167", after := #[{ on := 12, ground := Go.Ground.data }, { on := 4, ground := Go.Ground.chain }, { on := 0, ground := Go.Ground.phase }, { on := 1, ground := Go.Ground.phase }, { on := 2, ground := Go.Ground.phase }, { on := 3, ground := Go.Ground.phase }, { on := 4, ground := Go.Ground.phase }, { on := 5, ground := Go.Ground.phase }, { on := 6, ground := Go.Ground.phase }, { on := 7, ground := Go.Ground.phase }, { on := 8, ground := Go.Ground.phase }, { on := 9, ground := Go.Ground.phase }, { on := 10, ground := Go.Ground.phase }, { on := 11, ground := Go.Ground.phase }, { on := 12, ground := Go.Ground.phase }], guard := none }) (v := ?_) rfl (by kernel_rfl) (by kernel_rfl) (by kernel_rfl) (fun _ _ _ h => h) (Or.inl ⟨by rfl, ?_⟩) (by assumption) ?_
  rotate_left
  · intro w' hS; go_simp; (try with_reducible rfl)
  simp only [Act.put, List.setIfInBounds_toArray, List.set_cons_zero, List.set_cons_succ]
  refine wpAnyH_done (by kernel_rfl) ?_ _
  go_wp2_with fail
  go_ret
  exact ⟨rfl, by assumption⟩

set_option maxHeartbeats 1000000 in
set_option maxRecDepth 100000 in
theorem profile_none (w : World) : Calls Tryz.prog 43 #[.slice none 0 0, .slice none 0 0] w fun e w' => e = .returned (.bool true) ∧ w = w' := by
  go_enter Tryz.func43, Tryz.ntmps43
  go_wp2_with fail
  go_loopw [5] (fun vi wr => vi = .int .i64 0 ∧ wr = w) (fun _ _ => 0)
  case atStart => exact ⟨rfl, rfl⟩
  case round =>
    obtain ⟨rfl, rfl⟩ := hrel
    go_wp2_with fail
    go_ret
    exact ⟨rfl, rfl⟩

set_option maxHeartbeats 4000000 in
set_option maxRecDepth 100000 in
theorem alike_none {w : World} {p : Value} (h : NoG w p) (i : Int) : Calls Tryz.prog 14 #[p, .pointer none, .int .i64 i] w fun e w' => e = .returned (.bool true) ∧ Below w.heap.size w w' := by
  have HN : Hid (NoG w p) := h
  obtain ⟨a, rfl⟩ := h.ptr
  clear h
  go_enter Tryz.func14, Tryz.ntmps14
  go_wp2_with (first | (go_at_call 11; refine Calls.mono (num17_any _ _) ?_; rintro en yn ⟨rfl, hyn⟩; subst yn) | (go_at_call 37; refine Calls.mono (nog_order HN.out) ?_; rintro en yn ⟨rfl, hyn⟩; subst yn) | (go_at_call 38; refine Calls.mono (rnog_order _) ?_; rintro en yn ⟨rfl, hyn⟩; subst yn) | (go_at_call 39; refine Calls.mono (nog_has HN.out i) ?_; rintro en yn ⟨rfl, hyn⟩; subst yn) | (go_at_call 40; refine Calls.mono (rnog_has _ i) ?_; rintro en yn ⟨rfl, hyn⟩; subst yn) | (go_at_call 33; refine Calls.mono (nog_inverse HN.out i) ?_; rintro en yn ⟨rfl, hyn⟩; subst yn) | (go_at_call 35; refine Calls.mono (rnog_inverse _ i) ?_; rintro en yn ⟨rfl, hyn⟩; subst yn) | (go_at_call 34; refine Calls.mono (nog_period HN.out i) ?_; rintro en yn ⟨rfl, hyn⟩; subst yn) | (go_at_call 36; refine Calls.mono (rnog_period _ i) ?_; rintro en yn ⟨rfl, hyn⟩; subst yn) | (go_at_call 41; refine Calls.mono (nog_exponent HN.out) ?_; rintro en yn ⟨rfl, hyn⟩; subst yn) | (go_at_call 42; refine Calls.mono (rnog_exponent _) ?_; rintro en yn ⟨rfl, hyn⟩; subst yn) | (go_at_call 44; refine Calls.mono (nog_profile HN.out) ?_; rintro en yn ⟨rfl, hyn⟩; subst yn) | (go_at_call 45; refine Calls.mono (rnog_profile _) ?_; rintro en yn ⟨rfl, hyn⟩; subst yn) | (go_at_call 46; refine Calls.mono (nog_solvable HN.out) ?_; rintro en yn ⟨rfl, hyn⟩; subst yn) | (go_at_call 47; refine Calls.mono (rnog_solvable _) ?_; rintro en yn ⟨rfl, hyn⟩; subst yn) | (go_at_call 43; refine Calls.mono (profile_none _) ?_; rintro en yn ⟨rfl, hyn⟩; subst yn) | (go_at_call 49; refine Calls.mono (rnog_abelian y1) ?_; rintro en y1b ⟨rfl, hb⟩; have HB1b : Hid (Below w.heap.size w y1b) := go_on HB1.out hb; have HN1b : Hid (NoG y1b (.pointer a)) := HN1.out.below hb; clear hb) | (go_at_call 51; refine Calls.mono (rnog_cyclic _) ?_; rintro en yn ⟨rfl, hyn⟩; subst yn) | (go_at_call 48; refine Calls.mono (nog_abelian HN.out) ?_; rintro en y1 ⟨rfl, hb⟩; have HB1 : Hid (Below w.heap.size w y1) := hb; have HN1 : Hid (NoG y1 (.pointer a)) := HN.out.below hb; clear hb) | (go_at_call 50; refine Calls.mono (nog_cyclic HN1b.out) ?_; rintro en y2 ⟨rfl, hb⟩; have HB2 : Hid (Below w.heap.size w y2) := go_on HB1b.out hb; clear hb))
  go_ret
  exact ⟨rfl, HB2.out⟩
end Go.Proofs.YtlohfeogaalfcaaGreat
