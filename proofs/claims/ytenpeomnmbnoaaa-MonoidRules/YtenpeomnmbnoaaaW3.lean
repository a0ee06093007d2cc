/- E60 E61 E62 Ju E68 E69 E70, in one text. -/
import Derived.Test.YtenpeomnmbnoaaaW2
import Derived.Test.YtenpeomnmbnoaaaW1
import Derived.Test.YtenpeomnmbnoaaaJt
import Derived.OpenShut
import Derived.ProofKit
import Derived.ShutString
import Derived.ChangeOld
import Derived.JoinedCond
import Derived.SizedLaws
import Derived.Carry
import Derived.Deep.Strs
import Derived.Deep.Grids
import Derived.Deep.RegionHeld3
import Derived.Deep.DeepCutAuto
import Derived.Deep.AppendLies
namespace Go.Proofs.Ytenpeomnmbnoaaa
open Go Go.RowKit Go.Lib Go.Maps
set_option linter.unusedVariables false
attribute [-instance] List.instBEq instBEqProd

set_option maxHeartbeats 2000000 in
set_option maxRecDepth 100000 in
theorem rbuild_bad (v : Value) (A : Aut) (w : World) (h : AR w v A) (hm : A.nx.length ≤ 9223372036854775806) (hm2 : A.ac.length ≤ 9223372036854775806) (hE : owE A ByteArray.empty ≠ 0) : Calls Try.prog 44 #[v] w fun e w' => e = .returned (.tuple #[.pointer none, .int .i64 (owE A ByteArray.empty)]) ∧ Below w.heap.size w w' := by
  obtain ⟨an, cn, aa, ca, e, h1, h2⟩ := h.is
  have HCK : Hid (∀ y, Below w.heap.size w y → Calls Try.prog 72 #[v] y fun e w' => e = .returned (.int .i64 (chkA A)) ∧ Below y.heap.size y w') := fun y hy => racheck_any v A y (h.stay hy) hm hm2
  subst e
  obtain ⟨W, hW⟩ : ∃ W, W = w.alloc (.cells #[.int .i64 A.k, .slice an A.nx.length cn, .slice aa A.ac.length ca] 26) := ⟨_, rfl⟩
  have HB1 : Hid (Below w.heap.size w W) := by show Below _ _ _; rw [hW]; exact below_new _ _
  have HBX1 : Hid (W.heap[w.heap.size]? = some (.cells #[.int .i64 A.k, .slice an A.nx.length cn, .slice aa A.ac.length ca] 26 (0, 0))) := by show _ = _; rw [hW]; exact heap_last _ _
  have HW1 : Hid (W = w.alloc (.cells #[.int .i64 A.k, .slice an A.nx.length cn, .slice aa A.ac.length ca] 26)) := hW
  clear hW h h1 h2
  by_cases hc : chkA A = 0
  · have h64 : 64 < A.ac.length := by
      rcases Nat.lt_or_ge 64 A.ac.length with q | q
      · exact q
      · exact absurd (owE_good (chkA_good hc) q) hE
    have HE : Hid (owE A ByteArray.empty = 81) := by show _ = _; unfold owE; rw [if_pos hc, if_pos (by omega)]
    rw [hc] at HCK
    have h64I : (64 : Int) < (A.ac.length : Nat) := by omega
    have h64d : decide ((64 : Int) < (A.ac.length : Nat)) = true := decide_eq_true h64I
    have h64e : decide (64 < A.ac.length) = true := decide_eq_true h64
    clear hE hc
    go_enter Try.func44, Try.ntmps44
    go_wp2_with fail
    rw [← HW1.out]
    refine (HCK.out _ HB1.out).mono ?_
    rintro e w1 ⟨rfl, hb⟩
    have HB2 : Hid (Below w.heap.size w w1) := go_on HB1.out hb
    have cs2 : w1.cell? ⟨w.heap.size, 2, none⟩ = some (.slice aa A.ac.length ca) := cell_at ((hb.block _ (Array.getElem?_eq_some_iff.1 HBX1.out).1).trans HBX1.out) rfl
    clear hb
    go_wp2_with fail
    go_ret2
    exact ⟨by rw [HE.out]; rfl, HB2.out⟩
  · have hG : ¬ Good A := fun G => hc (chkA_ok G)
    have HE : Hid (owE A ByteArray.empty = 80) := by show _ = _; unfold owE; rw [if_neg hc]
    rw [chkA_no hG] at HCK
    clear hE hc hG
    go_enter Try.func44, Try.ntmps44
    go_wp2_with fail
    rw [← HW1.out]
    refine (HCK.out _ HB1.out).mono ?_
    rintro e w1 ⟨rfl, hb⟩
    have HB2 : Hid (Below w.heap.size w w1) := go_on HB1.out hb
    have cs2 : w1.cell? ⟨w.heap.size, 2, none⟩ = some (.slice aa A.ac.length ca) := cell_at ((hb.block _ (Array.getElem?_eq_some_iff.1 HBX1.out).1).trans HBX1.out) rfl
    clear hb
    go_wp2_with fail
    go_ret2
    exact ⟨by rw [HE.out]; rfl, HB2.out⟩

theorem rbuild_any (v : Value) (A : Aut) (w : World) (h : AR w v A) (hm : A.nx.length ≤ 9223372036854775806) (hm2 : A.ac.length ≤ 9223372036854775806) : Calls Try.prog 44 #[v] w (RbQ A w) := by
  by_cases hE : owE A ByteArray.empty = 0
  · obtain ⟨G, h64⟩ := owE_ok hE
    exact rbuild_ok v A w h G h64
  · refine (rbuild_bad v A w h hm hm2 hE).mono ?_
    rintro e w' ⟨rfl, hb⟩
    have e1 : bdE A = owE A ByteArray.empty := by unfold bdE; rw [if_neg hE]
    exact .inl ⟨by rw [e1]; exact hE, by rw [e1], hb⟩

end Go.Proofs.Ytenpeomnmbnoaaa

namespace Go.Proofs.Ytenpeomnmbnoaaa
open Go Go.RowKit Go.Lib Go.Maps
set_option linter.unusedVariables false
attribute [-instance] List.instBEq instBEqProd

/-- A monoid that Build made, of whose automaton's lists nothing lies below lo. -/
def MOb (lo : Nat) (w : World) (ob : Nat) (A : Aut) (M : List (List Nat)) (N : List Nat) : Prop := ∃ base bt b mb gw ga R n a c d vl D an cn aa ca, lo ≤ base ∧ MP w ob A M N base bt b mb gw ga R n a c d vl D an cn aa ca (.pointer (some ⟨ob, 0, none⟩))

theorem MOb.mo {lo : Nat} {w : World} {ob : Nat} {A : Aut} {M : List (List Nat)} {N : List Nat} (h : MOb lo w ob A M N) : MO w ob A M N := by
  obtain ⟨base, bt, b, mb, gw, ga, R, n, a, c, d, vl, D, an, cn, aa, ca, _, h⟩ := h
  exact ⟨base, bt, b, mb, gw, ga, R, n, a, c, d, vl, D, an, cn, aa, ca, h⟩

theorem MOb.below {lo : Nat} {w w' : World} {ob : Nat} {A : Aut} {M : List (List Nat)} {N : List Nat} (h : MOb lo w ob A M N) (hb : Below w.heap.size w w') : MOb lo w' ob A M N := by
  obtain ⟨base, bt, b, mb, gw, ga, R, n, a, c, d, vl, D, an, cn, aa, ca, l, h⟩ := h
  exact ⟨base, bt, b, mb, gw, ga, R, n, a, c, d, vl, D, an, cn, aa, ca, l, h.keep hb⟩

theorem MOb.set {lo : Nat} {w : World} {ob : Nat} {A : Aut} {M : List (List Nat)} {N : List Nat} (h : MOb lo w ob A M N) {g o : Nat} {v : Value} {cs : Array Value} (hg : g < lo) (hc : w.heap[g]? = some (.cells cs 3 (0, 0))) : MOb lo (w.setCell ⟨g, o, none⟩ v) ob A M N := by
  obtain ⟨base, bt, b, mb, gw, ga, R, n, a, c, d, vl, D, an, cn, aa, ca, l, h⟩ := h
  have kt : ∀ (j : Nat) (cur : Array Value) (ty : TypeId), w.heap[j]? = some (.cells cur ty (0, 0)) → ty ≠ 3 → (w.setCell ⟨g, o, none⟩ v).heap[j]? = w.heap[j]? := fun j cur ty hj hn => heap_set_other (blk_ne hj hc hn)
  obtain ⟨cw, hw, _⟩ := id h.wp
  obtain ⟨cb, hb, _⟩ := id h.bp
  obtain ⟨cr, hr, _⟩ := id h.rt
  refine ⟨base, bt, b, mb, gw, ga, R, n, a, c, d, vl, D, an, cn, aa, ca, l, ⟨(kt _ _ _ h.box (by decide)).trans h.box, own_keep h.nx (fun j cur hj _ => heap_set_other (by have := (h.nx.lt j hj).1; omega)), own_keep h.ac (fun j cur _ hc => kt j _ _ hc (by decide)), h.tb.keep (fun j hj _ => heap_set_other (fun e => by subst e; exact h.tb.not_ts hc (by decide) (by decide) hj)), h.wp.keep (kt _ _ _ hw (by decide)), h.bp.keep (kt _ _ _ hb (by decide)), h.rt.keep (kt _ _ _ hr (by decide)), h.mon, h.num⟩⟩

/-- What Build answers of an automaton of at most 64 states. -/
def BdL (A : Aut) (w : World) (e : Ending) (w' : World) : Prop :=
  (mEl A = none ∧ e = .returned (.tuple #[.pointer none, .int .i64 140]) ∧ Below w.heap.size w w') ∨
  ∃ ob M N, e = .returned (.tuple #[.pointer (some ⟨ob, 0, none⟩), .int .i64 0]) ∧ mEl A = some (M, N) ∧ MOb w.heap.size w' ob A M N ∧ Below w.heap.size w w'

set_option maxHeartbeats 4000000 in
set_option maxRecDepth 100000 in
theorem build_low (v : Value) (A : Aut) (w : World) (h : AR w v A) (G : Good A) (h64 : A.ac.length ≤ 64) :
    Calls Try.prog 41 #[v] w (BdL A w) := by
  have hks := G.ks
  have hn1 := G.n1
  have hln := G.len
  have hxl : 1 ≤ A.nx.length ∧ A.nx.length ≤ 40000 := by
    have h1 : (1 : Int) * 1 ≤ (A.ac.length : Int) * A.k := Int.mul_le_mul (by omega) G.k1 (by omega) (by omega)
    have h2 : (A.ac.length : Int) * A.k ≤ 64 * 8 := Int.mul_le_mul (by omega) G.k8 (by have := G.k1; omega) (by omega)
    omega
  obtain ⟨an, cn, aa, ca, e, h1, h2⟩ := h.is
  have HA : Hid (∀ w', Below w.heap.size w w' → AR w' v A) := fun w' hb => h.stay hb
  clear h h1 h2 hln
  subst e
  have HGd : Hid (Good A) := G
  obtain ⟨w0, hw0⟩ : ∃ w0, w0 = w.alloc (.cells #[.int .i64 A.k, .slice an A.nx.length cn, .slice aa A.ac.length ca] 26) := ⟨_, rfl⟩
  have HB0 : Hid (Below w.heap.size w w0) := by show Below _ _ _; rw [hw0]; exact below_new _ _
  have HR0 : Hid (RowAt w0 w.heap.size #[.int .i64 A.k, .slice an A.nx.length cn, .slice aa A.ac.length ca]) := by show RowAt _ _ _; rw [hw0]; exact RowAt.last _ _ _
  have HW0 : Hid (w0 = w.alloc (.cells #[.int .i64 A.k, .slice an A.nx.length cn, .slice aa A.ac.length ca] 26)) := hw0
  clear hw0 G
  go_enter Try.func41, Try.ntmps41
  go_wp2_with fail
  rw [← HW0.out]
  refine (find_any _ A w0 (HA.out _ HB0.out) HGd.out h64).mono ?_
  rintro e w1 (⟨hno, rfl, hB1⟩ | ⟨base, fb, b, mb, vl, vw, vr, M, W, N, D, rfl, hE, hWY, hF, hlo, hB1⟩)
  · have HNO : Hid (mEl A = none) := hno
    have HB1 : Hid (Below w.heap.size w w1) := go_on HB0.out hB1
    clear hno hB1
    go_wp2_with fail
    go_ret2
    exact .inl ⟨HNO.out, rfl, HB1.out⟩
  · have HMon : Hid (Mon A M N) := mon_of HGd.out h64 hE
    have HE : Hid (mEl A = some (M, N)) := hE
    have HWY : Hid (WyO A.k.toNat M W N) := hWY
    have HF : Hid (FN base w1 fb b mb A.k.toNat A.ac.length vl vw vr M W N D) := hF
    have HB1 : Hid (Below w.heap.size w w1) := go_on HB0.out hB1
    have HR1 : Hid (RowAt w1 w.heap.size #[.int .i64 A.k, .slice an A.nx.length cn, .slice aa A.ac.length ca]) := HR0.out.stay hB1
    have S0 : ((∀ o, (w1.drew).cell? ⟨w.heap.size, o, none⟩ = (#[.int .i64 A.k, .slice an A.nx.length cn, .slice aa A.ac.length ca] : Array Value)[o]?) ∧ (w1.drew).cell? ⟨fb, 1, none⟩ = some (.pointer (some ⟨b, 0, none⟩))) := ⟨HR1.out.cell, cell_at HF.out.box rfl⟩
    have HSK : Hid (∀ y y' : World, ((∀ o, y.cell? ⟨w.heap.size, o, none⟩ = (#[.int .i64 A.k, .slice an A.nx.length cn, .slice aa A.ac.length ca] : Array Value)[o]?) ∧ y.cell? ⟨fb, 1, none⟩ = some (.pointer (some ⟨b, 0, none⟩))) → Below y.heap.size y y' → ((∀ o, y'.cell? ⟨w.heap.size, o, none⟩ = (#[.int .i64 A.k, .slice an A.nx.length cn, .slice aa A.ac.length ca] : Array Value)[o]?) ∧ y'.cell? ⟨fb, 1, none⟩ = some (.pointer (some ⟨b, 0, none⟩)))) := fun y y' hy hb => by
      have k1 : w.heap.size < y.heap.size := World.block_lt_of_cell? y ⟨w.heap.size, 0, none⟩ (hy.1 0)
      have k2 : fb < y.heap.size := World.block_lt_of_cell? y ⟨fb, 1, none⟩ hy.2
      exact ⟨fun o => by rw [below_cellJ hb k1]; exact hy.1 o, by rw [below_cellJ hb k2]; exact hy.2⟩
    clear hE hWY hF hB1 HR0 HW0
    go_wp2_with fail
    go_region_held3 (fun y => ((∀ o, y.cell? ⟨w.heap.size, o, none⟩ = (#[.int .i64 A.k, .slice an A.nx.length cn, .slice aa A.ac.length ca] : Array Value)[o]?) ∧ y.cell? ⟨fb, 1, none⟩ = some (.pointer (some ⟨b, 0, none⟩)))) (first | assumption | exact S0 | exact HSK.out _ _ (by assumption) (by assumption) | exact HSK.out _ _ (by assumption) (below_new _ _)) (first
      | (go_at_call 55; refine (fresh_any _ A _ (HA.out _ HB1.out.drew) hxl.1 hn1 hxl.2 (by omega)).mono ?_; rintro e y1 ⟨v1, rfl, ⟨an1, cn1, aa1, ca1, rfl, hx1, hc1⟩, hy1⟩; have K1 : Hid (Below w1.heap.size w1 y1) := go_on (Below.refl _ _).drew hy1; have HX1 : Hid (y1.ownsRow w1.drew.heap.size 3 1 (.slice an1 A.nx.length cn1) A.nx.length (zC A.nx)) := hx1; have HC1 : Hid (y1.ownsRow w1.drew.heap.size 4 1 (.slice aa1 A.ac.length ca1) A.ac.length (bC A.ac)) := hc1; have HY2 : Hid (∀ z, Below y1.heap.size y1 z → Below y1.heap.size y1 z) := fun _ q => q; clear hx1 hc1)
      | (go_at_call 68; refine (words_any (HF.out.below K1.out) HWY.out HMon.out.fst ⟨hks.1, hks.2.1⟩ HMon.out.pos).mono ?_; rintro e y2 ⟨g2, rfl, hy2, hg2, hw2⟩; have K2 : Hid (Below w1.heap.size w1 y2) := go_on K1.out hy2; have HW2 : Hid (WP y2 g2 A.k.toNat M.length N M.length) := hw2; clear hw2 hg2)
      | (go_at_call 69; refine (accepted_any (HF.out.below K2.out) HWY.out.len _ (HA.out _ (go_on HB1.out K2.out)) hn1).mono ?_; rintro e y3 ⟨g3, rfl, hy3, hg3, hb3⟩; have K3 : Hid (Below w1.heap.size w1 y3) := go_on K2.out hy3; have HP3 : Hid (BP y3 g3 A M M.length) := hb3; have HY3 : Hid (Below y2.heap.size y2 y3) := hy3; clear hb3 hg3)
      | (go_at_call 70; refine (lay_any (HF.out.below K3.out) HWY.out HMon.out.fst ⟨hks.1, hks.2.1⟩ HMon.out.pos HMon.out.len (fun a b ha hb => HMon.out.pr_lt ha hb) (fun p hp => HMon.out.nl hp)).mono ?_; rintro e y4 ⟨R, n, a, c, d, hn, ha, hc, hd, rfl, hy4, hR, hRT⟩; have K4 : Hid (Below w1.heap.size w1 y4) := go_on K3.out hy4; have HRT : Hid (RT y4 R n A.k.toNat N (fun _ _ => True) (fun _ _ => True)) := hRT; have HNM : Hid (M.length = n ∧ n * A.k.toNat = a ∧ n * n = c ∧ a + a = d) := ⟨hn, ha, hc, hd⟩; have HY4 : Hid (Below y3.heap.size y3 y4) := hy4; clear hRT hn ha hc hd hR))
    have HMP : Hid (MP (y4.alloc (.cells #[.pointer (some ⟨y4.heap.size, 0, none⟩), .int .i64 A.k, .slice an1 A.nx.length cn1, .slice aa1 A.ac.length ca1, .pointer (some ⟨b, 0, none⟩), .slice (some ⟨g2, 0, none⟩) M.length M.length, .slice (some ⟨g3, 0, none⟩) M.length M.length, .int .i64 A.k, .slice (some ⟨R, 0, none⟩) a a, .int .i64 A.k, .slice (some ⟨R, a, none⟩) a a, .int .i64 (n : Int), .slice (some ⟨R, d, none⟩) c c] 35)) y4.heap.size A M N w1.drew.heap.size base b mb g2 g3 R n a c d vl D an1 cn1 aa1 ca1 (.pointer (some ⟨y4.heap.size, 0, none⟩))) := by
      have hY14 : Below y1.heap.size y1 y4 := go_on (go_on hy2 HY3.out) HY4.out
      have hb : Below y4.heap.size y4 (y4.alloc (.cells #[.pointer (some ⟨y4.heap.size, 0, none⟩), .int .i64 A.k, .slice an1 A.nx.length cn1, .slice aa1 A.ac.length ca1, .pointer (some ⟨b, 0, none⟩), .slice (some ⟨g2, 0, none⟩) M.length M.length, .slice (some ⟨g3, 0, none⟩) M.length M.length, .int .i64 A.k, .slice (some ⟨R, 0, none⟩) a a, .int .i64 A.k, .slice (some ⟨R, a, none⟩) a a, .int .i64 (n : Int), .slice (some ⟨R, d, none⟩) c c] 35)) := below_new _ _
      have hnm := HNM.out
      refine ⟨?_, own_below (own_below HX1.out hY14) hb, own_below (own_below HC1.out hY14) hb, (HF.out.tb.below K4.out).below hb, ?_, ?_, HRT.out.keep (hb.block _ HRT.out.lt), HMon.out, hnm⟩
      · rw [hks.2.2]
        have q0 := heap_last y4 (.cells #[.pointer (some ⟨y4.heap.size, 0, none⟩), .int .i64 A.k, .slice an1 A.nx.length cn1, .slice aa1 A.ac.length ca1, .pointer (some ⟨b, 0, none⟩), .slice (some ⟨g2, 0, none⟩) M.length M.length, .slice (some ⟨g3, 0, none⟩) M.length M.length, .int .i64 A.k, .slice (some ⟨R, 0, none⟩) a a, .int .i64 A.k, .slice (some ⟨R, a, none⟩) a a, .int .i64 (n : Int), .slice (some ⟨R, d, none⟩) c c] 35)
        have e := hnm.1
        rw [q0]
        congr 3
        rw [e]
      · have h24 : Below y2.heap.size y2 y4 := go_on HY3.out HY4.out
        have q0 := HW2.out
        rw [hnm.1] at q0
        exact (q0.keep (h24.block g2 HW2.out.lt)).keep (hb.block g2 (by have := HW2.out.lt; have := h24.size; omega))
      · have q0 := HP3.out
        rw [hnm.1] at q0
        exact (q0.keep (HY4.out.block g3 HP3.out.lt)).keep (hb.block g3 (by have := HP3.out.lt; have := HY4.out.size; omega))
    have HBF : Hid (Below w.heap.size w (y4.alloc (.cells #[.pointer (some ⟨y4.heap.size, 0, none⟩), .int .i64 A.k, .slice an1 A.nx.length cn1, .slice aa1 A.ac.length ca1, .pointer (some ⟨b, 0, none⟩), .slice (some ⟨g2, 0, none⟩) M.length M.length, .slice (some ⟨g3, 0, none⟩) M.length M.length, .int .i64 A.k, .slice (some ⟨R, 0, none⟩) a a, .int .i64 A.k, .slice (some ⟨R, a, none⟩) a a, .int .i64 (n : Int), .slice (some ⟨R, d, none⟩) c c] 35))) := by
      have q := go_on HB1.out K4.out
      exact go_on q (below_new _ _)
    clear S0 hy1 hy2 hy3 hy4
    go_wp2_with fail
    go_ret2
    exact .inr ⟨y4.heap.size, M, N, rfl, HE.out, ⟨_, _, _, _, _, _, _, _, _, _, _, _, _, _, _, _, _, HB1.out.size, HMP.out⟩, HBF.out⟩

/-- What Build answers. -/
def BdB (A : Aut) (w : World) (e : Ending) (w' : World) : Prop :=
  (bdE A ≠ 0 ∧ e = .returned (.tuple #[.pointer none, .int .i64 (bdE A)]) ∧ Below w.heap.size w w') ∨
  ∃ ob M N, e = .returned (.tuple #[.pointer (some ⟨ob, 0, none⟩), .int .i64 0]) ∧ Good A ∧ A.ac.length ≤ 64 ∧ mEl A = some (M, N) ∧ MOb w.heap.size w' ob A M N ∧ Below w.heap.size w w'

theorem build_lows (v : Value) (A : Aut) (w : World) (h : AR w v A) (hm : A.nx.length ≤ 9223372036854775806) (hm2 : A.ac.length ≤ 9223372036854775806) :
    Calls Try.prog 41 #[v] w (BdB A w) := by
  by_cases hE : owE A ByteArray.empty = 0
  · obtain ⟨G, h64⟩ := owE_ok hE
    refine (build_low v A w h G h64).mono ?_
    rintro e w' (⟨hn, rfl, hb⟩ | ⟨ob, M, N, rfl, he, hmo, hb⟩)
    · have e1 : bdE A = 140 := by unfold bdE; rw [if_pos hE, hn]; rfl
      exact .inl ⟨by rw [e1]; decide, by rw [e1], hb⟩
    · exact .inr ⟨ob, M, N, rfl, G, h64, he, hmo, hb⟩
  · refine (build_bad v A w h hm hm2 hE).mono ?_
    rintro e w' ⟨rfl, hb⟩
    have e1 : bdE A = owE A ByteArray.empty := by unfold bdE; rw [if_neg hE]
    exact .inl ⟨by rw [e1]; exact hE, by rw [e1], hb⟩

end Go.Proofs.Ytenpeomnmbnoaaa

namespace Go.Proofs.Ytenpeomnmbnoaaa
open Go Go.RowKit Go.Lib Go.Maps
set_option linter.unusedVariables false
attribute [-instance] List.instBEq instBEqProd

theorem bdE_ok {A : Aut} (G : Good A) (h64 : A.ac.length ≤ 64) {M : List (List Nat)} {N : List Nat} (he : mEl A = some (M, N)) : bdE A = 0 := by
  unfold bdE
  rw [if_pos (owE_good G h64), he]
  rfl

theorem results_tmp4 {fn : Func} {t u v x : Tmp} (h : fn.results = #[.tmp t, .tmp u, .tmp v, .tmp x]) (tmps : Array Value) (P : Program) (w : World) :
    (results fn tmps).run P w = .ok (.tuple #[tmps.getD t undef, tmps.getD u undef, tmps.getD v undef, tmps.getD x undef]) w := by
  simp [results, h]

/-- What Both answers. -/
def BoQ (A : Aut) (w : World) (e : Ending) (w' : World) : Prop :=
  (bdE A ≠ 0 ∧ e = .returned (.tuple #[.pointer none, .pointer none, .bool false, .bool true]) ∧ Below w.heap.size w w') ∨
  ∃ ob rb M N, e = .returned (.tuple #[.pointer (some ⟨ob, 0, none⟩), .pointer (some ⟨rb, 0, none⟩), .bool true, .bool true]) ∧ Good A ∧ A.ac.length ≤ 64 ∧ mEl A = some (M, N) ∧ MO w' ob A M N ∧ RF w' rb A M N ∧ Below w.heap.size w w'

set_option maxHeartbeats 4000000 in
set_option maxRecDepth 100000 in
theorem both14_any (v : Value) (A : Aut) (w : World) (h : AR w v A) (hn : NilOk v) (hm : (A.nx.length + 2) * 8 ≤ 140737488355328) (hm2 : A.ac.length ≤ 140737488355328) :
    Calls Try.prog 11 #[v] w (BoQ A w) := by
  obtain ⟨an, cn, aa, ca, e, h1, h2⟩ := h.is
  have HAR : Hid (∀ w', Below w.heap.size w w' → AR w' v A) := fun w' hb => h.stay hb
  have HLE : Hid (∀ w', Below w.heap.size w w' → Calls Try.prog 43 #[v] w' (LQ A w')) := fun w' hb => lentAuto_any v A w' (h.stay hb) hn hm hm2
  have HRB : Hid (∀ w', Below w.heap.size w w' → Calls Try.prog 44 #[v] w' (RbQ A w')) := fun w' hb => rbuild_any v A w' (h.stay hb) (by omega) (by omega)
  have HNL : Hid (A.nx.length ≤ 9223372036854775806) := by show _ ≤ _; omega
  clear h h1 h2 hn
  subst e
  have R1 : RowAt (w.alloc (.cells #[.int .i64 A.k, .slice an A.nx.length cn, .slice aa A.ac.length ca] 26)) w.heap.size #[.int .i64 A.k, .slice an A.nx.length cn, .slice aa A.ac.length ca] := RowAt.last _ _ _
  have HR1 : Hid (RowAt (w.alloc (.cells #[.int .i64 A.k, .slice an A.nx.length cn, .slice aa A.ac.length ca] 26)) w.heap.size #[.int .i64 A.k, .slice an A.nx.length cn, .slice aa A.ac.length ca]) := R1
  clear R1
  go_enter Try.func11, Try.ntmps11
  go_wp2_with fail
  refine (HLE.out _ (below_new _ _)).mono ?_
  rintro e w1 ⟨g, gc, ba, bc, rfl, hi1, hb1, hl1⟩
  have HI1 : Hid (w1.ownsRow (w.alloc (.cells #[.int .i64 A.k, .slice an A.nx.length cn, .slice aa A.ac.length ca] 26)).heap.size 3 1 (.slice (some ⟨g, 0, none⟩) (A.nx.length + 2) gc) (A.nx.length + 2) (zC (A.nx ++ [-77, -78]))) := hi1
  have HBO : Hid (w1.ownsRow (w.alloc (.cells #[.int .i64 A.k, .slice an A.nx.length cn, .slice aa A.ac.length ca] 26)).heap.size 4 1 (.slice ba A.ac.length bc) A.ac.length (bC A.ac)) := hb1
  have HB1 : Hid (Below w.heap.size w w1) := go_on (below_new _ _) hl1
  have HRA : Hid (RowAt w1 w.heap.size #[.int .i64 A.k, .slice an A.nx.length cn, .slice aa A.ac.length ca]) := HR1.out.stay hl1
  have HG1 : Hid (w.heap.size < g ∧ g < w1.heap.size) := by
    have := hi1.lt g rfl
    simp only [World.size_alloc] at this
    show _ ∧ _
    omega
  have HCS1 : Hid (∃ cs : Array Value, w1.heap[g]? = some (.cells cs 3 (0, 0)) ∧ A.nx.length ≤ cs.size) := by
    rcases hi1.2 with ⟨q, _⟩ | ⟨g', cap, cur, q, r1, r2, r3, r4, r5, r6⟩
    · cases q
    · simp only [Value.slice.injEq, Option.some.injEq, Addr.mk.injEq] at q
      obtain ⟨⟨rfl, _⟩, _, rfl⟩ := q
      exact ⟨cur, r2, by omega⟩
  clear hi1 hb1 hl1 HLE HR1
  obtain ⟨W, hW⟩ : ∃ W, W = w1.alloc (.cells #[.int .i64 A.k, .slice (some ⟨g, 0, none⟩) A.nx.length gc, .slice ba A.ac.length bc] 26) := ⟨_, rfl⟩
  have HWE : Hid (W = w1.alloc (.cells #[.int .i64 A.k, .slice (some ⟨g, 0, none⟩) A.nx.length gc, .slice ba A.ac.length bc] 26)) := hW
  have hWb : Below w1.heap.size w1 W := by rw [hW]; exact below_new _ _
  have HRX : Hid (RowAt W w1.heap.size #[.int .i64 A.k, .slice (some ⟨g, 0, none⟩) A.nx.length gc, .slice ba A.ac.length bc]) := by show RowAt _ _ _; rw [hW]; exact RowAt.last _ _ _
  have HRAW : Hid (RowAt W w.heap.size #[.int .i64 A.k, .slice an A.nx.length cn, .slice aa A.ac.length ca]) := HRA.out.stay hWb
  have HBW : Hid (Below w.heap.size w W) := go_on HB1.out hWb
  have HGL : Hid (g < W.heap.size) := by have := HG1.out; have := hWb.size; show _ < _; omega
  have HX : Hid (∀ y, Below W.heap.size W y → AR y (.agg #[.int .i64 A.k, .slice (some ⟨g, 0, none⟩) A.nx.length gc, .slice ba A.ac.length bc]) A) := fun y hy => ⟨_, _, _, _, rfl, (lent_sr HI1.out).stay (hWb.trans (hy.mono hWb.size)), (own_sr HBO.out).stay (hWb.trans (hy.mono hWb.size))⟩
  have HSTY : Hid (∀ y, Below W.heap.size W y → Calls Try.prog 45 #[.agg #[.int .i64 A.k, .slice (some ⟨g, 0, none⟩) A.nx.length gc, .slice ba A.ac.length bc], .agg #[.int .i64 A.k, .slice an A.nx.length cn, .slice aa A.ac.length ca]] y fun e w' => e = .returned (.bool true) ∧ Below y.heap.size y w') := fun y hy =>
    stay8_any A y _ (HAR.out y (go_on HBW.out hy)) _ g gc ba bc (by omega) (by omega) (own_below (own_below HI1.out hWb) hy) (((own_sr HBO.out).stay hWb).stay hy)
  have HCW : Hid (∀ y, Below W.heap.size W y → ∃ cs : Array Value, y.heap[g]? = some (.cells cs 3 (0, 0)) ∧ A.nx.length ≤ cs.size) := fun y hy => by
    obtain ⟨cs, hc, hs⟩ := HCS1.out
    exact ⟨cs, (hy.block g HGL.out).trans ((hWb.block g HG1.out.2).trans hc), hs⟩
  clear hW hWb HRA HCS1
  go_wp2_with fail
  rw [← HWE.out]
  refine (build_lows _ A _ (HX.out _ (Below.refl _ _)) (by omega) (by omega)).mono ?_
  rintro e w2 (⟨hne, rfl, hb2⟩ | ⟨ob, M, N, rfl, G, h64, hE, hmo, hb2⟩)
  · have HB2 : Hid (Below W.heap.size W w2) := hb2
    have HNE : Hid (bdE A ≠ 0) := hne
    obtain ⟨E, hEE⟩ : ∃ E, bdE A = E := ⟨_, rfl⟩
    have HEE : Hid (bdE A = E) := hEE
    have hE0 : E ≠ 0 := by rw [← hEE]; exact hne
    have cs2 := (HRAW.out.stay hb2).cell
    rw [hEE]
    clear hb2 hne hEE
    go_wp2_with fail
    refine (HRB.out _ (go_on HBW.out HB2.out)).mono ?_
    rintro e w3 (⟨_, rfl, hb3⟩ | ⟨rb, M, N, _, G, h64, hel, _⟩)
    · rw [HEE.out]
      have HB3 : Hid (Below W.heap.size W w3) := go_on HB2.out hb3
      have cs3 := (HRAW.out.stay HB3.out).cell
      have cx3 := (HRX.out.stay HB3.out).cell
      have hq0 : (E == 0) = false := by rw [beq_eq_false_iff_ne]; exact hE0
      have hqd : decide (E = 0) = false := decide_eq_false hE0
      have hqE : (E == E) = true := by simp
      have HNM : Hid (∀ y, Calls Try.prog 23 #[.int .i64 E] y fun e w' => e = .returned (.int .i64 E) ∧ y = w') := fun y => num14_any E y
      clear hb3 hE0 cs2
      go_wp2_with fail
      refine (HNM.out _).mono ?_
      rintro e y3 ⟨rfl, hy3⟩
      subst hy3
      go_wp2_with fail
      refine (HSTY.out _ HB3.out).mono ?_
      rintro e w4 ⟨rfl, hb4⟩
      have HRX4 : Hid (RowAt w4 w1.heap.size #[.int .i64 A.k, .slice (some ⟨g, 0, none⟩) A.nx.length gc, .slice ba A.ac.length bc]) := HRX.out.stay (go_on HB3.out hb4)
      have HB4 : Hid (Below w.heap.size w w4) := go_on (go_on HBW.out HB3.out) hb4
      have HC4 : Hid (∃ cs : Array Value, w4.heap[g]? = some (.cells cs 3 (0, 0)) ∧ A.nx.length ≤ cs.size) := HCW.out _ (go_on HB3.out hb4)
      clear hb4 cs3 cx3 HB3 HB2
      go_wp2_with fail
      go_loopw [12] (fun vi wr => ∃ i : Nat, vi = .int .i64 i ∧ i ≤ A.nx.length ∧ RowAt wr w1.heap.size #[.int .i64 A.k, .slice (some ⟨g, 0, none⟩) A.nx.length gc, .slice ba A.ac.length bc] ∧ Below w.heap.size w wr ∧ (∃ cs : Array Value, wr.heap[g]? = some (.cells cs 3 (0, 0)) ∧ A.nx.length ≤ cs.size) ) (fun vi _ => A.nx.length - (Go.RowKit.intOf vi).toNat)
      case atStart => exact ⟨0, rfl, Nat.zero_le _, HRX4.out, HB4.out, HC4.out⟩
      case round =>
        clear HRX4 HB4 HC4
        obtain ⟨i, rfl, hin, hrx, hb, hc⟩ := hrel
        have HRX : Hid (RowAt wr w1.heap.size #[.int .i64 A.k, .slice (some ⟨g, 0, none⟩) A.nx.length gc, .slice ba A.ac.length bc]) := hrx
        have HB : Hid (Below w.heap.size w wr) := hb
        have HC : Hid (∃ cs : Array Value, wr.heap[g]? = some (.cells cs 3 (0, 0)) ∧ A.nx.length ≤ cs.size) := hc
        have c1 : wr.cell? ⟨w1.heap.size, 1, none⟩ = some (.slice (some ⟨g, 0, none⟩) A.nx.length gc) := hrx.cell 1
        clear hrx hb hc
        have hnl := HNL.out
        by_cases hlt : i < A.nx.length
        · have hiI : (i : Int) < A.nx.length := by omega
          have hid : decide ((i : Int) < A.nx.length) = true := decide_eq_true hiI
          obtain ⟨cs, hcs, hsz⟩ := HC.out
          have hcg : wr.cell? ⟨g, i, none⟩ = some (pvS wr g i) := by unfold pvS; rw [cell_of_row _ _ _ _ _ _ hcs, Array.getElem?_eq_getElem (by omega)]; rfl
          have hfg : wr.frozen? ⟨g, i, none⟩ = false := frozen_blk hcs i
          have HRXN : Hid (RowAt (wr.setCell ⟨g, i, none⟩ (.int .i64 (-5))) w1.heap.size #[.int .i64 A.k, .slice (some ⟨g, 0, none⟩) A.nx.length gc, .slice ba A.ac.length bc]) := rowAt_keep HRX.out (by simp [World.setCell]) (heap_set_other (by have := HG1.out; omega))
          have HBN : Hid (Below w.heap.size w (wr.setCell ⟨g, i, none⟩ (.int .i64 (-5)))) := HB.out.setCell (p := ⟨g, i, none⟩) (by have := HG1.out; show w.heap.size ≤ g; omega) _
          have HCN : Hid (∃ cs : Array Value, (wr.setCell ⟨g, i, none⟩ (.int .i64 (-5))).heap[g]? = some (.cells cs 3 (0, 0)) ∧ A.nx.length ≤ cs.size) := ⟨_, heap_set hcs, by simpa using hsz⟩
          clear hcs hsz
          go_wp2_with fail
          go_roundw
          case rel => exact ⟨i + 1, by go_num, by omega, HRXN.out, HBN.out, HCN.out⟩
          case measure => simp [Go.RowKit.intOf]; omega
        · have hiI : ¬ (i : Int) < A.nx.length := by omega
          have hid : decide ((i : Int) < A.nx.length) = false := decide_eq_false hiI
          go_wp2_with fail
          (try simp only [Exit.inBlock, Exit.then])
          refine bodyPost_ret (results_tmp4 rfl _ _ _) rfl ?_
          exact .inl ⟨HNE.out, rfl, HB.out⟩
    · exact absurd (bdE_ok G h64 hel) HNE.out
  · have HB2 : Hid (Below W.heap.size W w2) := hb2
    have HOK : Hid (Good A ∧ A.ac.length ≤ 64 ∧ mEl A = some (M, N)) := ⟨G, h64, hE⟩
    have HMO2 : Hid (MOb W.heap.size w2 ob A M N) := hmo
    have HS2 : Hid (W.heap.size ≤ w2.heap.size) := hb2.size
    have cs2 := (HRAW.out.stay hb2).cell
    clear hb2 G h64 hE hmo
    go_wp2_with fail
    refine (HRB.out _ (go_on HBW.out HB2.out)).mono ?_
    rintro e w3 (⟨hne, _, _⟩ | ⟨rb, M', N', rfl, G, h64, hel, hrf, hb3⟩)
    · exact absurd (bdE_ok HOK.out.1 HOK.out.2.1 HOK.out.2.2) hne
    · have hMN : M' = M ∧ N' = N := by
        have := HOK.out.2.2
        rw [hel, Option.some.injEq, Prod.mk.injEq] at this
        exact this
      obtain ⟨rfl, rfl⟩ := hMN
      obtain ⟨M, hM⟩ : ∃ z, z = M' := ⟨_, rfl⟩
      obtain ⟨N, hN⟩ : ∃ z, z = N' := ⟨_, rfl⟩
      rw [← hM, ← hN] at HOK HMO2 hrf
      have HB3 : Hid (Below W.heap.size W w3) := go_on HB2.out hb3
      have HMO3 : Hid (MOb W.heap.size w3 ob A M N) := HMO2.out.below hb3
      have HRF3 : Hid (RFb w2.heap.size w3 rb A M N) := hrf
      have cs3 := (HRAW.out.stay HB3.out).cell
      have cx3 := (HRX.out.stay HB3.out).cell
      have HNM : Hid (∀ y, Calls Try.prog 23 #[.int .i64 0] y fun e w' => e = .returned (.int .i64 0) ∧ y = w') := fun y => num14_any 0 y
      clear hb3 cs2 hM hN hrf G h64 hel HMO2
      go_wp2_with fail
      refine (HNM.out _).mono ?_
      rintro e y3 ⟨rfl, hy3⟩
      subst hy3
      go_wp2_with fail
      refine (HSTY.out _ HB3.out).mono ?_
      rintro e w4 ⟨rfl, hb4⟩
      have HRX4 : Hid (RowAt w4 w1.heap.size #[.int .i64 A.k, .slice (some ⟨g, 0, none⟩) A.nx.length gc, .slice ba A.ac.length bc]) := HRX.out.stay (go_on HB3.out hb4)
      have HB4 : Hid (Below w.heap.size w w4) := go_on (go_on HBW.out HB3.out) hb4
      have HC4 : Hid (∃ cs : Array Value, w4.heap[g]? = some (.cells cs 3 (0, 0)) ∧ A.nx.length ≤ cs.size) := HCW.out _ (go_on HB3.out hb4)
      have HMO4 : Hid (MOb W.heap.size w4 ob A M N) := HMO3.out.below hb4
      have HRF4 : Hid (RFb w2.heap.size w4 rb A M N) := HRF3.out.below hb4
      clear hb4 cs3 cx3 HB3 HB2 HMO3 HRF3
      go_wp2_with fail
      go_loopw [12] (fun vi wr => ∃ i : Nat, vi = .int .i64 i ∧ i ≤ A.nx.length ∧ RowAt wr w1.heap.size #[.int .i64 A.k, .slice (some ⟨g, 0, none⟩) A.nx.length gc, .slice ba A.ac.length bc] ∧ Below w.heap.size w wr ∧ (∃ cs : Array Value, wr.heap[g]? = some (.cells cs 3 (0, 0)) ∧ A.nx.length ≤ cs.size) ∧ MOb W.heap.size wr ob A M N ∧ RFb w2.heap.size wr rb A M N ) (fun vi _ => A.nx.length - (Go.RowKit.intOf vi).toNat)
      case atStart => exact ⟨0, rfl, Nat.zero_le _, HRX4.out, HB4.out, HC4.out, HMO4.out, HRF4.out⟩
      case round =>
        clear HRX4 HB4 HC4 HMO4 HRF4
        obtain ⟨i, rfl, hin, hrx, hb, hc, hmo, hrf⟩ := hrel
        have HMO : Hid (MOb W.heap.size wr ob A M N) := hmo
        have HRF : Hid (RFb w2.heap.size wr rb A M N) := hrf
        have HRX : Hid (RowAt wr w1.heap.size #[.int .i64 A.k, .slice (some ⟨g, 0, none⟩) A.nx.length gc, .slice ba A.ac.length bc]) := hrx
        have HB : Hid (Below w.heap.size w wr) := hb
        have HC : Hid (∃ cs : Array Value, wr.heap[g]? = some (.cells cs 3 (0, 0)) ∧ A.nx.length ≤ cs.size) := hc
        have c1 : wr.cell? ⟨w1.heap.size, 1, none⟩ = some (.slice (some ⟨g, 0, none⟩) A.nx.length gc) := hrx.cell 1
        clear hmo hrf
        clear hrx hb hc
        have hnl := HNL.out
        by_cases hlt : i < A.nx.length
        · have hiI : (i : Int) < A.nx.length := by omega
          have hid : decide ((i : Int) < A.nx.length) = true := decide_eq_true hiI
          obtain ⟨cs, hcs, hsz⟩ := HC.out
          have hcg : wr.cell? ⟨g, i, none⟩ = some (pvS wr g i) := by unfold pvS; rw [cell_of_row _ _ _ _ _ _ hcs, Array.getElem?_eq_getElem (by omega)]; rfl
          have hfg : wr.frozen? ⟨g, i, none⟩ = false := frozen_blk hcs i
          have HMN : Hid (MOb W.heap.size (wr.setCell ⟨g, i, none⟩ (.int .i64 (-5))) ob A M N) := HMO.out.set HGL.out hcs
          have HRN : Hid (RFb w2.heap.size (wr.setCell ⟨g, i, none⟩ (.int .i64 (-5))) rb A M N) := HRF.out.set (by have := HGL.out; have := HS2.out; omega)
          have HRXN : Hid (RowAt (wr.setCell ⟨g, i, none⟩ (.int .i64 (-5))) w1.heap.size #[.int .i64 A.k, .slice (some ⟨g, 0, none⟩) A.nx.length gc, .slice ba A.ac.length bc]) := rowAt_keep HRX.out (by simp [World.setCell]) (heap_set_other (by have := HG1.out; omega))
          have HBN : Hid (Below w.heap.size w (wr.setCell ⟨g, i, none⟩ (.int .i64 (-5)))) := HB.out.setCell (p := ⟨g, i, none⟩) (by have := HG1.out; show w.heap.size ≤ g; omega) _
          have HCN : Hid (∃ cs : Array Value, (wr.setCell ⟨g, i, none⟩ (.int .i64 (-5))).heap[g]? = some (.cells cs 3 (0, 0)) ∧ A.nx.length ≤ cs.size) := ⟨_, heap_set hcs, by simpa using hsz⟩
          clear hcs hsz
          go_wp2_with fail
          go_roundw
          case rel => exact ⟨i + 1, by go_num, by omega, HRXN.out, HBN.out, HCN.out, HMN.out, HRN.out⟩
          case measure => simp [Go.RowKit.intOf]; omega
        · have hiI : ¬ (i : Int) < A.nx.length := by omega
          have hid : decide ((i : Int) < A.nx.length) = false := decide_eq_false hiI
          go_wp2_with fail
          (try simp only [Exit.inBlock, Exit.then])
          refine bodyPost_ret (results_tmp4 rfl _ _ _) rfl ?_
          exact .inr ⟨ob, rb, M, N, rfl, HOK.out.1, HOK.out.2.1, HOK.out.2.2, HMO.out.mo, HRF.out.rf, HB.out⟩

end Go.Proofs.Ytenpeomnmbnoaaa

namespace Go.Proofs.Ytenpeomnmbnoaaa
open Go Go.ChangeShapes Go.WideShapes Go.ChangeAt Go.RowKit Go.Deep
set_option linter.unusedVariables false

theorem Try.cells_int1 : Try.prog.cellsOf 3 = 1 := by kernel_rfl
theorem Try.cells_bool1 : Try.prog.cellsOf 4 = 1 := by kernel_rfl
theorem Try.cells_ints1 : Try.prog.cellsOf 23 = 1 := by kernel_rfl
theorem Try.cells_bools1 : Try.prog.cellsOf 24 = 1 := by kernel_rfl
theorem Try.cells_auto : Try.prog.cellsOf 26 = 3 := by kernel_rfl
theorem Try.bytes_int1 : Try.prog.bytesOf 3 = 8 := by kernel_rfl
theorem Try.bytes_bool1 : Try.prog.bytesOf 4 = 1 := by kernel_rfl
theorem Try.laidOut : laidOutB Try.prog = true := by kernel_rfl
theorem vals_at {w : World} {a : Addr} {n : Nat} {f : Nat → Value} (h : ∀ i, i < n → w.cell? (a.add i) = some (f i)) (hp : 0 < n) : ∃ b off, a = ⟨b, off, none⟩ ∧ ∀ j, j < n → w.cell? ⟨b, off + j, none⟩ = some (f j) := by
  obtain ⟨b, off, spot⟩ := a
  have hspot : spot = none := by simpa [Addr.add] using World.cell?_spot (h 0 hp)
  subst hspot
  exact ⟨b, off, rfl, fun j hj => by rw [← Go.WideShapes.add_plain]; exact h j hj⟩

set_option maxRecDepth 100000 in
theorem open_auto {H : Type} {enc : TypeId × Value → H} {w : World} {held : Bool} {r : Reach} {b0 : Nat} {v : Value} {d : DataW H} {ps : List MemPlace} (hval : Value.okWide Try.prog w r b0 26 v) (hd : DataW.Trod enc Try.prog w 0 (fun _ => true) held 26 v d ps) :
    ∃ A : Aut, AR w v A ∧ NilOk v ∧ (Lit.int .i64 A.k).wf = true ∧ ∃ dk dn da, d = .agg [dk, dn, da] ∧ ((dn = .nil ∧ A.nx = []) ∨ ∃ e s, dn = .slice e s ∧ A.nx.length ≤ e.length + s.length) ∧ ((da = .nil ∧ A.ac = []) ∨ ∃ e s, da = .slice e s ∧ A.ac.length ≤ e.length + s.length) := by
  simp only [Value.okWide, Try.underlying26] at hval
  obtain ⟨cs, rfl, hsz, _⟩ := hval
  rw [Try.cells_auto] at hsz
  obtain ⟨fuel, hf⟩ := hd
  obtain ⟨y0, y1, y2, m, hx, _, h0, h1, h2⟩ := trod_struct3 Try.underlying26 hf
  obtain ⟨c0, c1, c2, hcs⟩ : ∃ c0 c1 c2, cs = #[c0, c1, c2] := ⟨cs[0], cs[1], cs[2], by
    apply Array.ext_getElem?
    intro i
    have : i = 0 ∨ i = 1 ∨ i = 2 ∨ 3 ≤ i := by omega
    rcases this with rfl | rfl | rfl | hi
    · simp [hsz]
    · simp [hsz]
    · simp [hsz]
    · rw [Array.getElem?_eq_none (by omega), Array.getElem?_eq_none (by simp; omega)]⟩
  subst hcs
  simp only [Try.cells_int1, Try.cells_ints1, Try.cells_bools1, Value.cells] at h0 h1 h2
  obtain ⟨k, ek, xk, wk⟩ := DataW.trod_int Try.underlying3 h0
  simp at ek
  subst ek
  simp only [Prod.mk.injEq] at hx
  obtain ⟨nx, an, cn, e1, s1, n1, d1⟩ : ∃ (nx : List Int) (an : Option Addr) (cn : Nat), c1 = .slice an nx.length cn ∧ SR w an (zC nx) ∧ (an = none → cn = 0) ∧ ((y1.1 = .nil ∧ nx = []) ∨ ∃ e s, y1.1 = .slice e s ∧ nx.length ≤ e.length + s.length) := by
    rcases open_ints Try.underlying23 Try.underlying3 Try.cells_int1 h1 with ⟨hc, hx1⟩ | ⟨a', len', cap', zs, hc, _, hl, _, hzl, hx1, hcells, _⟩
    · simp at hc
      subst hc
      exact ⟨[], none, 0, rfl, SR.nil _ _, fun _ => rfl, .inl ⟨by rw [hx1], rfl⟩⟩
    · simp at hc
      subst hc
      have hle : len' ≤ zs.length := by
        rw [hzl]
        split <;> omega
      refine ⟨zs.take len', some a', cap', by rw [List.length_take, Nat.min_eq_left hle], ?_, (fun h => by cases h), .inr ⟨_, _, by rw [hx1], ?_⟩⟩
      · intro i u hi
        have hi' : i < len' := by
          have := (List.getElem?_eq_some_iff.1 hi).1
          simp [zC] at this
          omega
        obtain ⟨b, off, rfl, hc⟩ := ints_at hcells (by omega)
        have hh := hc i (by omega)
        refine ⟨b, off, rfl, World.block_lt_of_cell? w _ hh, ?_⟩
        rw [hh, ← hi]
        simp [zC, List.getD_eq_getElem?_getD, hi', List.getElem?_eq_getElem (show i < zs.length by omega)]
      · simp [lits]
  obtain ⟨ac, aa, ca, e2, s2, n2, d2⟩ : ∃ (ac : List Bool) (aa : Option Addr) (ca : Nat), c2 = .slice aa ac.length ca ∧ SR w aa (bC ac) ∧ (aa = none → ca = 0) ∧ ((y2.1 = .nil ∧ ac = []) ∨ ∃ e s, y2.1 = .slice e s ∧ ac.length ≤ e.length + s.length) := by
    rcases open_bools Try.underlying24 Try.underlying4 Try.cells_bool1 h2 with ⟨hc, hx1⟩ | ⟨a', len', cap', B, hc, _, hl, _, hx1, hcells⟩
    · simp at hc
      subst hc
      exact ⟨[], none, 0, rfl, SR.nil _ _, fun _ => rfl, .inl ⟨by rw [hx1], rfl⟩⟩
    · simp at hc
      subst hc
      refine ⟨(List.range len').map B, some a', cap', by simp, ?_, (fun h => by cases h), .inr ⟨_, _, by rw [hx1]; rfl, by simp⟩⟩
      intro i u hi
      have hi' : i < len' := by
        have := (List.getElem?_eq_some_iff.1 hi).1
        simp [bC] at this
        omega
      obtain ⟨b, off, rfl, hc⟩ := vals_at (n := cap') (f := fun i => .bool (B i)) hcells (by omega)
      have hh := hc i (by omega)
      refine ⟨b, off, rfl, World.block_lt_of_cell? w _ hh, ?_⟩
      rw [hh, ← hi]
      simp [bC, hi']
  subst e1 e2
  exact ⟨⟨k, nx, ac⟩, ⟨an, cn, aa, ca, rfl, s1, s2⟩, fun k' an' n' cn' aa' m' ca' e => by simp at e; obtain ⟨_, ⟨rfl, _, rfl⟩, rfl, _, rfl⟩ := e; exact ⟨n1, n2⟩, wk, _, _, _, hx.1, d1, d2⟩
theorem sized_auto {H : Type} {ts : List TypeId} {ds : List (DataW H)} (h : (DataW.weightsEach Try.prog ts ds).all (· ≤ reachBytes) = true) {j : Nat} {dk dn da : DataW H} (ht : ts[j]? = some 26) (hd : ds[j]? = some (.agg [dk, dn, da])) :
    (∀ e s, dn = .slice e s → (e.length + s.length) * 8 ≤ reachBytes) ∧ (∀ e s, da = .slice e s → e.length + s.length ≤ reachBytes) := by
  constructor
  · intro e s he
    subst he
    have := List.all_eq_true.1 h _ (DataW.weights_mem_each ht hd ((e.length + s.length) * 8) (by simp [DataW.weights, DataW.weightsEach, Try.underlying26, Try.underlying23, Try.bytes_int1]))
    simpa using this
  · intro e s he
    subst he
    have := List.all_eq_true.1 h _ (DataW.weights_mem_each ht hd ((e.length + s.length) * 1) (by simp [DataW.weights, DataW.weightsEach, Try.underlying26, Try.underlying24, Try.bytes_bool1]))
    simpa using this
/-- The lists' lengths, by the form's own reach. -/
theorem auto_bounds {H : Type} {ts : List TypeId} {ds : List (DataW H)} (h : (DataW.weightsEach Try.prog ts ds).all (· ≤ reachBytes) = true) {j : Nat} {dk dn da : DataW H} (ht : ts[j]? = some 26) (hd : ds[j]? = some (.agg [dk, dn, da])) {A : Aut}
    (h1 : (dn = .nil ∧ A.nx = []) ∨ ∃ e s, dn = .slice e s ∧ A.nx.length ≤ e.length + s.length) (h2 : (da = .nil ∧ A.ac = []) ∨ ∃ e s, da = .slice e s ∧ A.ac.length ≤ e.length + s.length) :
    (A.nx.length + 2) * 8 ≤ 140737488355328 ∧ A.ac.length ≤ 140737488355328 := by
  obtain ⟨b1, b2⟩ := sized_auto h ht hd
  constructor
  · rcases h1 with ⟨_, e⟩ | ⟨e, s, he, hl⟩
    · rw [e]; decide
    · have := b1 e s he
      simp only [reachBytes] at this
      omega
  · rcases h2 with ⟨_, e⟩ | ⟨e, s, he, hl⟩
    · rw [e]; decide
    · have := b2 e s he
      simp only [reachBytes] at this
      omega
end Go.Proofs.Ytenpeomnmbnoaaa

namespace Go.Proofs.Ytenpeomnmbnoaaa
open Go Go.RowKit Go.Lib Go.Maps
set_option linter.unusedVariables false
attribute [-instance] List.instBEq instBEqProd

/-- The rule at place p of the right table, if there is one. -/
def rlT (K : Nat) (N : List Nat) (p : Nat) : Option (List Nat × List Nat) :=
  if lw K N (N.getD p 0) = lw K N (p / K) ++ [p % K] then none
  else if lw K N (mr K N 0 (lw K N (p / K) ++ [p % K]).tail) = (lw K N (p / K) ++ [p % K]).tail then some (lw K N (p / K) ++ [p % K], lw K N (N.getD p 0))
  else none

/-- The rules of the first p places. -/
def rlL (K : Nat) (N : List Nat) (p : Nat) : List (List Nat × List Nat) := (List.range p).filterMap (rlT K N)

theorem rlL_succ (K : Nat) (N : List Nat) (p : Nat) : rlL K N (p + 1) = rlL K N p ++ (rlT K N p).toList := by
  unfold rlL
  rw [List.range_succ, List.filterMap_append]
  cases h : rlT K N p <;> simp [h]

theorem rlL_len (K : Nat) (N : List Nat) (p : Nat) : (rlL K N p).length ≤ p := by
  have := List.length_filterMap_le (rlT K N) (List.range p)
  simpa [rlL] using this

def lfs (L : List (List Nat × List Nat)) : List (List Nat) := L.map fun x => x.1

def rts (L : List (List Nat × List Nat)) : List (List Nat) := L.map fun x => x.2

theorem rl_at {K : Nat} {i c : Nat} (hc : c < K) : (i * K + c) / K = i ∧ (i * K + c) % K = c := by
  constructor
  · rw [Nat.mul_comm, Nat.mul_add_div (by omega), Nat.div_eq_of_lt hc]; rfl
  · rw [Nat.mul_comm, Nat.mul_add_mod, Nat.mod_eq_of_lt hc]

theorem wb_inj {k : Nat} (hk : k ≤ 8) {u v : List Nat} (hu : Lt k u) (hv : Lt k v) (h : wb u = wb v) : u = v := by
  rw [← lets_wb hk hu, ← lets_wb hk hv, h]

theorem str_ne {X T : ByteArray} (h : X ≠ T) : @BEq.beq _ List.instBEq X.toList T.toList = false := by
  refine (@beq_eq_false_iff_ne (List UInt8) List.instBEq inferInstance X.toList T.toList).2 ?_
  intro e
  rw [ByteArray.toList_eq, ByteArray.toList_eq] at e
  exact h (ByteArray.ext (Array.toList_inj.1 e))

theorem str_eq (X : ByteArray) : @BEq.beq _ List.instBEq X.toList X.toList = true := (@beq_iff_eq (List UInt8) List.instBEq inferInstance X.toList X.toList).2 rfl

theorem wb_tail (l : List Nat) : (wb l).extract 1 (wb l).size = wb l.tail := by
  apply ByteArray.ext
  rw [ByteArray.data_extract]
  apply Array.ext'
  rw [Array.toList_extract, List.extract_eq_take_drop, wb_size]
  show ((l.map fun c => UInt8.ofNat (97 + c)).drop 1).take (l.length - 1) = l.tail.map fun c => UInt8.ofNat (97 + c)
  rw [List.take_of_length_le (by simp), List.drop_one, List.map_tail]

/-- Is a word the least word of its element? -/
def lsE (K : Nat) (N : List Nat) (u : List Nat) : Bool := decide (lw K N (mr K N 0 u) = u)

set_option maxHeartbeats 2000000 in
set_option maxRecDepth 100000 in
theorem isleast_any {w : World} {ob : Nat} {A : Aut} {M : List (List Nat)} {N : List Nat} (h : MO w ob A M N) (u : List Nat) (hu : Lt A.k.toNat u) (hz : u.length ≤ 9223372036854775807) :
    Calls Try.prog 63 #[.pointer (some ⟨ob, 0, none⟩), .string (wb u)] w fun e w' => e = .returned (.bool (lsE A.k.toNat N u)) ∧ Below w.heap.size w w' := by
  have hmon : Mon A M N := by
    obtain ⟨_, _, _, _, _, _, _, _, _, _, _, _, _, _, _, _, _, h0⟩ := h
    exact h0.mon
  have HEL : Hid (∀ y, Below w.heap.size w y → Calls Try.prog 50 #[.pointer (some ⟨ob, 0, none⟩), .string (wb u)] y fun e w' => e = .returned (.int .i64 (mr A.k.toNat N 0 u : Nat)) ∧ Below y.heap.size y w') := fun y hy => by
    obtain ⟨h1, h2⟩ := wb_lts hmon.G.k1 hmon.G.k8 hu
    have := melement_any (h.below hy) (wb u) h1 (by rw [wb_size]; exact hz)
    rw [lets_wb hmon.G.ks.2.1 hu] at this
    exact this
  have hl1 := hmon.lt hu hmon.pos
  have hl2 := (hmon.lw _ hl1).1
  have hk := hmon.G.ks.2.1
  obtain ⟨base, bt, b, mb, gw, ga, R, n, a, c, d, vl, D, an, cn, aa, ca, h⟩ := h
  have hnm := h.num
  have hms := hmon.most
  obtain ⟨x, hx⟩ : ∃ x, mr A.k.toNat N 0 u = x := ⟨_, rfl⟩
  have c5 : w.cell? ⟨ob, 5, none⟩ = some (.slice (some ⟨gw, 0, none⟩) n n) := cell_at h.box rfl
  rw [hx] at hl1 hl2 HEL
  have hw := h.wp.cell (j := x) (by omega)
  have hxI : (x : Int) < n := by omega
  have HE : Hid (lsE A.k.toNat N u = decide (lw A.k.toNat N x = u)) := by show _ = _; unfold lsE; rw [hx]
  have hobl : ob < w.heap.size := (Array.getElem?_eq_some_iff.1 h.box).1
  have hgwl : gw < w.heap.size := World.block_lt_of_cell? _ _ hw
  by_cases e : lw A.k.toNat N x = u
  · have HE2 : Hid (lsE A.k.toNat N u = true) := by show _ = _; rw [HE.out]; exact decide_eq_true e
    rw [e] at hw
    obtain ⟨T, hT⟩ : ∃ T, wb u = T := ⟨_, rfl⟩
    rw [hT] at hw HEL
    rw [hT]
    have hb0 := str_eq T
    have S0 : Below w.heap.size w w.drew ∧ w.drew.cell? ⟨ob, 5, none⟩ = some (.slice (some ⟨gw, 0, none⟩) n n) ∧ w.drew.cell? ⟨gw, x, none⟩ = some (.string T) := ⟨(Below.refl _ _).drew, c5, hw⟩
    have HSK : Hid (∀ y y' : World, (Below w.heap.size w y ∧ y.cell? ⟨ob, 5, none⟩ = some (.slice (some ⟨gw, 0, none⟩) n n) ∧ y.cell? ⟨gw, x, none⟩ = some (.string T)) → Below y.heap.size y y' → (Below w.heap.size w y' ∧ y'.cell? ⟨ob, 5, none⟩ = some (.slice (some ⟨gw, 0, none⟩) n n) ∧ y'.cell? ⟨gw, x, none⟩ = some (.string T))) := fun y y' hy hb => by
      have h1 := go_on hy.1 hb
      have hs := hy.1.size
      exact ⟨h1, by rw [below_cellJ hb (by omega)]; exact hy.2.1, by rw [below_cellJ hb (by omega)]; exact hy.2.2⟩
    clear h hnm hms e hx hl1 hl2 hT c5 hw hobl hgwl
    go_enter Try.func63, Try.ntmps63
    go_wp2_with fail
    go_region_held3 (fun y => Below w.heap.size w y ∧ y.cell? ⟨ob, 5, none⟩ = some (.slice (some ⟨gw, 0, none⟩) n n) ∧ y.cell? ⟨gw, x, none⟩ = some (.string T)) (first | exact S0 | assumption | exact HSK.out _ _ (by assumption) (by assumption)) (first | (go_at_call 50; refine (HEL.out _ (Below.refl _ _).drew).mono ?_; rintro e y1 ⟨rfl, hy1⟩))
    go_wp2_with fail
    go_ret
    exact ⟨by rw [HE2.out]; rfl, go_on (Below.refl _ _).drew hy1⟩
  · have HE2 : Hid (lsE A.k.toNat N u = false) := by show _ = _; rw [HE.out]; exact decide_eq_false e
    have hne : wb (lw A.k.toNat N x) ≠ wb u := fun q => e (wb_inj hk hl2 hu q)
    obtain ⟨T, hT⟩ : ∃ T, wb u = T := ⟨_, rfl⟩
    obtain ⟨V, hV⟩ : ∃ V, wb (lw A.k.toNat N x) = V := ⟨_, rfl⟩
    rw [hT] at HEL hne
    rw [hV] at hw hne
    rw [hT]
    have hb0 := str_ne hne
    have S0 : Below w.heap.size w w.drew ∧ w.drew.cell? ⟨ob, 5, none⟩ = some (.slice (some ⟨gw, 0, none⟩) n n) ∧ w.drew.cell? ⟨gw, x, none⟩ = some (.string V) := ⟨(Below.refl _ _).drew, c5, hw⟩
    have HSK : Hid (∀ y y' : World, (Below w.heap.size w y ∧ y.cell? ⟨ob, 5, none⟩ = some (.slice (some ⟨gw, 0, none⟩) n n) ∧ y.cell? ⟨gw, x, none⟩ = some (.string V)) → Below y.heap.size y y' → (Below w.heap.size w y' ∧ y'.cell? ⟨ob, 5, none⟩ = some (.slice (some ⟨gw, 0, none⟩) n n) ∧ y'.cell? ⟨gw, x, none⟩ = some (.string V))) := fun y y' hy hb => by
      have h1 := go_on hy.1 hb
      have hs := hy.1.size
      exact ⟨h1, by rw [below_cellJ hb (by omega)]; exact hy.2.1, by rw [below_cellJ hb (by omega)]; exact hy.2.2⟩
    clear h hnm hms e hx hl1 hl2 hT hV c5 hw hobl hgwl hne
    go_enter Try.func63, Try.ntmps63
    go_wp2_with fail
    go_region_held3 (fun y => Below w.heap.size w y ∧ y.cell? ⟨ob, 5, none⟩ = some (.slice (some ⟨gw, 0, none⟩) n n) ∧ y.cell? ⟨gw, x, none⟩ = some (.string V)) (first | exact S0 | assumption | exact HSK.out _ _ (by assumption) (by assumption)) (first | (go_at_call 50; refine (HEL.out _ (Below.refl _ _).drew).mono ?_; rintro e y1 ⟨rfl, hy1⟩))
    go_wp2_with fail
    go_ret
    exact ⟨by rw [HE2.out]; rfl, go_on (Below.refl _ _).drew hy1⟩

set_option maxHeartbeats 2000000 in
set_option maxRecDepth 100000 in
theorem rleast_any {w : World} {rb : Nat} {A : Aut} {M : List (List Nat)} {N : List Nat} (h : RF w rb A M N) (u : List Nat) (hu : Lt A.k.toNat u) (hz : u.length ≤ 9223372036854775807) :
    Calls Try.prog 64 #[.pointer (some ⟨rb, 0, none⟩), .string (wb u)] w fun e w' => e = .returned (.bool (lsE A.k.toNat N u)) ∧ Below w.heap.size w w' := by
  have H : RF w rb A M N := h
  obtain ⟨an, cn, aa, ca, gi, ci, gw, cw, gn, cg, h⟩ := h
  have hk := h.mon.G.ks.2.1
  have hms := h.mon.most
  have HEL : Hid (∀ y, Below w.heap.size w y → Calls Try.prog 53 #[.pointer (some ⟨rb, 0, none⟩), .int .i64 0, .string (wb u)] y fun e w' => e = .returned (.int .i64 (mr A.k.toNat N 0 u : Nat)) ∧ Below y.heap.size y w') := fun y hy => by
    obtain ⟨h1, h2⟩ := wb_lts h.mon.G.k1 h.mon.G.k8 hu
    have := rgoM_any (H.below hy) 0 h.mon.pos (wb u) h1 (by rw [wb_size]; exact hz)
    rw [lets_wb hk hu] at this
    exact this
  have hl1 := h.mon.lt hu h.mon.pos
  have hl2 := (h.mon.lw _ hl1).1
  obtain ⟨x, hx⟩ : ∃ x, mr A.k.toNat N 0 u = x := ⟨_, rfl⟩
  have c5 : w.cell? ⟨rb, 4, none⟩ = some (.slice (some ⟨gw, 0, none⟩) M.length cw) := cell_at h.box rfl
  rw [hx] at hl1 hl2 HEL
  have hw := h.wds x hl1
  have hxI : (x : Int) < M.length := by omega
  have HE : Hid (lsE A.k.toNat N u = decide (lw A.k.toNat N x = u)) := by show _ = _; unfold lsE; rw [hx]
  have hobl : rb < w.heap.size := (Array.getElem?_eq_some_iff.1 h.box).1
  have hgwl : gw < w.heap.size := World.block_lt_of_cell? _ _ hw
  by_cases e : lw A.k.toNat N x = u
  · have HE2 : Hid (lsE A.k.toNat N u = true) := by show _ = _; rw [HE.out]; exact decide_eq_true e
    rw [e] at hw
    obtain ⟨T, hT⟩ : ∃ T, wb u = T := ⟨_, rfl⟩
    rw [hT] at hw HEL
    rw [hT]
    have hb0 := str_eq T
    have S0 : Below w.heap.size w w.drew ∧ w.drew.cell? ⟨rb, 4, none⟩ = some (.slice (some ⟨gw, 0, none⟩) M.length cw) ∧ w.drew.cell? ⟨gw, x, none⟩ = some (.string T) := ⟨(Below.refl _ _).drew, c5, hw⟩
    have HSK : Hid (∀ y y' : World, (Below w.heap.size w y ∧ y.cell? ⟨rb, 4, none⟩ = some (.slice (some ⟨gw, 0, none⟩) M.length cw) ∧ y.cell? ⟨gw, x, none⟩ = some (.string T)) → Below y.heap.size y y' → (Below w.heap.size w y' ∧ y'.cell? ⟨rb, 4, none⟩ = some (.slice (some ⟨gw, 0, none⟩) M.length cw) ∧ y'.cell? ⟨gw, x, none⟩ = some (.string T))) := fun y y' hy hb => by
      have h1 := go_on hy.1 hb
      have hs := hy.1.size
      exact ⟨h1, by rw [below_cellJ hb (by omega)]; exact hy.2.1, by rw [below_cellJ hb (by omega)]; exact hy.2.2⟩
    clear h H hms e hx hl1 hl2 hT c5 hw hobl hgwl
    go_enter Try.func64, Try.ntmps64
    go_wp2_with fail
    go_region_held3 (fun y => Below w.heap.size w y ∧ y.cell? ⟨rb, 4, none⟩ = some (.slice (some ⟨gw, 0, none⟩) M.length cw) ∧ y.cell? ⟨gw, x, none⟩ = some (.string T)) (first | exact S0 | assumption | exact HSK.out _ _ (by assumption) (by assumption)) (first | (go_at_call 53; refine (HEL.out _ (Below.refl _ _).drew).mono ?_; rintro e y1 ⟨rfl, hy1⟩))
    go_wp2_with fail
    go_ret
    exact ⟨by rw [HE2.out]; rfl, go_on (Below.refl _ _).drew hy1⟩
  · have HE2 : Hid (lsE A.k.toNat N u = false) := by show _ = _; rw [HE.out]; exact decide_eq_false e
    have hne : wb (lw A.k.toNat N x) ≠ wb u := fun q => e (wb_inj hk hl2 hu q)
    obtain ⟨T, hT⟩ : ∃ T, wb u = T := ⟨_, rfl⟩
    obtain ⟨V, hV⟩ : ∃ V, wb (lw A.k.toNat N x) = V := ⟨_, rfl⟩
    rw [hT] at HEL hne
    rw [hV] at hw hne
    rw [hT]
    have hb0 := str_ne hne
    have S0 : Below w.heap.size w w.drew ∧ w.drew.cell? ⟨rb, 4, none⟩ = some (.slice (some ⟨gw, 0, none⟩) M.length cw) ∧ w.drew.cell? ⟨gw, x, none⟩ = some (.string V) := ⟨(Below.refl _ _).drew, c5, hw⟩
    have HSK : Hid (∀ y y' : World, (Below w.heap.size w y ∧ y.cell? ⟨rb, 4, none⟩ = some (.slice (some ⟨gw, 0, none⟩) M.length cw) ∧ y.cell? ⟨gw, x, none⟩ = some (.string V)) → Below y.heap.size y y' → (Below w.heap.size w y' ∧ y'.cell? ⟨rb, 4, none⟩ = some (.slice (some ⟨gw, 0, none⟩) M.length cw) ∧ y'.cell? ⟨gw, x, none⟩ = some (.string V))) := fun y y' hy hb => by
      have h1 := go_on hy.1 hb
      have hs := hy.1.size
      exact ⟨h1, by rw [below_cellJ hb (by omega)]; exact hy.2.1, by rw [below_cellJ hb (by omega)]; exact hy.2.2⟩
    clear h H hms e hx hl1 hl2 hT hV c5 hw hobl hgwl hne
    go_enter Try.func64, Try.ntmps64
    go_wp2_with fail
    go_region_held3 (fun y => Below w.heap.size w y ∧ y.cell? ⟨rb, 4, none⟩ = some (.slice (some ⟨gw, 0, none⟩) M.length cw) ∧ y.cell? ⟨gw, x, none⟩ = some (.string V)) (first | exact S0 | assumption | exact HSK.out _ _ (by assumption) (by assumption)) (first | (go_at_call 53; refine (HEL.out _ (Below.refl _ _).drew).mono ?_; rintro e y1 ⟨rfl, hy1⟩))
    go_wp2_with fail
    go_ret
    exact ⟨by rw [HE2.out]; rfl, go_on (Below.refl _ _).drew hy1⟩

/-- A list of words that is the caller's own. -/
def OwnW (w : World) (base : Nat) (v : Value) (L : List (List Nat)) : Prop := w.ownsRow base 9 1 v L.length (sW L)

theorem sW_at {L : List (List Nat)} {j : Nat} (h : j < L.length) : (sW L)[j]? = some (.string (wb (L.getD j []))) := by
  unfold sW
  rw [List.getElem?_map, List.getElem?_eq_getElem h, List.getD_eq_getElem?_getD, List.getElem?_eq_getElem h]
  rfl

set_option maxHeartbeats 2000000 in
set_option maxRecDepth 100000 in
theorem sameW_any {w : World} {b1 b2 : Nat} {L : List (List Nat)} {a1 a2 : Option Addr} {c1 c2 : Nat} (h1 : OwnW w b1 (.slice a1 L.length c1) L) (h2 : OwnW w b2 (.slice a2 L.length c2) L) (hm : L.length ≤ 9223372036854775806) :
    Calls Try.prog 37 #[.slice a1 L.length c1, .slice a2 L.length c2] w fun e w' => e = .returned (.bool true) ∧ Below w.heap.size w w' := by
  have H1 : Hid (SR w a1 (sW L)) := own_sr h1
  have H2 : Hid (SR w a2 (sW L)) := own_sr h2
  clear h1 h2
  go_enter Try.func37, Try.ntmps37
  go_wp2_with fail
  go_loopw [5] (fun vi wr => ∃ i : Nat, vi = .int .i64 i ∧ i ≤ L.length ∧ Below w.heap.size w wr) (fun vi _ => L.length - (Go.RowKit.intOf vi).toNat)
  case atStart => exact ⟨0, rfl, Nat.zero_le _, Below.refl _ _⟩
  case round =>
    obtain ⟨i, rfl, hi, hb⟩ := hrel
    have HB : Hid (Below w.heap.size w wr) := hb
    by_cases hlt : i < L.length
    · have hiI : (i : Int) < L.length := by omega
      have hid : decide ((i : Int) < L.length) = true := decide_eq_true hiI
      obtain ⟨ga, oa, rfl, _, ca⟩ := (H1.out.stay hb) i _ (sW_at hlt)
      obtain ⟨gb, ob, rfl, _, cb⟩ := (H2.out.stay hb) i _ (sW_at hlt)
      obtain ⟨x, hx⟩ : ∃ x, wb (L.getD i []) = x := ⟨_, rfl⟩
      rw [hx] at ca cb
      have hxe := str_eq x
      have S0 : wr.drew.cell? ⟨ga, oa + i, none⟩ = some (.string x) ∧ wr.drew.cell? ⟨gb, ob + i, none⟩ = some (.string x) := ⟨ca, cb⟩
      have HBD : Hid (Below w.heap.size w wr.drew) := hb.drew
      clear hx hb ca cb
      go_wp2_with fail
      go_region_held3 (fun y => y.cell? ⟨ga, oa + i, none⟩ = some (.string x) ∧ y.cell? ⟨gb, ob + i, none⟩ = some (.string x)) (first | exact S0 | assumption) (fail)
      clear S0
      go_wp2_with fail
      go_roundw
      case rel => exact ⟨i + 1, by go_num, by omega, HBD.out⟩
      case measure => simp [Go.RowKit.intOf]; omega
    · have hiI : ¬ (i : Int) < L.length := by omega
      have hid : decide ((i : Int) < L.length) = false := decide_eq_false hiI
      clear hb
      go_wp2_with fail
      go_ret
      exact ⟨rfl, HB.out⟩

end Go.Proofs.Ytenpeomnmbnoaaa

namespace Go.Proofs.Ytenpeomnmbnoaaa
open Go Go.RowKit Go.Lib Go.Maps
set_option linter.unusedVariables false
attribute [-instance] List.instBEq instBEqProd

/-- Two lists of words of the call's own, that lie apart. -/
structure TwoW (w wr : World) (vl vr : Value) (L R : List (List Nat)) : Prop where
  l : OwnW wr w.heap.size vl L
  r : OwnW wr w.heap.size vr R
  ap : ∀ j, vl.ownBlock = some j → vr.ownBlock ≠ some j
  below : Below w.heap.size w wr

theorem TwoW.start (w : World) : TwoW w w (.slice none 0 0) (.slice none 0 0) [] [] := ⟨World.ownsRow_nil _ _ _ _, World.ownsRow_nil _ _ _ _, (fun j hj => by cases hj), Below.refl _ _⟩

theorem TwoW.call {w wr w' : World} {vl vr : Value} {L R : List (List Nat)} (h : TwoW w wr vl vr L R) (hb : Below wr.heap.size wr w') : TwoW w w' vl vr L R := ⟨own_below h.l hb, own_below h.r hb, h.ap, go_on h.below hb⟩

theorem TwoW.swap {w wr : World} {vl vr : Value} {L R : List (List Nat)} (h : TwoW w wr vl vr L R) : TwoW w wr vr vl R L := ⟨h.r, h.l, fun j hj hk => h.ap j hk hj, h.below⟩

theorem TwoW.left {w wr w7 : World} {vl vr vl' : Value} {L R : List (List Nat)} {u : List Nat} {o : Obj} {q : Nat} (h : TwoW w wr vl vr L R) (ho : w7.ownsRow w.heap.size 9 1 vl' (L.length + 1) (sW L ++ [.string (wb u)])) (hg : (wr.alloc o).grownBy w7 vl.ownBlock) (hl : vl'.ownBlock = vl.ownBlock ∨ vl'.ownBlock = some q) (hq : wr.heap.size ≤ q) : TwoW w w7 vl' vr (L ++ [u]) R := by
  refine ⟨?_, own_keep h.r (fun b cur hb hc => ?_), fun j hj hk => ?_, ?_⟩
  · unfold OwnW
    rw [List.length_append, sW_snoc]
    exact ho
  · have hbl := (Array.getElem?_eq_some_iff.1 hc).1
    rw [hg.block b (by simp; omega) (fun e => h.ap b e.symm hb), (below_new wr o).block b hbl]
  · rcases hl with r | r
    · exact h.ap j (r.symm.trans hj) hk
    · have := (h.r.lt j hk).2
      rw [r] at hj
      simp only [Option.some.injEq] at hj
      omega
  · exact (h.below.alloc h.below.size o).grown hg (by have := h.below.size; simp; omega) (fun b hb => (h.l.lt b hb).1)

theorem lfs_snoc (L : List (List Nat × List Nat)) (x : List Nat × List Nat) : lfs (L ++ [x]) = lfs L ++ [x.1] := by simp [lfs]

theorem rts_snoc (L : List (List Nat × List Nat)) (x : List Nat × List Nat) : rts (L ++ [x]) = rts L ++ [x.2] := by simp [rts]

theorem rl_next {K : Nat} {N : List Nat} {i c : Nat} (hc : c < K) : rlL K N (i * K + (c + 1)) = rlL K N (i * K + c) ++ (if lw K N (N.getD (i * K + c) 0) = lw K N i ++ [c] then [] else if lsE K N (lw K N i ++ [c]).tail = true then [(lw K N i ++ [c], lw K N (N.getD (i * K + c) 0))] else []) := by
  rw [← Nat.add_assoc, rlL_succ]
  congr 1
  unfold rlT
  obtain ⟨h1, h2⟩ := rl_at (i := i) hc
  rw [h1, h2]
  unfold lsE
  by_cases e : lw K N (N.getD (i * K + c) 0) = lw K N i ++ [c]
  · rw [if_pos e, if_pos e]; rfl
  · rw [if_neg e, if_neg e]
    by_cases f : lw K N (mr K N 0 (lw K N i ++ [c]).tail) = (lw K N i ++ [c]).tail
    · rw [if_pos f, if_pos (decide_eq_true f)]; rfl
    · rw [if_neg f, if_neg (by rw [decide_eq_true_iff]; exact f)]; rfl

/-- What Rules answers. -/
def RuQ (L R : List (List Nat)) (w : World) (e : Ending) (w' : World) : Prop := ∃ vl vr, e = .returned (.tuple #[vl, vr]) ∧ TwoW w w' vl vr L R

set_option maxHeartbeats 8000000 in
set_option maxRecDepth 100000 in
theorem mrules_any {w : World} {ob : Nat} {A : Aut} {M : List (List Nat)} {N : List Nat} (h : MO w ob A M N) : Calls Try.prog 35 #[.pointer (some ⟨ob, 0, none⟩)] w (RuQ (lfs (rlL A.k.toNat N N.length)) (rts (rlL A.k.toNat N N.length)) w) := by
  have HMD : Hid (MO w ob A M N) := h
  have HIL : Hid (∀ y u, Below w.heap.size w y → Lt A.k.toNat u → u.length ≤ 9223372036854775807 → Calls Try.prog 63 #[.pointer (some ⟨ob, 0, none⟩), .string (wb u)] y fun e w' => e = .returned (.bool (lsE A.k.toNat N u)) ∧ Below y.heap.size y w') := fun y u hy hu hz => isleast_any (h.below hy) u hu hz
  obtain ⟨base, bt, b, mb, gw, ga, R, n, a, cc, d, vl, D, an, cn, aa, ca, h⟩ := h
  have HMon : Hid (Mon A M N) := h.mon
  have hks := h.mon.G.ks
  have hnm := h.num
  have hms := h.mon.most
  have HNL : Hid (N.length = n * A.k.toNat) := by show _ = _; rw [h.mon.len, hnm.1]
  have HBX : Hid (w.heap[ob]? = some (.cells #[.pointer (some ⟨ob, 0, none⟩), .int .i64 A.k, .slice an A.nx.length cn, .slice aa A.ac.length ca, .pointer (some ⟨b, 0, none⟩), .slice (some ⟨gw, 0, none⟩) n n, .slice (some ⟨ga, 0, none⟩) n n, .int .i64 (A.k.toNat : Int), .slice (some ⟨R, 0, none⟩) a a, .int .i64 (A.k.toNat : Int), .slice (some ⟨R, a, none⟩) a a, .int .i64 (n : Int), .slice (some ⟨R, d, none⟩) cc cc] 35 (0, 0))) := h.box
  have HWP : Hid (WP w gw A.k.toNat n N n) := h.wp
  have HRT : Hid (RT w R n A.k.toNat N (fun _ _ => True) (fun _ _ => True)) := h.rt
  have c0 : w.cell? ⟨ob, 0, none⟩ = some (.pointer (some ⟨ob, 0, none⟩)) := cell_at h.box rfl
  have c5 : w.cell? ⟨ob, 5, none⟩ = some (.slice (some ⟨gw, 0, none⟩) n n) := cell_at h.box rfl
  have hn5 : n ≤ 512 := by omega
  obtain ⟨K, hK⟩ : ∃ K, A.k.toNat = K := ⟨_, rfl⟩
  have HKA : Hid (A.k.toNat = K) := hK
  have hkI : A.k = (K : Int) := by omega
  rw [hK] at HIL HNL HWP HRT hks
  rw [hK]
  have hKb : 1 ≤ K ∧ K ≤ 8 := ⟨hks.1, hks.2.1⟩
  have HNM : Hid (M.length = n ∧ n * K = a) := by rw [hK] at hnm; exact ⟨hnm.1, hnm.2.1⟩
  rw [hK, hkI] at HBX
  obtain ⟨i0, hi0, hz0, hz1, hz2⟩ := info_parts Try.info_str
  clear h hnm hms hK hks hkI
  go_enter Try.func35, Try.ntmps35
  go_wp2_with fail
  refine (mmade_any HMD.out).mono ?_
  rintro e w1 ⟨rfl, rfl⟩
  go_wp2_with fail
  clear c0 c5
  go_loopw [17, 2, 3, 4, 5, 6, 7, 8] (fun vi vl vr _ _ _ _ _ wr => ∃ i : Nat, vi = .int .i64 i ∧ i ≤ n ∧ TwoW w wr vl vr (lfs (rlL K N (i * K))) (rts (rlL K N (i * K)))) (fun vi _ _ _ _ _ _ _ _ => n - (Go.RowKit.intOf vi).toNat)
  case atStart => exact ⟨0, rfl, Nat.zero_le _, by rw [Nat.zero_mul]; exact TwoW.start w⟩
  case round =>
    obtain ⟨i, rfl, hin, hT⟩ := hrel
    obtain ⟨w2, hw2⟩ : ∃ z, z = wr := ⟨_, rfl⟩
    subst hw2
    have HT : Hid (TwoW w w2 u2 u3 (lfs (rlL K N (i * K))) (rts (rlL K N (i * K)))) := hT
    by_cases hlt : i < n
    · have hiI : (i : Int) < n := by omega
      have hid : decide ((i : Int) < n) = true := decide_eq_true hiI
      have HI : Hid (i < n) := hlt
      obtain ⟨U, hU⟩ : ∃ U, wb (lw K N i) = U := ⟨_, rfl⟩
      have HU : Hid (wb (lw K N i) = U) := hU
      have hcu : w2.cell? ⟨gw, i, none⟩ = some (.string U) := by
        have := HWP.out.cell hlt
        rw [hU] at this
        rw [below_cellJ hT.below (World.block_lt_of_cell? _ _ this)]
        exact this
      have hbx2 : w2.heap[ob]? = w.heap[ob]? := hT.below.block _ (Array.getElem?_eq_some_iff.1 HBX.out).1
      have c1 : w2.cell? ⟨ob, 1, none⟩ = some (.int .i64 (K : Int)) := cell_at (hbx2.trans HBX.out) rfl
      clear hU hT hlt hbx2
      go_wp2_with fail
      clear c1 hcu
      go_loopw [27, 2, 3, 6, 7, 8] (fun vc vl vr _ _ _ wr => ∃ c : Nat, vc = .int .i64 c ∧ c ≤ K ∧ TwoW w wr vl vr (lfs (rlL K N (i * K + c))) (rts (rlL K N (i * K + c)))) (fun vc _ _ _ _ _ _ => K - (Go.RowKit.intOf vc).toNat)
      case atStart => exact ⟨0, rfl, Nat.zero_le _, HT.out⟩
      case round =>
        clear HT
        obtain ⟨c, rfl, hcK, hT⟩ := hrel
        obtain ⟨w3, hw3⟩ : ∃ z, z = wr := ⟨_, rfl⟩
        subst hw3
        have HT : Hid (TwoW w w3 u2 u3 (lfs (rlL K N (i * K + c))) (rts (rlL K N (i * K + c)))) := hT
        clear hT
        by_cases hlc : c < K
        · have hcI : (c : Int) < K := by omega
          have hcd : decide ((c : Int) < K) = true := decide_eq_true hcI
          have HC : Hid (c < K) := hlc
          obtain ⟨q, hq⟩ : ∃ q, i * K = q := ⟨_, rfl⟩
          have HQ : Hid (i * K = q) := hq
          have hna : a ≤ 512 * 8 := by rw [← HNM.out.2]; exact Nat.mul_le_mul hn5 hKb.2
          have hqlt : q + c < a := by rw [← hq, ← HNM.out.2]; exact idx_lt HI.out hlc
          obtain ⟨D, hD⟩ : ∃ D, N.getD (q + c) 0 = D := ⟨_, rfl⟩
          have HD : Hid (N.getD (q + c) 0 = D) := hD
          have hDn : D < n := by
            rw [← hD, ← HNM.out.1]
            exact HMon.out.nl (by rw [HNL.out, HNM.out.2]; exact hqlt)
          have hDI : (D : Int) < n := by omega
          have HGA : Hid (∀ y, RT y R n K N (fun _ _ => True) (fun _ _ => True) → Calls Try.prog 51 #[.agg #[.int .i64 (K : Int), .slice (some ⟨R, 0, none⟩) a a], .int .i64 i, .int .i64 c] y fun e w' => e = .returned (.int .i64 D) ∧ Below y.heap.size y w') := fun y hy => by
            refine gat_any R 0 K i c a a q D hq hqlt (by omega) (by omega) y ?_ hy.lt
            have := hy.right (p := q + c) (by rw [HNM.out.2]; exact hqlt)
            rw [hD] at this
            rw [Nat.zero_add]
            exact this
          obtain ⟨L, hL⟩ : ∃ L : ByteArray, (⟨#[UInt8.ofNat (97 + c)]⟩ : ByteArray) = L := ⟨_, rfl⟩
          have HLO : Hid (∀ y, Calls Try.prog 62 #[.int .i64 c] y fun e w' => e = .returned (.string L) ∧ y = w') := fun y => by
            have := letterOf_any c (by omega) y
            rw [hL] at this
            exact this
          obtain ⟨V, hV⟩ : ∃ V, wb (lw K N D) = V := ⟨_, rfl⟩
          have HV : Hid (wb (lw K N D) = V) := hV
          have hcv : w.cell? ⟨gw, D, none⟩ = some (.string V) := by have := HWP.out.cell hDn; rw [hV] at this; exact this
          have HX : Hid (wb (lw K N i ++ [c]) = U ++ L) := by show _ = _; rw [← wb_snoc, HU.out, hL]
          have hll : (lw K N i).length ≤ 512 := by
            have := lw_len HMon.out.fst i (by have := HI.out; have := HNM.out.1; omega)
            rw [HKA.out] at this
            have := HI.out
            omega
          have hUs : U.size ≤ 512 := by rw [← HU.out, wb_size]; exact hll
          have hLs : L.size = 1 := by rw [← hL]; rfl
          have hmx : IntKind.i64.max = 9223372036854775807 := by decide
          have hxs3 : ¬ IntKind.i64.max < ((U.size + L.size : Nat) : Int) := by rw [hmx]; omega
          have hcat := run_cat hxs3
          have hul1 : U.size + L.size ≤ 9223372036854775807 := by omega
          have hul2 : ¬ (9223372036854775807 : Int) < (U.size : Int) + (L.size : Int) := by omega
          have HSK : Hid (∀ y, Below w.heap.size w y → (y.cell? ⟨ob, 5, none⟩ = some (.slice (some ⟨gw, 0, none⟩) n n) ∧ y.cell? ⟨ob, 7, none⟩ = some (.int .i64 (K : Int)) ∧ y.cell? ⟨ob, 8, none⟩ = some (.slice (some ⟨R, 0, none⟩) a a) ∧ y.cell? ⟨gw, D, none⟩ = some (.string V) ∧ Below w.heap.size w y)) := fun y hy => by
            have e := (hy.block _ (Array.getElem?_eq_some_iff.1 HBX.out).1).trans HBX.out
            exact ⟨cell_at e rfl, cell_at e rfl, cell_at e rfl, by rw [below_cellJ hy (World.block_lt_of_cell? _ _ hcv)]; exact hcv, hy⟩
          have HSS : Hid (∀ y y', (y.cell? ⟨ob, 5, none⟩ = some (.slice (some ⟨gw, 0, none⟩) n n) ∧ y.cell? ⟨ob, 7, none⟩ = some (.int .i64 (K : Int)) ∧ y.cell? ⟨ob, 8, none⟩ = some (.slice (some ⟨R, 0, none⟩) a a) ∧ y.cell? ⟨gw, D, none⟩ = some (.string V) ∧ Below w.heap.size w y) → Below y.heap.size y y' → (y'.cell? ⟨ob, 5, none⟩ = some (.slice (some ⟨gw, 0, none⟩) n n) ∧ y'.cell? ⟨ob, 7, none⟩ = some (.int .i64 (K : Int)) ∧ y'.cell? ⟨ob, 8, none⟩ = some (.slice (some ⟨R, 0, none⟩) a a) ∧ y'.cell? ⟨gw, D, none⟩ = some (.string V) ∧ Below w.heap.size w y')) := fun y y' hy hb => HSK.out y' (go_on hy.2.2.2.2 hb)
          have S0 := HSK.out _ HT.out.below.drew
          have HRW : Hid (RT w3.drew R n K N (fun _ _ => True) (fun _ _ => True)) := HRT.out.keep (HT.out.below.drew.block _ HRT.out.lt)
          clear hq hD hL hV hcv hmx hxs3
          go_upto_region 9 with fail
          go_cut [7, 8] (fun v7 v8 wx => v7 = .string (U ++ L) ∧ v8 = .string V ∧ ∃ wz, wz = wx ∧ Below w3.heap.size w3 wz)
          case first =>
            go_region_held3 (fun y => y.cell? ⟨ob, 5, none⟩ = some (.slice (some ⟨gw, 0, none⟩) n n) ∧ y.cell? ⟨ob, 7, none⟩ = some (.int .i64 (K : Int)) ∧ y.cell? ⟨ob, 8, none⟩ = some (.slice (some ⟨R, 0, none⟩) a a) ∧ y.cell? ⟨gw, D, none⟩ = some (.string V) ∧ Below w.heap.size w y) (first | exact S0 | assumption | exact HSS.out _ _ (by assumption) (by assumption)) (first
              | (go_at_call 62; refine (HLO.out _).mono ?_; rintro e y0 ⟨rfl, rfl⟩)
              | (go_at_call 51; refine (HGA.out _ HRW.out).mono ?_; rintro e y1 ⟨rfl, hy1⟩))
            all_goals go_wp2_with fail
            all_goals go_meet
            all_goals exact ⟨rfl, rfl, _, rfl, go_on (Below.refl _ _).drew hy1⟩
          case rest =>
            obtain ⟨rfl, rfl, w4, rfl, hb4⟩ := hcut
            have HT4 : Hid (TwoW w w4 u2 u3 (lfs (rlL K N (i * K + c))) (rts (rlL K N (i * K + c)))) := HT.out.call hb4
            clear hb4 S0 HT hcat
            obtain ⟨X, hX⟩ : ∃ X, U ++ L = X := ⟨_, rfl⟩
            have HXX : Hid (wb (lw K N i ++ [c]) = X) := by show _ = _; rw [HX.out, hX]
            rw [hX]
            have hXs : X.size ≤ 281474976710656 := by rw [← HXX.out, wb_size]; simp; omega
            have hX1 : 1 ≤ X.size := by rw [← HXX.out, wb_size]; simp
            have hlD : (lw K N D).length ≤ 512 := by
              have := lw_len HMon.out.fst D (by have := HNM.out.1; omega)
              rw [HKA.out] at this
              omega
            have hVs : V.size ≤ 281474976710656 := by rw [← HV.out, wb_size]; omega
            have hlt1 : Lt K (lw K N i ++ [c]) := by
              have h1 := (HMon.out.lw i (by have := HI.out; have := HNM.out.1; omega)).1
              rw [HKA.out] at h1
              exact h1.app (Lt.one HC.out)
            have hlt2 : Lt K (lw K N D) := by
              have h1 := (HMon.out.lw D (by have := HNM.out.1; omega)).1
              rw [HKA.out] at h1
              exact h1
            have HNX : Hid (rlL K N (i * K + (c + 1)) = rlL K N (i * K + c) ++ (if lw K N D = lw K N i ++ [c] then [] else if lsE K N (lw K N i ++ [c]).tail = true then [(lw K N i ++ [c], lw K N D)] else [])) := by
              have := rl_next (N := N) (i := i) HC.out
              rw [HQ.out, HD.out] at this
              show _ = _
              rw [HQ.out]
              exact this
            have hll4 : (rlL K N (i * K + c)).length ≤ 4096 := by
              have := rlL_len K N (i * K + c)
              rw [HQ.out] at this ⊢
              omega
            have hlL : (lfs (rlL K N (i * K + c))).length ≤ 4096 := by unfold lfs; rw [List.length_map]; exact hll4
            have hlR : (rts (rlL K N (i * K + c))).length ≤ 4096 := by unfold rts; rw [List.length_map]; exact hll4
            clear hX
            by_cases e : lw K N D = lw K N i ++ [c]
            · have HNE : Hid (rlL K N (i * K + (c + 1)) = rlL K N (i * K + c)) := by show _ = _; rw [HNX.out, if_pos e, List.append_nil]
              have hVX : V = X := by rw [← HV.out, ← HXX.out, e]
              subst hVX
              have hse := str_eq V
              clear e hlt1 hlt2
              go_wp2_with fail
              go_roundw
              case rel => exact ⟨c + 1, by go_num, by have := HC.out; omega, by rw [HNE.out]; exact HT4.out⟩
              case measure => have := HC.out; simp [Go.RowKit.intOf]; omega
            · have hne : V ≠ X := fun z => e (wb_inj hKb.2 hlt2 hlt1 (by rw [HV.out, HXX.out, z]))
              have hse := str_ne hne
              have hse2 := str_ne (fun z => hne z.symm)
              obtain ⟨tl, htl⟩ : ∃ tl, (lw K N i ++ [c]).tail = tl := ⟨_, rfl⟩
              have hcut : X.extract 1 X.size = wb tl := by rw [← HXX.out, wb_tail, htl]
              have hltt : Lt K tl := fun x hx => hlt1 x (by rw [← htl] at hx; exact List.mem_of_mem_tail hx)
              have htll : tl.length ≤ 9223372036854775807 := by rw [← htl, List.length_tail]; simp; omega
              have HIL4 : Hid (Calls Try.prog 63 #[.pointer (some ⟨ob, 0, none⟩), .string (X.extract 1 X.size)] w4 fun e w' => e = .returned (.bool (lsE K N tl)) ∧ Below w4.heap.size w4 w') := by
                rw [hcut]
                exact HIL.out w4 tl HT4.out.below hltt htll
              have hX1I : (1 : Int) ≤ X.size := by omega
              have hX1d : decide ((X.size : Int) < 1) = false := decide_eq_false (by omega)
              have hX1e : ¬ (X.size : Int) < 1 := by omega
              rw [htl] at HNX
              have HNE : Hid (¬ lw K N D = lw K N i ++ [c]) := e
              clear e hlt1 hlt2 hne htl hcut hltt htll
              cases hls : lsE K N tl with
              | false =>
                have HNF : Hid (rlL K N (i * K + (c + 1)) = rlL K N (i * K + c)) := by show _ = _; rw [HNX.out, if_neg HNE.out, hls, if_neg (by decide), List.append_nil]
                rw [hls] at HIL4
                clear hls
                go_wp2_with fail
                refine HIL4.out.mono ?_
                rintro e w5 ⟨rfl, hb⟩
                have HT5 : Hid (TwoW w w5 u2 u3 (lfs (rlL K N (i * K + c))) (rts (rlL K N (i * K + c)))) := HT4.out.call hb
                clear hb
                go_wp2_with fail
                go_roundw
                case rel => exact ⟨c + 1, by go_num, by have := HC.out; omega, by rw [HNF.out]; exact HT5.out⟩
                case measure => have := HC.out; simp [Go.RowKit.intOf]; omega
              | true =>
                have HNF : Hid (rlL K N (i * K + (c + 1)) = rlL K N (i * K + c) ++ [(lw K N i ++ [c], lw K N D)]) := by show _ = _; rw [HNX.out, if_neg HNE.out, hls, if_pos rfl]
                rw [hls] at HIL4
                clear hls
                go_wp2_with fail
                refine HIL4.out.mono ?_
                rintro e w5 ⟨rfl, hb⟩
                have HT5 : Hid (TwoW w w5 u2 u3 (lfs (rlL K N (i * K + c))) (rts (rlL K N (i * K + c)))) := HT4.out.call hb
                clear hb
                go_wp2_with fail
                refine (sClone_any X w5 hXs).mono ?_
                rintro e w6 ⟨rfl, hb⟩
                have HT6 : Hid (TwoW w w6 u2 u3 (lfs (rlL K N (i * K + c))) (rts (rlL K N (i * K + c)))) := HT5.out.call hb
                clear hb
                obtain ⟨LL, hLL⟩ : ∃ LL, lfs (rlL K N (i * K + c)) = LL := ⟨_, rfl⟩
                obtain ⟨RR, hRR⟩ : ∃ RR, rts (rlL K N (i * K + c)) = RR := ⟨_, rfl⟩
                have HLR : Hid (lfs (rlL K N (i * K + (c + 1))) = LL ++ [lw K N i ++ [c]] ∧ rts (rlL K N (i * K + (c + 1))) = RR ++ [lw K N D]) := by show _ ∧ _; rw [HNF.out, lfs_snoc, rts_snoc, hLL, hRR]; exact ⟨rfl, rfl⟩
                rw [hLL] at HT6 hlL
                rw [hRR] at HT6 hlR
                clear hLL hRR HT4 HT5
                obtain ⟨la, lc, hla⟩ := own_shape HT6.out.l
                subst hla
                have hs6 := HT6.out.below.size
                go_wp2_with (first
                  | (at_builtin; refine wpList_append_own_at _ rfl _ _ 28 rfl w.heap.size 9 i0 (.string ByteArray.empty) 1 16 Try.underlying28 hi0 hz0 hz1 hz2 rfl (by decide) _ _ _ rfl (World.ownsRow.alloc HT6.out.l _) ⟨w6.heap.size, 0, none⟩ 1 1 [.string X] rfl rfl (cell_one_new _ _ _) (by intro u hu; simp at hu; subst hu; rfl) (by unfold maxLen; omega) (by omega) (by simp; omega) ?_; intro v7 w7 ho7 hg7 _ hl7; have HT7 : Hid (TwoW w w7 v7 u3 (LL ++ [lw K N i ++ [c]]) RR) := HT6.out.left (q := w6.heap.size + 1) (by rw [HXX.out]; exact ho7) hg7 (by rcases hl7 with z | z; exact .inl z; exact .inr (z.trans (by rw [World.size_alloc]))) (by omega); clear ho7 hg7 hl7)
                  | (go_at_call 47; refine (sClone_any V _ hVs).mono ?_; rintro e w8 ⟨rfl, hb⟩; have HT8 : Hid (TwoW w w8 v7 u3 (LL ++ [lw K N i ++ [c]]) RR) := HT7.out.call hb; clear hb; obtain ⟨ra, rc, hra⟩ := own_shape HT8.out.r; subst hra; have hs8 := HT8.out.below.size)
                  | (at_builtin; refine wpList_append_own_at _ rfl _ _ 28 rfl w.heap.size 9 i0 (.string ByteArray.empty) 1 16 Try.underlying28 hi0 hz0 hz1 hz2 rfl (by decide) _ _ _ rfl (World.ownsRow.alloc HT8.out.r _) ⟨w8.heap.size, 0, none⟩ 1 1 [.string V] rfl rfl (cell_one_new _ _ _) (by intro u hu; simp at hu; subst hu; rfl) (by unfold maxLen; omega) (by omega) (by simp; omega) ?_; intro v9 w9 ho9 hg9 _ hl9; have HT9 : Hid (TwoW w w9 v7 v9 (LL ++ [lw K N i ++ [c]]) (RR ++ [lw K N D])) := (HT8.out.swap.left (q := w8.heap.size + 1) (by rw [HV.out]; exact ho9) hg9 (by rcases hl9 with z | z; exact .inl z; exact .inr (z.trans (by rw [World.size_alloc]))) (by omega)).swap; clear ho9 hg9 hl9))
                go_roundw
                case rel => exact ⟨c + 1, by go_num, by have := HC.out; omega, by rw [HLR.out.1, HLR.out.2]; exact HT9.out⟩
                case measure => have := HC.out; simp [Go.RowKit.intOf]; omega
        · have hcI : ¬ (c : Int) < K := by omega
          have hcd : decide ((c : Int) < K) = false := decide_eq_false hcI
          obtain rfl : c = K := by omega
          have hi512 : i < 512 := by have := HI.out; omega
          go_wp2_with fail
          go_roundw
          case rel => exact ⟨i + 1, by go_num, HI.out, by have := HT.out; rw [Nat.succ_mul]; exact this⟩
          case measure => have := HI.out; simp [Go.RowKit.intOf]; omega
    · have hiI : ¬ (i : Int) < n := by omega
      have hid : decide ((i : Int) < n) = false := decide_eq_false hiI
      have HE : Hid (i * K = N.length) := by show _ = _; rw [HNL.out, show i = n by omega]
      clear hT
      go_wp2_with fail
      go_ret2
      exact ⟨_, _, rfl, by rw [← HE.out]; exact HT.out⟩

end Go.Proofs.Ytenpeomnmbnoaaa

namespace Go.Proofs.Ytenpeomnmbnoaaa
open Go Go.RowKit Go.Lib Go.Maps
set_option linter.unusedVariables false
set_option linter.unusedSimpArgs false
attribute [-instance] List.instBEq instBEqProd

set_option maxHeartbeats 8000000 in
set_option maxRecDepth 100000 in
theorem rrules_any {w : World} {rb : Nat} {A : Aut} {M : List (List Nat)} {N : List Nat} (h : RF w rb A M N) : Calls Try.prog 36 #[.pointer (some ⟨rb, 0, none⟩)] w (RuQ (lfs (rlL A.k.toNat N N.length)) (rts (rlL A.k.toNat N N.length)) w) := by
  have HM : Hid (∀ y, Below w.heap.size w y → RF y rb A M N) := fun y hy => h.below hy
  have HIL : Hid (∀ y u, Below w.heap.size w y → Lt A.k.toNat u → u.length ≤ 9223372036854775807 → Calls Try.prog 64 #[.pointer (some ⟨rb, 0, none⟩), .string (wb u)] y fun e w' => e = .returned (.bool (lsE A.k.toNat N u)) ∧ Below y.heap.size y w') := fun y u hy hu hz => rleast_any (h.below hy) u hu hz
  have HGG : Hid (∀ y u, Below w.heap.size w y → Lt A.k.toNat u → u.length ≤ 9223372036854775807 → Calls Try.prog 53 #[.pointer (some ⟨rb, 0, none⟩), .int .i64 0, .string (wb u)] y fun e w' => e = .returned (.int .i64 (mr A.k.toNat N 0 u : Nat)) ∧ Below y.heap.size y w') := fun y u hy hu hz => by
    have hmn : Mon A M N := by
      obtain ⟨_, _, _, _, _, _, _, _, _, _, h0⟩ := h
      exact h0.mon
    obtain ⟨h1, h2⟩ := wb_lts hmn.G.k1 hmn.G.k8 hu
    have := rgoM_any (h.below hy) 0 hmn.pos (wb u) h1 (by rw [wb_size]; exact hz)
    rw [lets_wb hmn.G.ks.2.1 hu] at this
    exact this
  obtain ⟨an, cn, aa, ca, gi, ci, gw, cw, gn, cg, h⟩ := h
  have HMon : Hid (Mon A M N) := h.mon
  have hks := h.mon.G.ks
  have hms := h.mon.most
  have HNL : Hid (N.length = M.length * A.k.toNat) := h.mon.len
  have HBX : Hid (w.heap[rb]? = some (.cells #[.int .i64 A.k, .slice an A.nx.length cn, .slice aa A.ac.length ca, .slice (some ⟨gi, 0, none⟩) M.length ci, .slice (some ⟨gw, 0, none⟩) M.length cw, .slice (some ⟨gn, 0, none⟩) N.length cg] 63 (0, 0))) := h.box
  have HWD : Hid (∀ j, j < M.length → w.cell? ⟨gw, j, none⟩ = some (.string (wb (lw A.k.toNat N j)))) := h.wds
  obtain ⟨K, hK⟩ : ∃ K, A.k.toNat = K := ⟨_, rfl⟩
  have HKA : Hid (A.k.toNat = K) := hK
  have hkI : A.k = (K : Int) := by omega
  rw [hK] at HIL HNL HWD hks HGG
  rw [hK]
  have hKb : 1 ≤ K ∧ K ≤ 8 := ⟨hks.1, hks.2.1⟩
  rw [hkI] at HBX
  obtain ⟨i0, hi0, hz0, hz1, hz2⟩ := info_parts Try.info_str
  clear h hK hks hkI
  go_enter Try.func36, Try.ntmps36
  go_wp2_with fail
  go_loopw [6, 4, 5, 7, 8] (fun vi vl vr _ _ wr => ∃ i : Nat, vi = .int .i64 i ∧ i ≤ M.length ∧ TwoW w wr vl vr (lfs (rlL K N (i * K))) (rts (rlL K N (i * K)))) (fun vi _ _ _ _ _ => M.length - (Go.RowKit.intOf vi).toNat)
  case atStart => exact ⟨0, rfl, Nat.zero_le _, by rw [Nat.zero_mul]; exact TwoW.start w⟩
  case round =>
    obtain ⟨i, rfl, hin, hT⟩ := hrel
    obtain ⟨w2, hw2⟩ : ∃ z, z = wr := ⟨_, rfl⟩
    subst hw2
    have HT : Hid (TwoW w w2 u4 u5 (lfs (rlL K N (i * K))) (rts (rlL K N (i * K)))) := hT
    by_cases hlt : i < M.length
    · have hiI : (i : Int) < M.length := by omega
      have hid : decide ((i : Int) < M.length) = true := decide_eq_true hiI
      have HI : Hid (i < M.length) := hlt
      clear hT hlt
      go_wp2_with fail
      refine (rlen_any (HM.out _ HT.out.below)).mono ?_
      rintro e w1 ⟨rfl, rfl⟩
      go_wp2_with fail
      go_loopw [7, 4, 5, 8] (fun vc vl vr _ wr => ∃ c : Nat, vc = .int .i64 c ∧ c ≤ K ∧ TwoW w wr vl vr (lfs (rlL K N (i * K + c))) (rts (rlL K N (i * K + c)))) (fun vc _ _ _ _ => K - (Go.RowKit.intOf vc).toNat)
      case atStart => exact ⟨0, rfl, Nat.zero_le _, HT.out⟩
      case round =>
        clear HT
        obtain ⟨c, rfl, hcK, hT⟩ := hrel
        obtain ⟨w3, hw3⟩ : ∃ z, z = wr := ⟨_, rfl⟩
        subst hw3
        have HT : Hid (TwoW w w3 u4 u5 (lfs (rlL K N (i * K + c))) (rts (rlL K N (i * K + c)))) := hT
        have ck : w3.cell? ⟨rb, 0, none⟩ = some (.int .i64 (K : Int)) := cell_at ((hT.below.block _ (Array.getElem?_eq_some_iff.1 HBX.out).1).trans HBX.out) rfl
        clear hT
        by_cases hlc : c < K
        · have hcI : (c : Int) < K := by omega
          have hcd : decide ((c : Int) < K) = true := decide_eq_true hcI
          have HC : Hid (c < K) := hlc
          obtain ⟨q, hq⟩ : ∃ q, i * K = q := ⟨_, rfl⟩
          have HQ : Hid (i * K = q) := hq
          have hqlt : q + c < N.length := by rw [HNL.out, ← hq]; exact idx_ltM HI.out hlc
          obtain ⟨D, hD⟩ : ∃ D, N.getD (q + c) 0 = D := ⟨_, rfl⟩
          have HD : Hid (N.getD (q + c) 0 = D) := hD
          have hDn : D < M.length := by rw [← hD]; exact HMon.out.nl hqlt
          have hDI : (D : Int) < M.length := by omega
          have hNl : N.length ≤ 512 * 8 := by rw [HNL.out]; exact Nat.mul_le_mul hms hKb.2
          obtain ⟨U, hU⟩ : ∃ U, wb (lw K N i) = U := ⟨_, rfl⟩
          have HU : Hid (wb (lw K N i) = U) := hU
          obtain ⟨V, hV⟩ : ∃ V, wb (lw K N D) = V := ⟨_, rfl⟩
          have HV : Hid (wb (lw K N D) = V) := hV
          have hcu : w.cell? ⟨gw, i, none⟩ = some (.string U) := by have := HWD.out i HI.out; rw [hU] at this; exact this
          have hcv : w.cell? ⟨gw, D, none⟩ = some (.string V) := by have := HWD.out D hDn; rw [hV] at this; exact this
          obtain ⟨x, hx⟩ : ∃ x, 97 + c = x := ⟨_, rfl⟩
          obtain ⟨L, hL⟩ : ∃ L, wb [c] = L := ⟨_, rfl⟩
          have HX : Hid (wb (lw K N i ++ [c]) = U ++ L) := by
            show _ = _
            rw [← wb_snoc, HU.out, ← hL]
            rfl
          have hll : (lw K N i).length ≤ 512 := by
            have := lw_len HMon.out.fst i HI.out
            rw [HKA.out] at this
            have := HI.out
            omega
          have hUs : U.size ≤ 512 := by rw [← HU.out, wb_size]; exact hll
          have hLs : L.size = 1 := by rw [← hL, wb_size]; rfl
          have hmx : IntKind.i64.max = 9223372036854775807 := by decide
          have hxs3 : ¬ IntKind.i64.max < ((U.size + L.size : Nat) : Int) := by rw [hmx]; omega
          have hcat := run_cat hxs3
          have hul1 : U.size + L.size ≤ 9223372036854775807 := by omega
          have hul2 : ¬ (9223372036854775807 : Int) < (U.size : Int) + (L.size : Int) := by omega
          have hw1 : IntKind.i64.wrap (97 + (c : Int)) = (x : Int) := by rw [IntKind.wrap_i64]; omega
          have hw2 : IntKind.u8.wrap (x : Int) = (x : Int) := by rw [IntKind.wrap_u8]; omega
          have HSK : Hid (∀ y, Below w.heap.size w y → (y.cell? ⟨rb, 4, none⟩ = some (.slice (some ⟨gw, 0, none⟩) M.length cw) ∧ y.cell? ⟨gw, i, none⟩ = some (.string U) ∧ y.cell? ⟨gw, D, none⟩ = some (.string V) ∧ Below w.heap.size w y)) := fun y hy => by
            have e := (hy.block _ (Array.getElem?_eq_some_iff.1 HBX.out).1).trans HBX.out
            exact ⟨cell_at e rfl, by rw [below_cellJ hy (World.block_lt_of_cell? _ _ hcu)]; exact hcu, by rw [below_cellJ hy (World.block_lt_of_cell? _ _ hcv)]; exact hcv, hy⟩
          have HSS : Hid (∀ y y', (y.cell? ⟨rb, 4, none⟩ = some (.slice (some ⟨gw, 0, none⟩) M.length cw) ∧ y.cell? ⟨gw, i, none⟩ = some (.string U) ∧ y.cell? ⟨gw, D, none⟩ = some (.string V) ∧ Below w.heap.size w y) → Below y.heap.size y y' → (y'.cell? ⟨rb, 4, none⟩ = some (.slice (some ⟨gw, 0, none⟩) M.length cw) ∧ y'.cell? ⟨gw, i, none⟩ = some (.string U) ∧ y'.cell? ⟨gw, D, none⟩ = some (.string V) ∧ Below w.heap.size w y')) := fun y y' hy hb => HSK.out y' (go_on hy.2.2.2 hb)
          obtain ⟨y0, hy0⟩ : ∃ y0, y0 = w3.drew := ⟨_, rfl⟩
          have hS0 : y0.cell? ⟨rb, 4, none⟩ = some (.slice (some ⟨gw, 0, none⟩) M.length cw) ∧ y0.cell? ⟨gw, i, none⟩ = some (.string U) ∧ y0.cell? ⟨gw, D, none⟩ = some (.string V) ∧ Below w.heap.size w y0 := HSK.out _ (by rw [hy0]; exact HT.out.below.drew)
          have hcz := conv_one y0 c x (by omega) hx
          rw [hL] at hcz
          have HBY : Hid (Below w3.heap.size w3 (y0.alloc (.cells #[.int .u8 (x : Int)] 5))) := by show Below _ _ _; rw [hy0]; exact go_on (Below.refl _ _).drew (below_new _ _)
          clear hq hD hL hV hU hcv hcu hmx hxs3 hx
          go_upto_region 9 with fail
          clear ck
          go_cut [8] (fun v8 wx => v8 = .string (U ++ L) ∧ ∃ wz, wz = wx ∧ Below w3.heap.size w3 wz)
          case first =>
            refine wp_region_L 13 (fun y => y.cell? ⟨rb, 4, none⟩ = some (.slice (some ⟨gw, 0, none⟩) M.length cw) ∧ y.cell? ⟨gw, i, none⟩ = some (.string U) ∧ y.cell? ⟨gw, D, none⟩ = some (.string V) ∧ Below w.heap.size w y) (by kernel_rfl) (by rw [← hy0]; exact hS0) (fun hH0 => ?_)
            rw [← hy0] at hH0 ⊢
            clear hS0 hy0
            refine wpAnyL_take (i := 0) (oi := { dst := some 24, op := Go.Op.move (Go.Operand.tmp 0), type := 39, pos := "ref.go:186", after := #[], guard := none }) (v := ?_) rfl (by kernel_rfl) (by kernel_rfl) (by decide) (by kernel_rfl) (by kernel_rfl) (by kernel_rfl) (fun _ _ _ h => h) (Or.inl ⟨by rfl, ?_⟩) (by assumption) ?_
            rotate_left
            · intro w' hS; go_simp; (try with_reducible rfl)
            simp only [Act.put, List.setIfInBounds_toArray, List.set_cons_zero, List.set_cons_succ]
            refine wpAnyL_take (i := 1) (oi := { dst := some 25, op := Go.Op.nilCheck (Go.Operand.tmp 24), type := 0, pos := "ref.go:186", after := #[{ on := 0, ground := Go.Ground.data }], guard := none }) (v := ?_) rfl (by kernel_rfl) (by kernel_rfl) (by decide) (by kernel_rfl) (by kernel_rfl) (by kernel_rfl) (fun _ _ _ h => h) (Or.inl ⟨by rfl, ?_⟩) (by assumption) ?_
            rotate_left
            · intro w' hS; go_simp; (try with_reducible rfl)
            simp only [Act.put, List.setIfInBounds_toArray, List.set_cons_zero, List.set_cons_succ]
            refine wpAnyL_take (i := 2) (oi := { dst := some 26, op := Go.Op.fieldAddr 63 (Go.Operand.tmp 25) 2, type := 0, pos := "ref.go:186", after := #[{ on := 1, ground := Go.Ground.data }], guard := none }) (v := ?_) rfl (by kernel_rfl) (by kernel_rfl) (by decide) (by kernel_rfl) (by kernel_rfl) (by kernel_rfl) (fun _ _ _ h => h) (Or.inl ⟨by rfl, ?_⟩) (by assumption) ?_
            rotate_left
            · intro w' hS; go_simp; (try with_reducible rfl)
            simp only [Act.put, List.setIfInBounds_toArray, List.set_cons_zero, List.set_cons_succ]
            refine wpAnyL_take (i := 3) (oi := { dst := some 27, op := Go.Op.load 28 (Go.Operand.tmp 26), type := 28, pos := "ref.go:186", after := #[{ on := 2, ground := Go.Ground.data }], guard := none }) (v := .slice (some ⟨gw, 0, none⟩) M.length cw) rfl (by kernel_rfl) (by kernel_rfl) (by decide) (by kernel_rfl) (by kernel_rfl) (by kernel_rfl) (fun _ _ _ h => h) (Or.inl ⟨by rfl, ?_⟩) (by assumption) ?_
            · intro w' hS; have hz := hS.1; go_simp
            simp only [Act.put, List.setIfInBounds_toArray, List.set_cons_zero, List.set_cons_succ]
            refine wpAnyL_take (i := 4) (oi := { dst := some 28, op := Go.Op.move (Go.Operand.tmp 6), type := 3, pos := "ref.go:186", after := #[], guard := none }) (v := ?_) rfl (by kernel_rfl) (by kernel_rfl) (by decide) (by kernel_rfl) (by kernel_rfl) (by kernel_rfl) (fun _ _ _ h => h) (Or.inl ⟨by rfl, ?_⟩) (by assumption) ?_
            rotate_left
            · intro w' hS; go_simp; (try with_reducible rfl)
            simp only [Act.put, List.setIfInBounds_toArray, List.set_cons_zero, List.set_cons_succ]
            refine wpAnyL_take (i := 5) (oi := { dst := some 29, op := Go.Op.indexAddr 28 (Go.Operand.tmp 27) (Go.Operand.tmp 28), type := 0, pos := "ref.go:186", after := #[{ on := 3, ground := Go.Ground.data }, { on := 4, ground := Go.Ground.data }], guard := none }) (v := ?_) rfl (by kernel_rfl) (by kernel_rfl) (by decide) (by kernel_rfl) (by kernel_rfl) (by kernel_rfl) (fun _ _ _ h => h) (Or.inl ⟨by rfl, ?_⟩) (by assumption) ?_
            rotate_left
            · intro w' hS; go_simp; (try with_reducible rfl)
            simp only [Act.put, List.setIfInBounds_toArray, List.set_cons_zero, List.set_cons_succ]
            refine wpAnyL_take (i := 6) (oi := { dst := some 30, op := Go.Op.load 9 (Go.Operand.tmp 29), type := 9, pos := "ref.go:186", after := #[{ on := 5, ground := Go.Ground.data }], guard := none }) (v := .string U) rfl (by kernel_rfl) (by kernel_rfl) (by decide) (by kernel_rfl) (by kernel_rfl) (by kernel_rfl) (fun _ _ _ h => h) (Or.inl ⟨by rfl, ?_⟩) (by assumption) ?_
            · intro w' hS; have hz := hS.2.1; go_simp
            simp only [Act.put, List.setIfInBounds_toArray, List.set_cons_zero, List.set_cons_succ]
            refine wpAnyL_take (i := 7) (oi := { dst := some 31, op := Go.Op.move (Go.Operand.tmp 7), type := 3, pos := "ref.go:186", after := #[], guard := none }) (v := ?_) rfl (by kernel_rfl) (by kernel_rfl) (by decide) (by kernel_rfl) (by kernel_rfl) (by kernel_rfl) (fun _ _ _ h => h) (Or.inl ⟨by rfl, ?_⟩) (by assumption) ?_
            rotate_left
            · intro w' hS; go_simp; (try with_reducible rfl)
            simp only [Act.put, List.setIfInBounds_toArray, List.set_cons_zero, List.set_cons_succ]
            refine wpAnyL_take (i := 8) (oi := { dst := some 32, op := Go.Op.binOp Go.BinOp.add 3 (Go.Operand.const (Go.Value.int Go.IntKind.i64 97)) (Go.Operand.tmp 31) 3, type := 3, pos := "ref.go:186", after := #[{ on := 7, ground := Go.Ground.data }], guard := none }) (v := ?_) rfl (by kernel_rfl) (by kernel_rfl) (by decide) (by kernel_rfl) (by kernel_rfl) (by kernel_rfl) (fun _ _ _ h => h) (Or.inl ⟨by rfl, ?_⟩) (by assumption) ?_
            rotate_left
            · intro w' hS; go_simp; (try with_reducible rfl)
            simp only [Act.put, List.setIfInBounds_toArray, List.set_cons_zero, List.set_cons_succ]
            refine wpAnyL_take (i := 9) (oi := { dst := some 33, op := Go.Op.convert 3 5 (Go.Operand.tmp 32), type := 5, pos := "ref.go:186", after := #[{ on := 8, ground := Go.Ground.data }], guard := none }) (v := ?_) rfl (by kernel_rfl) (by kernel_rfl) (by decide) (by kernel_rfl) (by kernel_rfl) (by kernel_rfl) (fun _ _ _ h => h) (Or.inl ⟨by rfl, ?_⟩) (by assumption) ?_
            rotate_left
            · intro w' hS; go_simp; (try with_reducible rfl)
            simp only [Act.put, List.setIfInBounds_toArray, List.set_cons_zero, List.set_cons_succ]
            refine wpAnyL_ready (rs := [10]) (by kernel_rfl) (by simp) ?_
            refine AllReadyL.cons rfl (fun KQ hK => ?_) AllReadyL.nil
            go_simp
            refine hK.out _ _ (HSS.out _ _ hH0 (below_new _ _)) (fun hH1 => ?_)
            clear hK KQ
            refine wpAnyL_ready (rs := [11]) (by kernel_rfl) (by simp) ?_
            refine AllReadyL.cons rfl (fun KQ hK => ?_) AllReadyL.nil
            go_simp
            refine hK.out _ _ hH1 (fun hH2 => ?_)
            clear hK KQ
            refine wpAnyL_take (i := 12) (oi := { dst := some 36, op := Go.Op.binOp Go.BinOp.add 9 (Go.Operand.tmp 30) (Go.Operand.tmp 35) 9, type := 9, pos := "ref.go:186", after := #[{ on := 6, ground := Go.Ground.data }, { on := 11, ground := Go.Ground.data }], guard := none }) (v := .string (U ++ L)) rfl (by kernel_rfl) (by kernel_rfl) (by decide) (by kernel_rfl) (by kernel_rfl) (by kernel_rfl) (fun _ _ _ h => h) (Or.inl ⟨by rfl, ?_⟩) (by assumption) ?_
            · intro w' hS; have hq := hcat w'; go_simp
            simp only [Act.put, List.setIfInBounds_toArray, List.set_cons_zero, List.set_cons_succ]
            refine wpAnyL_ready (rs := [13]) (by kernel_rfl) (by simp) ?_
            refine AllReadyL.last rfl (fun KQ hK => ?_)
            go_simp
            refine hK.out _ _ ?_
            clear hK KQ
            refine wpAnyL_done (by kernel_rfl) ?_ _
            go_wp2_with fail
            go_meet
            exact ⟨rfl, _, rfl, HBY.out⟩
          case rest =>
            obtain ⟨rfl, w4, rfl, hb4⟩ := hcut
            have HT4 : Hid (TwoW w w4 u4 u5 (lfs (rlL K N (i * K + c))) (rts (rlL K N (i * K + c)))) := HT.out.call hb4
            clear hb4 hS0 HT hcat hcz HBY hy0
            obtain ⟨X, hX⟩ : ∃ X, U ++ L = X := ⟨_, rfl⟩
            have HXX : Hid (wb (lw K N i ++ [c]) = X) := by show _ = _; rw [HX.out, hX]
            rw [hX]
            have hX1 : 1 ≤ X.size := by rw [← HXX.out, wb_size]; simp
            have hXl : (lw K N i ++ [c]).length ≤ 9223372036854775807 := by simp; omega
            have hlt1 : Lt K (lw K N i ++ [c]) := by
              have h1 := (HMon.out.lw i HI.out).1
              rw [HKA.out] at h1
              exact h1.app (Lt.one HC.out)
            have hDE : mr K N 0 (lw K N i ++ [c]) = D := by
              have h1 := (HMon.out.lw i HI.out).2
              rw [HKA.out] at h1
              rw [mr_app, h1, mr_one, HQ.out, HD.out]
            have HNX : Hid (rlL K N (i * K + (c + 1)) = rlL K N (i * K + c) ++ (if lw K N D = lw K N i ++ [c] then [] else if lsE K N (lw K N i ++ [c]).tail = true then [(lw K N i ++ [c], lw K N D)] else [])) := by
              have := rl_next (N := N) (i := i) HC.out
              rw [HQ.out, HD.out] at this
              show _ = _
              rw [HQ.out]
              exact this
            have hll4 : (rlL K N (i * K + c)).length ≤ 4096 := by
              have := rlL_len K N (i * K + c)
              rw [HQ.out] at this ⊢
              omega
            have hlL : (lfs (rlL K N (i * K + c))).length ≤ 4096 := by unfold lfs; rw [List.length_map]; exact hll4
            have hlR : (rts (rlL K N (i * K + c))).length ≤ 4096 := by unfold rts; rw [List.length_map]; exact hll4
            have HGX : Hid (∀ y, Below w.heap.size w y → Calls Try.prog 53 #[.pointer (some ⟨rb, 0, none⟩), .int .i64 0, .string X] y fun e w' => e = .returned (.int .i64 (D : Nat)) ∧ Below y.heap.size y w') := fun y hy => by
              have := HGG.out y _ hy hlt1 hXl
              rw [hDE, HXX.out] at this
              exact this
            have HL1 : Hid (Calls Try.prog 64 #[.pointer (some ⟨rb, 0, none⟩), .string X] w4 fun e w' => e = .returned (.bool (decide (lw K N D = lw K N i ++ [c]))) ∧ Below w4.heap.size w4 w') := by
              have := HIL.out w4 _ HT4.out.below hlt1 hXl
              unfold lsE at this
              rw [hDE, HXX.out] at this
              exact this
            clear hX hDE
            by_cases e : lw K N D = lw K N i ++ [c]
            · have HNE : Hid (rlL K N (i * K + (c + 1)) = rlL K N (i * K + c)) := by show _ = _; rw [HNX.out, if_pos e, List.append_nil]
              rw [decide_eq_true e] at HL1
              clear e hlt1
              go_wp2_with fail
              refine HL1.out.mono ?_
              rintro e w5 ⟨rfl, hb⟩
              have HT5 : Hid (TwoW w w5 u4 u5 (lfs (rlL K N (i * K + c))) (rts (rlL K N (i * K + c)))) := HT4.out.call hb
              clear hb
              go_wp2_with fail
              go_roundw
              case rel => exact ⟨c + 1, by go_num, by have := HC.out; omega, by rw [HNE.out]; exact HT5.out⟩
              case measure => have := HC.out; simp [Go.RowKit.intOf]; omega
            · obtain ⟨tl, htl⟩ : ∃ tl, (lw K N i ++ [c]).tail = tl := ⟨_, rfl⟩
              have hcut : X.extract 1 X.size = wb tl := by rw [← HXX.out, wb_tail, htl]
              have hltt : Lt K tl := fun x hx => hlt1 x (by rw [← htl] at hx; exact List.mem_of_mem_tail hx)
              have htll : tl.length ≤ 9223372036854775807 := by rw [← htl, List.length_tail]; omega
              have HIL4 : Hid (∀ y, Below w.heap.size w y → Calls Try.prog 64 #[.pointer (some ⟨rb, 0, none⟩), .string (X.extract 1 X.size)] y fun e w' => e = .returned (.bool (lsE K N tl)) ∧ Below y.heap.size y w') := fun y hy => by
                rw [hcut]
                exact HIL.out y tl hy hltt htll
              have hX1I : (1 : Int) ≤ X.size := by omega
              have hX1d : decide ((X.size : Int) < 1) = false := decide_eq_false (by omega)
              have hX1e : ¬ (X.size : Int) < 1 := by omega
              rw [htl] at HNX
              rw [decide_eq_false e] at HL1
              have HNE : Hid (¬ lw K N D = lw K N i ++ [c]) := e
              clear e hlt1 htl hcut hltt htll
              cases hls : lsE K N tl with
              | false =>
                have HNF : Hid (rlL K N (i * K + (c + 1)) = rlL K N (i * K + c)) := by show _ = _; rw [HNX.out, if_neg HNE.out, hls, if_neg (by decide), List.append_nil]
                rw [hls] at HIL4
                clear hls
                go_wp2_with fail
                refine HL1.out.mono ?_
                rintro e w5 ⟨rfl, hb⟩
                have HT5 : Hid (TwoW w w5 u4 u5 (lfs (rlL K N (i * K + c))) (rts (rlL K N (i * K + c)))) := HT4.out.call hb
                clear hb
                go_wp2_with fail
                refine (HIL4.out _ HT5.out.below).mono ?_
                rintro e w6 ⟨rfl, hb⟩
                have HT6 : Hid (TwoW w w6 u4 u5 (lfs (rlL K N (i * K + c))) (rts (rlL K N (i * K + c)))) := HT5.out.call hb
                clear hb
                go_wp2_with fail
                go_roundw
                case rel => exact ⟨c + 1, by go_num, by have := HC.out; omega, by rw [HNF.out]; exact HT6.out⟩
                case measure => have := HC.out; simp [Go.RowKit.intOf]; omega
              | true =>
                have HNF : Hid (rlL K N (i * K + (c + 1)) = rlL K N (i * K + c) ++ [(lw K N i ++ [c], lw K N D)]) := by show _ = _; rw [HNX.out, if_neg HNE.out, hls, if_pos rfl]
                rw [hls] at HIL4
                clear hls
                go_wp2_with fail
                refine HL1.out.mono ?_
                rintro e w5 ⟨rfl, hb⟩
                have HT5 : Hid (TwoW w w5 u4 u5 (lfs (rlL K N (i * K + c))) (rts (rlL K N (i * K + c)))) := HT4.out.call hb
                clear hb
                go_wp2_with fail
                refine (HIL4.out _ HT5.out.below).mono ?_
                rintro e w6 ⟨rfl, hb⟩
                have HT6 : Hid (TwoW w w6 u4 u5 (lfs (rlL K N (i * K + c))) (rts (rlL K N (i * K + c)))) := HT5.out.call hb
                clear hb
                obtain ⟨LL, hLL⟩ : ∃ LL, lfs (rlL K N (i * K + c)) = LL := ⟨_, rfl⟩
                obtain ⟨RR, hRR⟩ : ∃ RR, rts (rlL K N (i * K + c)) = RR := ⟨_, rfl⟩
                have HLR : Hid (lfs (rlL K N (i * K + (c + 1))) = LL ++ [lw K N i ++ [c]] ∧ rts (rlL K N (i * K + (c + 1))) = RR ++ [lw K N D]) := by show _ ∧ _; rw [HNF.out, lfs_snoc, rts_snoc, hLL, hRR]; exact ⟨rfl, rfl⟩
                rw [hLL] at HT6 hlL
                rw [hRR] at HT6 hlR
                clear hLL hRR HT4 HT5 HL1
                obtain ⟨la, lc, hla⟩ := own_shape HT6.out.l
                subst hla
                obtain ⟨ra, rc, hra⟩ := own_shape HT6.out.r
                subst hra
                have hs6 := HT6.out.below.size
                go_wp2_with (first
                  | (at_builtin; refine wpList_append_own_at _ rfl _ _ 28 rfl w.heap.size 9 i0 (.string ByteArray.empty) 1 16 Try.underlying28 hi0 hz0 hz1 hz2 rfl (by decide) _ _ _ rfl (World.ownsRow.alloc HT6.out.l _) ⟨w6.heap.size, 0, none⟩ 1 1 [.string X] rfl rfl (cell_one_new _ _ _) (by intro u hu; simp at hu; subst hu; rfl) (by unfold maxLen; omega) (by omega) (by simp; omega) ?_; intro v7 w7 ho7 hg7 _ hl7; have HT7 : Hid (TwoW w w7 v7 (.slice ra RR.length rc) (LL ++ [lw K N i ++ [c]]) RR) := HT6.out.left (q := w6.heap.size + 1) (by rw [HXX.out]; exact ho7) hg7 (by rcases hl7 with z | z; exact .inl z; exact .inr (z.trans (by rw [World.size_alloc]))) (by omega); clear ho7 hg7 hl7))
                obtain ⟨y0, hy0⟩ : ∃ y0, y0 = w7.drew := ⟨_, rfl⟩
                have HT0 : Hid (TwoW w y0 v7 (.slice ra RR.length rc) (LL ++ [lw K N i ++ [c]]) RR) := by show TwoW _ _ _ _ _ _; rw [hy0]; exact HT7.out.call (Below.refl _ _).drew
                have hS0 : y0.cell? ⟨rb, 4, none⟩ = some (.slice (some ⟨gw, 0, none⟩) M.length cw) ∧ y0.cell? ⟨gw, i, none⟩ = some (.string U) ∧ y0.cell? ⟨gw, D, none⟩ = some (.string V) ∧ Below w.heap.size w y0 := HSK.out _ HT0.out.below
                have HGO : Hid _ := HGX.out y0 HT0.out.below
                clear HT6 HT7 hs6
                go_upto_region 12 with fail
                refine wp_region_L 12 (fun y => y.cell? ⟨rb, 4, none⟩ = some (.slice (some ⟨gw, 0, none⟩) M.length cw) ∧ y.cell? ⟨gw, i, none⟩ = some (.string U) ∧ y.cell? ⟨gw, D, none⟩ = some (.string V) ∧ Below w.heap.size w y) (by kernel_rfl) (by rw [← hy0]; exact hS0) (fun hH0 => ?_)
                rw [← hy0] at hH0 ⊢
                clear hS0 hy0
                refine wpAnyL_take (i := 0) (oi := { dst := some 51, op := Go.Op.move (Go.Operand.tmp 5), type := 28, pos := "ref.go:189", after := #[], guard := none }) (v := ?_) rfl (by kernel_rfl) (by kernel_rfl) (by decide) (by kernel_rfl) (by kernel_rfl) (by kernel_rfl) (fun _ _ _ h => h) (Or.inl ⟨by rfl, ?_⟩) (by assumption) ?_
                rotate_left
                · intro w' hS; go_simp; (try with_reducible rfl)
                simp only [Act.put, List.setIfInBounds_toArray, List.set_cons_zero, List.set_cons_succ]
                refine wpAnyL_take (i := 1) (oi := { dst := some 52, op := Go.Op.move (Go.Operand.tmp 0), type := 39, pos := "ref.go:189", after := #[], guard := none }) (v := ?_) rfl (by kernel_rfl) (by kernel_rfl) (by decide) (by kernel_rfl) (by kernel_rfl) (by kernel_rfl) (fun _ _ _ h => h) (Or.inl ⟨by rfl, ?_⟩) (by assumption) ?_
                rotate_left
                · intro w' hS; go_simp; (try with_reducible rfl)
                simp only [Act.put, List.setIfInBounds_toArray, List.set_cons_zero, List.set_cons_succ]
                refine wpAnyL_take (i := 2) (oi := { dst := some 53, op := Go.Op.nilCheck (Go.Operand.tmp 52), type := 0, pos := "ref.go:189", after := #[{ on := 1, ground := Go.Ground.data }], guard := none }) (v := ?_) rfl (by kernel_rfl) (by kernel_rfl) (by decide) (by kernel_rfl) (by kernel_rfl) (by kernel_rfl) (fun _ _ _ h => h) (Or.inl ⟨by rfl, ?_⟩) (by assumption) ?_
                rotate_left
                · intro w' hS; go_simp; (try with_reducible rfl)
                simp only [Act.put, List.setIfInBounds_toArray, List.set_cons_zero, List.set_cons_succ]
                refine wpAnyL_take (i := 3) (oi := { dst := some 54, op := Go.Op.fieldAddr 63 (Go.Operand.tmp 53) 2, type := 0, pos := "ref.go:189", after := #[{ on := 2, ground := Go.Ground.data }], guard := none }) (v := ?_) rfl (by kernel_rfl) (by kernel_rfl) (by decide) (by kernel_rfl) (by kernel_rfl) (by kernel_rfl) (fun _ _ _ h => h) (Or.inl ⟨by rfl, ?_⟩) (by assumption) ?_
                rotate_left
                · intro w' hS; go_simp; (try with_reducible rfl)
                simp only [Act.put, List.setIfInBounds_toArray, List.set_cons_zero, List.set_cons_succ]
                refine wpAnyL_take (i := 4) (oi := { dst := some 55, op := Go.Op.load 28 (Go.Operand.tmp 54), type := 28, pos := "ref.go:189", after := #[{ on := 3, ground := Go.Ground.data }], guard := none }) (v := .slice (some ⟨gw, 0, none⟩) M.length cw) rfl (by kernel_rfl) (by kernel_rfl) (by decide) (by kernel_rfl) (by kernel_rfl) (by kernel_rfl) (fun _ _ _ h => h) (Or.inl ⟨by rfl, ?_⟩) (by assumption) ?_
                · intro w' hS; have hz := hS.1; go_simp
                simp only [Act.put, List.setIfInBounds_toArray, List.set_cons_zero, List.set_cons_succ]
                refine wpAnyL_take (i := 5) (oi := { dst := some 56, op := Go.Op.move (Go.Operand.tmp 0), type := 39, pos := "ref.go:189", after := #[], guard := none }) (v := ?_) rfl (by kernel_rfl) (by kernel_rfl) (by decide) (by kernel_rfl) (by kernel_rfl) (by kernel_rfl) (fun _ _ _ h => h) (Or.inl ⟨by rfl, ?_⟩) (by assumption) ?_
                rotate_left
                · intro w' hS; go_simp; (try with_reducible rfl)
                simp only [Act.put, List.setIfInBounds_toArray, List.set_cons_zero, List.set_cons_succ]
                refine wpAnyL_take (i := 6) (oi := { dst := some 57, op := Go.Op.move (Go.Operand.tmp 8), type := 9, pos := "ref.go:189", after := #[], guard := none }) (v := ?_) rfl (by kernel_rfl) (by kernel_rfl) (by decide) (by kernel_rfl) (by kernel_rfl) (by kernel_rfl) (fun _ _ _ h => h) (Or.inl ⟨by rfl, ?_⟩) (by assumption) ?_
                rotate_left
                · intro w' hS; go_simp; (try with_reducible rfl)
                simp only [Act.put, List.setIfInBounds_toArray, List.set_cons_zero, List.set_cons_succ]
                refine wpAnyL_ready (rs := [7]) (by kernel_rfl) (by simp) ?_
                refine AllReadyL.cons rfl (fun KQ hK => ?_) AllReadyL.nil
                go_simp
                refine Calls.mono HGO.out ?_
                rintro e y1 ⟨rfl, hb⟩
                have HT1 : Hid (TwoW w y1 v7 (.slice ra RR.length rc) (LL ++ [lw K N i ++ [c]]) RR) := HT0.out.call hb
                have hN1 := HSS.out _ _ hH0 hb
                clear hb
                go_wp2_with fail
                refine hK.out _ _ hN1 (fun hH1 => ?_)
                clear hN1
                clear hK KQ
                refine wpAnyL_take (i := 8) (oi := { dst := some 59, op := Go.Op.indexAddr 28 (Go.Operand.tmp 55) (Go.Operand.tmp 58), type := 0, pos := "ref.go:189", after := #[{ on := 4, ground := Go.Ground.data }, { on := 7, ground := Go.Ground.data }], guard := none }) (v := ?_) rfl (by kernel_rfl) (by kernel_rfl) (by decide) (by kernel_rfl) (by kernel_rfl) (by kernel_rfl) (fun _ _ _ h => h) (Or.inl ⟨by rfl, ?_⟩) (by assumption) ?_
                rotate_left
                · intro w' hS; go_simp; (try with_reducible rfl)
                simp only [Act.put, List.setIfInBounds_toArray, List.set_cons_zero, List.set_cons_succ]
                refine wpAnyL_take (i := 9) (oi := { dst := some 60, op := Go.Op.load 9 (Go.Operand.tmp 59), type := 9, pos := "ref.go:189", after := #[{ on := 8, ground := Go.Ground.data }], guard := none }) (v := .string V) rfl (by kernel_rfl) (by kernel_rfl) (by decide) (by kernel_rfl) (by kernel_rfl) (by kernel_rfl) (fun _ _ _ h => h) (Or.inl ⟨by rfl, ?_⟩) (by assumption) ?_
                · intro w' hS; have hz := hS.2.2.1; go_simp
                simp only [Act.put, List.setIfInBounds_toArray, List.set_cons_zero, List.set_cons_succ]
                refine wpAnyL_ready (rs := [10]) (by kernel_rfl) (by simp) ?_
                refine AllReadyL.cons rfl (fun KQ hK => ?_) AllReadyL.nil
                go_simp
                refine hK.out _ _ (HSS.out _ _ hH1 (below_new _ _)) (fun hH2 => ?_)
                clear hK KQ
                refine wpAnyL_ready (rs := [11]) (by kernel_rfl) (by simp) ?_
                refine AllReadyL.cons rfl (fun KQ hK => ?_) AllReadyL.nil
                rw [if_pos (by rfl)]
                have hs1 := HT1.out.below.size
                refine wp_append_lies _ _ _ 28 rfl w.heap.size 9 i0 (.string ByteArray.empty) 1 16 Try.underlying28 hi0 hz0 hz1 hz2 rfl (by decide) _ _ _ rfl (HT1.out.r.alloc _) ⟨y1.heap.size, 0, none⟩ 1 1 [.string V] rfl rfl (fun j x hx => by rw [addr_add0]; refine cell_at (heap_last y1 _) ?_; rw [List.getElem?_toArray]; exact hx) (by intro x hx; simp at hx; subst hx; rfl) (by decide) (by unfold maxLen; omega) (by omega) (by simp; omega) (y1.heap.size + 1) (by simp) ?_
                intro g9 c9 w9 ho9 hg9 hl9 _
                have HT9 : Hid (TwoW w w9 v7 (.slice (some ⟨g9, 0, none⟩) (RR.length + 1) c9) (LL ++ [lw K N i ++ [c]]) (RR ++ [lw K N D])) := (HT1.out.swap.left (q := y1.heap.size + 1) (by rw [HV.out]; exact ho9) hg9 (by rcases hl9 with z | z; exact .inl z.symm; exact .inr (by rw [← z]; rfl)) (by omega)).swap
                refine hK.out _ _ (HSK.out _ HT9.out.below) (fun hH3 => ?_)
                clear ho9 hg9 hl9
                clear hK KQ
                refine wpAnyL_ready (rs := [12]) (by kernel_rfl) (by simp) ?_
                refine AllReadyL.last rfl (fun KQ hK => ?_)
                go_simp
                refine hK.out _ _ ?_
                clear hK KQ
                refine wpAnyL_done (by kernel_rfl) ?_ _
                clear HT0 HGO HT1
                go_wp2_with fail
                go_roundw
                case rel => exact ⟨c + 1, by go_num, by have := HC.out; omega, by rw [HLR.out.1, HLR.out.2]; exact HT9.out⟩
                case measure => have := HC.out; simp [Go.RowKit.intOf]; omega
        · have hcI : ¬ (c : Int) < K := by omega
          have hcd : decide ((c : Int) < K) = false := decide_eq_false hcI
          obtain rfl : c = K := by omega
          have hi512 : i < 512 := by have := HI.out; omega
          go_wp2_with fail
          go_roundw
          case rel => exact ⟨i + 1, by go_num, HI.out, by have := HT.out; rw [Nat.succ_mul]; exact this⟩
          case measure => have := HI.out; simp [Go.RowKit.intOf]; omega
    · have hiI : ¬ (i : Int) < M.length := by omega
      have hid : decide ((i : Int) < M.length) = false := decide_eq_false hiI
      have HE : Hid (i * K = N.length) := by show _ = _; rw [HNL.out, show i = M.length by omega]
      clear hT
      go_wp2_with fail
      refine (rlen_any (HM.out _ HT.out.below)).mono ?_
      rintro e w1 ⟨rfl, rfl⟩
      go_wp2_with fail
      go_ret2
      exact ⟨_, _, rfl, by rw [← HE.out]; exact HT.out⟩

end Go.Proofs.Ytenpeomnmbnoaaa
