/- E60 E61 E62 Ju Qkd Qld Jv E89, in one text. -/
import Derived.Test.YtabkhoiccjkghaaW2
import Derived.Test.YtabkhoiccjkghaaW1
import Derived.Test.YtabkhoiccjkghaaJt
import Derived.OpenShut
import Derived.ProofKit
import Derived.ShutString
import Derived.ChangeOld
import Derived.JoinedCond
import Derived.SizedLaws
import Derived.Carry
import Derived.Deep.Strs
import Derived.Deep.Grids
import Derived.Test.YtabkhoiccjkghaaJs
import Derived.Deep.QuietTactic
import Derived.BigQuiet
import Derived.ArgAppend
import Derived.Deep.RegionHeld
import Derived.Test.YtabkhoiccjkghaaJr
import Derived.Deep.RegionHeld3
namespace Go.Proofs.Ytabkhoiccjkghaa
open Go Go.RowKit Go.Lib Go.Maps
set_option linter.unusedVariables false
attribute [-instance] List.instBEq instBEqProd

set_option maxHeartbeats 2000000 in
set_option maxRecDepth 100000 in
theorem rbuild_bad (v : Value) (A : Aut) (w : World) (h : AR w v A) (hm : A.nx.length ≤ 9223372036854775806) (hm2 : A.ac.length ≤ 9223372036854775806) (hE : owE A ByteArray.empty ≠ 0) : Calls Try.prog 24 #[v] w fun e w' => e = .returned (.tuple #[.pointer none, .int .i64 (owE A ByteArray.empty)]) ∧ Below w.heap.size w w' := by
  obtain ⟨an, cn, aa, ca, e, h1, h2⟩ := h.is
  have HCK : Hid (∀ y, Below w.heap.size w y → Calls Try.prog 45 #[v] y fun e w' => e = .returned (.int .i64 (chkA A)) ∧ Below y.heap.size y w') := fun y hy => racheck_any v A y (h.stay hy) hm hm2
  subst e
  obtain ⟨W, hW⟩ : ∃ W, W = w.alloc (.cells #[.int .i64 A.k, .slice an A.nx.length cn, .slice aa A.ac.length ca] 25) := ⟨_, rfl⟩
  have HB1 : Hid (Below w.heap.size w W) := by show Below _ _ _; rw [hW]; exact below_new _ _
  have HBX1 : Hid (W.heap[w.heap.size]? = some (.cells #[.int .i64 A.k, .slice an A.nx.length cn, .slice aa A.ac.length ca] 25 (0, 0))) := by show _ = _; rw [hW]; exact heap_last _ _
  have HW1 : Hid (W = w.alloc (.cells #[.int .i64 A.k, .slice an A.nx.length cn, .slice aa A.ac.length ca] 25)) := hW
  clear hW h h1 h2
  by_cases hc : chkA A = 0
  · have h64 : 64 < A.ac.length := by
      rcases Nat.lt_or_ge 64 A.ac.length with q | q
      · exact q
      · exact absurd (owE_good (chkA_good hc) q) hE
    have HE : Hid (owE A ByteArray.empty = 81) := by show _ = _; unfold owE; rw [if_pos hc, if_pos (by omega)]
    rw [hc] at HCK
    have h64I : (64 : Int) < (A.ac.length : Nat) := by omega
    have h64d : decide ((64 : Int) < (A.ac.length : Nat)) = true := decide_eq_true h64I
    have h64e : decide (64 < A.ac.length) = true := decide_eq_true h64
    clear hE hc
    go_enter Try.func24, Try.ntmps24
    go_wp2_with fail
    rw [← HW1.out]
    refine (HCK.out _ HB1.out).mono ?_
    rintro e w1 ⟨rfl, hb⟩
    have HB2 : Hid (Below w.heap.size w w1) := go_on HB1.out hb
    have cs2 : w1.cell? ⟨w.heap.size, 2, none⟩ = some (.slice aa A.ac.length ca) := cell_at ((hb.block _ (Array.getElem?_eq_some_iff.1 HBX1.out).1).trans HBX1.out) rfl
    clear hb
    go_wp2_with fail
    go_ret2
    exact ⟨by rw [HE.out]; rfl, HB2.out⟩
  · have hG : ¬ Good A := fun G => hc (chkA_ok G)
    have HE : Hid (owE A ByteArray.empty = 80) := by show _ = _; unfold owE; rw [if_neg hc]
    rw [chkA_no hG] at HCK
    clear hE hc hG
    go_enter Try.func24, Try.ntmps24
    go_wp2_with fail
    rw [← HW1.out]
    refine (HCK.out _ HB1.out).mono ?_
    rintro e w1 ⟨rfl, hb⟩
    have HB2 : Hid (Below w.heap.size w w1) := go_on HB1.out hb
    have cs2 : w1.cell? ⟨w.heap.size, 2, none⟩ = some (.slice aa A.ac.length ca) := cell_at ((hb.block _ (Array.getElem?_eq_some_iff.1 HBX1.out).1).trans HBX1.out) rfl
    clear hb
    go_wp2_with fail
    go_ret2
    exact ⟨by rw [HE.out]; rfl, HB2.out⟩

theorem rbuild_any (v : Value) (A : Aut) (w : World) (h : AR w v A) (hm : A.nx.length ≤ 9223372036854775806) (hm2 : A.ac.length ≤ 9223372036854775806) : Calls Try.prog 24 #[v] w (RbQ A w) := by
  by_cases hE : owE A ByteArray.empty = 0
  · obtain ⟨G, h64⟩ := owE_ok hE
    exact rbuild_ok v A w h G h64
  · refine (rbuild_bad v A w h hm hm2 hE).mono ?_
    rintro e w' ⟨rfl, hb⟩
    have e1 : bdE A = owE A ByteArray.empty := by unfold bdE; rw [if_neg hE]
    exact .inl ⟨by rw [e1]; exact hE, by rw [e1], hb⟩

end Go.Proofs.Ytabkhoiccjkghaa

namespace Go.Proofs.Ytabkhoiccjkghaa
open Go Go.RowKit Go.Lib Go.Maps
set_option linter.unusedVariables false
attribute [-instance] List.instBEq instBEqProd

/-- A monoid that Build made, of whose automaton's lists nothing lies below lo. -/
def MOb (lo : Nat) (w : World) (ob : Nat) (A : Aut) (M : List (List Nat)) (N : List Nat) : Prop := ∃ base bt b mb gw ga R n a c d vl D an cn aa ca, lo ≤ base ∧ MP w ob A M N base bt b mb gw ga R n a c d vl D an cn aa ca (.pointer (some ⟨ob, 0, none⟩))

theorem MOb.mo {lo : Nat} {w : World} {ob : Nat} {A : Aut} {M : List (List Nat)} {N : List Nat} (h : MOb lo w ob A M N) : MO w ob A M N := by
  obtain ⟨base, bt, b, mb, gw, ga, R, n, a, c, d, vl, D, an, cn, aa, ca, _, h⟩ := h
  exact ⟨base, bt, b, mb, gw, ga, R, n, a, c, d, vl, D, an, cn, aa, ca, h⟩

theorem MOb.below {lo : Nat} {w w' : World} {ob : Nat} {A : Aut} {M : List (List Nat)} {N : List Nat} (h : MOb lo w ob A M N) (hb : Below w.heap.size w w') : MOb lo w' ob A M N := by
  obtain ⟨base, bt, b, mb, gw, ga, R, n, a, c, d, vl, D, an, cn, aa, ca, l, h⟩ := h
  exact ⟨base, bt, b, mb, gw, ga, R, n, a, c, d, vl, D, an, cn, aa, ca, l, h.keep hb⟩

theorem MOb.set {lo : Nat} {w : World} {ob : Nat} {A : Aut} {M : List (List Nat)} {N : List Nat} (h : MOb lo w ob A M N) {g o : Nat} {v : Value} {cs : Array Value} (hg : g < lo) (hc : w.heap[g]? = some (.cells cs 3 (0, 0))) : MOb lo (w.setCell ⟨g, o, none⟩ v) ob A M N := by
  obtain ⟨base, bt, b, mb, gw, ga, R, n, a, c, d, vl, D, an, cn, aa, ca, l, h⟩ := h
  have kt : ∀ (j : Nat) (cur : Array Value) (ty : TypeId), w.heap[j]? = some (.cells cur ty (0, 0)) → ty ≠ 3 → (w.setCell ⟨g, o, none⟩ v).heap[j]? = w.heap[j]? := fun j cur ty hj hn => heap_set_other (blk_ne hj hc hn)
  obtain ⟨cw, hw, _⟩ := id h.wp
  obtain ⟨cb, hb, _⟩ := id h.bp
  obtain ⟨cr, hr, _⟩ := id h.rt
  refine ⟨base, bt, b, mb, gw, ga, R, n, a, c, d, vl, D, an, cn, aa, ca, l, ⟨(kt _ _ _ h.box (by decide)).trans h.box, own_keep h.nx (fun j cur hj _ => heap_set_other (by have := (h.nx.lt j hj).1; omega)), own_keep h.ac (fun j cur _ hc => kt j _ _ hc (by decide)), h.tb.keep (fun j hj _ => heap_set_other (fun e => by subst e; exact h.tb.not_ts hc (by decide) (by decide) hj)), h.wp.keep (kt _ _ _ hw (by decide)), h.bp.keep (kt _ _ _ hb (by decide)), h.rt.keep (kt _ _ _ hr (by decide)), h.mon, h.num⟩⟩

/-- What Build answers of an automaton of at most 64 states. -/
def BdL (A : Aut) (w : World) (e : Ending) (w' : World) : Prop :=
  (mEl A = none ∧ e = .returned (.tuple #[.pointer none, .int .i64 140]) ∧ Below w.heap.size w w') ∨
  ∃ ob M N, e = .returned (.tuple #[.pointer (some ⟨ob, 0, none⟩), .int .i64 0]) ∧ mEl A = some (M, N) ∧ MOb w.heap.size w' ob A M N ∧ Below w.heap.size w w'

set_option maxHeartbeats 4000000 in
set_option maxRecDepth 100000 in
theorem build_low (v : Value) (A : Aut) (w : World) (h : AR w v A) (G : Good A) (h64 : A.ac.length ≤ 64) :
    Calls Try.prog 23 #[v] w (BdL A w) := by
  have hks := G.ks
  have hn1 := G.n1
  have hln := G.len
  have hxl : 1 ≤ A.nx.length ∧ A.nx.length ≤ 40000 := by
    have h1 : (1 : Int) * 1 ≤ (A.ac.length : Int) * A.k := Int.mul_le_mul (by omega) G.k1 (by omega) (by omega)
    have h2 : (A.ac.length : Int) * A.k ≤ 64 * 8 := Int.mul_le_mul (by omega) G.k8 (by have := G.k1; omega) (by omega)
    omega
  obtain ⟨an, cn, aa, ca, e, h1, h2⟩ := h.is
  have HA : Hid (∀ w', Below w.heap.size w w' → AR w' v A) := fun w' hb => h.stay hb
  clear h h1 h2 hln
  subst e
  have HGd : Hid (Good A) := G
  obtain ⟨w0, hw0⟩ : ∃ w0, w0 = w.alloc (.cells #[.int .i64 A.k, .slice an A.nx.length cn, .slice aa A.ac.length ca] 25) := ⟨_, rfl⟩
  have HB0 : Hid (Below w.heap.size w w0) := by show Below _ _ _; rw [hw0]; exact below_new _ _
  have HR0 : Hid (RowAt w0 w.heap.size #[.int .i64 A.k, .slice an A.nx.length cn, .slice aa A.ac.length ca]) := by show RowAt _ _ _; rw [hw0]; exact RowAt.last _ _ _
  have HW0 : Hid (w0 = w.alloc (.cells #[.int .i64 A.k, .slice an A.nx.length cn, .slice aa A.ac.length ca] 25)) := hw0
  clear hw0 G
  go_enter Try.func23, Try.ntmps23
  go_wp2_with fail
  rw [← HW0.out]
  refine (find_any _ A w0 (HA.out _ HB0.out) HGd.out h64).mono ?_
  rintro e w1 (⟨hno, rfl, hB1⟩ | ⟨base, fb, b, mb, vl, vw, vr, M, W, N, D, rfl, hE, hWY, hF, hlo, hB1⟩)
  · have HNO : Hid (mEl A = none) := hno
    have HB1 : Hid (Below w.heap.size w w1) := go_on HB0.out hB1
    clear hno hB1
    go_wp2_with fail
    go_ret2
    exact .inl ⟨HNO.out, rfl, HB1.out⟩
  · have HMon : Hid (Mon A M N) := mon_of HGd.out h64 hE
    have HE : Hid (mEl A = some (M, N)) := hE
    have HWY : Hid (WyO A.k.toNat M W N) := hWY
    have HF : Hid (FN base w1 fb b mb A.k.toNat A.ac.length vl vw vr M W N D) := hF
    have HB1 : Hid (Below w.heap.size w w1) := go_on HB0.out hB1
    have HR1 : Hid (RowAt w1 w.heap.size #[.int .i64 A.k, .slice an A.nx.length cn, .slice aa A.ac.length ca]) := HR0.out.stay hB1
    have S0 : ((∀ o, (w1.drew).cell? ⟨w.heap.size, o, none⟩ = (#[.int .i64 A.k, .slice an A.nx.length cn, .slice aa A.ac.length ca] : Array Value)[o]?) ∧ (w1.drew).cell? ⟨fb, 1, none⟩ = some (.pointer (some ⟨b, 0, none⟩))) := ⟨HR1.out.cell, cell_at HF.out.box rfl⟩
    have HSK : Hid (∀ y y' : World, ((∀ o, y.cell? ⟨w.heap.size, o, none⟩ = (#[.int .i64 A.k, .slice an A.nx.length cn, .slice aa A.ac.length ca] : Array Value)[o]?) ∧ y.cell? ⟨fb, 1, none⟩ = some (.pointer (some ⟨b, 0, none⟩))) → Below y.heap.size y y' → ((∀ o, y'.cell? ⟨w.heap.size, o, none⟩ = (#[.int .i64 A.k, .slice an A.nx.length cn, .slice aa A.ac.length ca] : Array Value)[o]?) ∧ y'.cell? ⟨fb, 1, none⟩ = some (.pointer (some ⟨b, 0, none⟩)))) := fun y y' hy hb => by
      have k1 : w.heap.size < y.heap.size := World.block_lt_of_cell? y ⟨w.heap.size, 0, none⟩ (hy.1 0)
      have k2 : fb < y.heap.size := World.block_lt_of_cell? y ⟨fb, 1, none⟩ hy.2
      exact ⟨fun o => by rw [below_cellJ hb k1]; exact hy.1 o, by rw [below_cellJ hb k2]; exact hy.2⟩
    clear hE hWY hF hB1 HR0 HW0
    go_wp2_with fail
    go_region_held3 (fun y => ((∀ o, y.cell? ⟨w.heap.size, o, none⟩ = (#[.int .i64 A.k, .slice an A.nx.length cn, .slice aa A.ac.length ca] : Array Value)[o]?) ∧ y.cell? ⟨fb, 1, none⟩ = some (.pointer (some ⟨b, 0, none⟩)))) (first | assumption | exact S0 | exact HSK.out _ _ (by assumption) (by assumption) | exact HSK.out _ _ (by assumption) (below_new _ _)) (first
      | (go_at_call 38; refine (fresh_any _ A _ (HA.out _ HB1.out.drew) hxl.1 hn1 hxl.2 (by omega)).mono ?_; rintro e y1 ⟨v1, rfl, ⟨an1, cn1, aa1, ca1, rfl, hx1, hc1⟩, hy1⟩; have K1 : Hid (Below w1.heap.size w1 y1) := go_on (Below.refl _ _).drew hy1; have HX1 : Hid (y1.ownsRow w1.drew.heap.size 3 1 (.slice an1 A.nx.length cn1) A.nx.length (zC A.nx)) := hx1; have HC1 : Hid (y1.ownsRow w1.drew.heap.size 4 1 (.slice aa1 A.ac.length ca1) A.ac.length (bC A.ac)) := hc1; have HY2 : Hid (∀ z, Below y1.heap.size y1 z → Below y1.heap.size y1 z) := fun _ q => q; clear hx1 hc1)
      | (go_at_call 42; refine (words_any (HF.out.below K1.out) HWY.out HMon.out.fst ⟨hks.1, hks.2.1⟩ HMon.out.pos).mono ?_; rintro e y2 ⟨g2, rfl, hy2, hg2, hw2⟩; have K2 : Hid (Below w1.heap.size w1 y2) := go_on K1.out hy2; have HW2 : Hid (WP y2 g2 A.k.toNat M.length N M.length) := hw2; clear hw2 hg2)
      | (go_at_call 43; refine (accepted_any (HF.out.below K2.out) HWY.out.len _ (HA.out _ (go_on HB1.out K2.out)) hn1).mono ?_; rintro e y3 ⟨g3, rfl, hy3, hg3, hb3⟩; have K3 : Hid (Below w1.heap.size w1 y3) := go_on K2.out hy3; have HP3 : Hid (BP y3 g3 A M M.length) := hb3; have HY3 : Hid (Below y2.heap.size y2 y3) := hy3; clear hb3 hg3)
      | (go_at_call 44; refine (lay_any (HF.out.below K3.out) HWY.out HMon.out.fst ⟨hks.1, hks.2.1⟩ HMon.out.pos HMon.out.len (fun a b ha hb => HMon.out.pr_lt ha hb) (fun p hp => HMon.out.nl hp)).mono ?_; rintro e y4 ⟨R, n, a, c, d, hn, ha, hc, hd, rfl, hy4, hR, hRT⟩; have K4 : Hid (Below w1.heap.size w1 y4) := go_on K3.out hy4; have HRT : Hid (RT y4 R n A.k.toNat N (fun _ _ => True) (fun _ _ => True)) := hRT; have HNM : Hid (M.length = n ∧ n * A.k.toNat = a ∧ n * n = c ∧ a + a = d) := ⟨hn, ha, hc, hd⟩; have HY4 : Hid (Below y3.heap.size y3 y4) := hy4; clear hRT hn ha hc hd hR))
    have HMP : Hid (MP (y4.alloc (.cells #[.pointer (some ⟨y4.heap.size, 0, none⟩), .int .i64 A.k, .slice an1 A.nx.length cn1, .slice aa1 A.ac.length ca1, .pointer (some ⟨b, 0, none⟩), .slice (some ⟨g2, 0, none⟩) M.length M.length, .slice (some ⟨g3, 0, none⟩) M.length M.length, .int .i64 A.k, .slice (some ⟨R, 0, none⟩) a a, .int .i64 A.k, .slice (some ⟨R, a, none⟩) a a, .int .i64 (n : Int), .slice (some ⟨R, d, none⟩) c c] 74)) y4.heap.size A M N w1.drew.heap.size base b mb g2 g3 R n a c d vl D an1 cn1 aa1 ca1 (.pointer (some ⟨y4.heap.size, 0, none⟩))) := by
      have hY14 : Below y1.heap.size y1 y4 := go_on (go_on hy2 HY3.out) HY4.out
      have hb : Below y4.heap.size y4 (y4.alloc (.cells #[.pointer (some ⟨y4.heap.size, 0, none⟩), .int .i64 A.k, .slice an1 A.nx.length cn1, .slice aa1 A.ac.length ca1, .pointer (some ⟨b, 0, none⟩), .slice (some ⟨g2, 0, none⟩) M.length M.length, .slice (some ⟨g3, 0, none⟩) M.length M.length, .int .i64 A.k, .slice (some ⟨R, 0, none⟩) a a, .int .i64 A.k, .slice (some ⟨R, a, none⟩) a a, .int .i64 (n : Int), .slice (some ⟨R, d, none⟩) c c] 74)) := below_new _ _
      have hnm := HNM.out
      refine ⟨?_, own_below (own_below HX1.out hY14) hb, own_below (own_below HC1.out hY14) hb, (HF.out.tb.below K4.out).below hb, ?_, ?_, HRT.out.keep (hb.block _ HRT.out.lt), HMon.out, hnm⟩
      · rw [hks.2.2]
        have q0 := heap_last y4 (.cells #[.pointer (some ⟨y4.heap.size, 0, none⟩), .int .i64 A.k, .slice an1 A.nx.length cn1, .slice aa1 A.ac.length ca1, .pointer (some ⟨b, 0, none⟩), .slice (some ⟨g2, 0, none⟩) M.length M.length, .slice (some ⟨g3, 0, none⟩) M.length M.length, .int .i64 A.k, .slice (some ⟨R, 0, none⟩) a a, .int .i64 A.k, .slice (some ⟨R, a, none⟩) a a, .int .i64 (n : Int), .slice (some ⟨R, d, none⟩) c c] 74)
        have e := hnm.1
        rw [q0]
        congr 3
        rw [e]
      · have h24 : Below y2.heap.size y2 y4 := go_on HY3.out HY4.out
        have q0 := HW2.out
        rw [hnm.1] at q0
        exact (q0.keep (h24.block g2 HW2.out.lt)).keep (hb.block g2 (by have := HW2.out.lt; have := h24.size; omega))
      · have q0 := HP3.out
        rw [hnm.1] at q0
        exact (q0.keep (HY4.out.block g3 HP3.out.lt)).keep (hb.block g3 (by have := HP3.out.lt; have := HY4.out.size; omega))
    have HBF : Hid (Below w.heap.size w (y4.alloc (.cells #[.pointer (some ⟨y4.heap.size, 0, none⟩), .int .i64 A.k, .slice an1 A.nx.length cn1, .slice aa1 A.ac.length ca1, .pointer (some ⟨b, 0, none⟩), .slice (some ⟨g2, 0, none⟩) M.length M.length, .slice (some ⟨g3, 0, none⟩) M.length M.length, .int .i64 A.k, .slice (some ⟨R, 0, none⟩) a a, .int .i64 A.k, .slice (some ⟨R, a, none⟩) a a, .int .i64 (n : Int), .slice (some ⟨R, d, none⟩) c c] 74))) := by
      have q := go_on HB1.out K4.out
      exact go_on q (below_new _ _)
    clear S0 hy1 hy2 hy3 hy4
    go_wp2_with fail
    go_ret2
    exact .inr ⟨y4.heap.size, M, N, rfl, HE.out, ⟨_, _, _, _, _, _, _, _, _, _, _, _, _, _, _, _, _, HB1.out.size, HMP.out⟩, HBF.out⟩

/-- What Build answers. -/
def BdB (A : Aut) (w : World) (e : Ending) (w' : World) : Prop :=
  (bdE A ≠ 0 ∧ e = .returned (.tuple #[.pointer none, .int .i64 (bdE A)]) ∧ Below w.heap.size w w') ∨
  ∃ ob M N, e = .returned (.tuple #[.pointer (some ⟨ob, 0, none⟩), .int .i64 0]) ∧ Good A ∧ A.ac.length ≤ 64 ∧ mEl A = some (M, N) ∧ MOb w.heap.size w' ob A M N ∧ Below w.heap.size w w'

theorem build_lows (v : Value) (A : Aut) (w : World) (h : AR w v A) (hm : A.nx.length ≤ 9223372036854775806) (hm2 : A.ac.length ≤ 9223372036854775806) :
    Calls Try.prog 23 #[v] w (BdB A w) := by
  by_cases hE : owE A ByteArray.empty = 0
  · obtain ⟨G, h64⟩ := owE_ok hE
    refine (build_low v A w h G h64).mono ?_
    rintro e w' (⟨hn, rfl, hb⟩ | ⟨ob, M, N, rfl, he, hmo, hb⟩)
    · have e1 : bdE A = 140 := by unfold bdE; rw [if_pos hE, hn]; rfl
      exact .inl ⟨by rw [e1]; decide, by rw [e1], hb⟩
    · exact .inr ⟨ob, M, N, rfl, G, h64, he, hmo, hb⟩
  · refine (build_bad v A w h hm hm2 hE).mono ?_
    rintro e w' ⟨rfl, hb⟩
    have e1 : bdE A = owE A ByteArray.empty := by unfold bdE; rw [if_neg hE]
    exact .inl ⟨by rw [e1]; exact hE, by rw [e1], hb⟩

end Go.Proofs.Ytabkhoiccjkghaa

namespace Go.Proofs.Ytabkhoiccjkghaa
open Go Go.RowKit Go.Lib Go.Maps
set_option linter.unusedVariables false
attribute [-instance] List.instBEq instBEqProd

theorem bdE_ok {A : Aut} (G : Good A) (h64 : A.ac.length ≤ 64) {M : List (List Nat)} {N : List Nat} (he : mEl A = some (M, N)) : bdE A = 0 := by
  unfold bdE
  rw [if_pos (owE_good G h64), he]
  rfl

theorem results_tmp4 {fn : Func} {t u v x : Tmp} (h : fn.results = #[.tmp t, .tmp u, .tmp v, .tmp x]) (tmps : Array Value) (P : Program) (w : World) :
    (results fn tmps).run P w = .ok (.tuple #[tmps.getD t undef, tmps.getD u undef, tmps.getD v undef, tmps.getD x undef]) w := by
  simp [results, h]

/-- What Both answers. -/
def BoQ (A : Aut) (w : World) (e : Ending) (w' : World) : Prop :=
  (bdE A ≠ 0 ∧ e = .returned (.tuple #[.pointer none, .pointer none, .bool false, .bool true]) ∧ Below w.heap.size w w') ∨
  ∃ ob rb M N, e = .returned (.tuple #[.pointer (some ⟨ob, 0, none⟩), .pointer (some ⟨rb, 0, none⟩), .bool true, .bool true]) ∧ Good A ∧ A.ac.length ≤ 64 ∧ mEl A = some (M, N) ∧ MO w' ob A M N ∧ RF w' rb A M N ∧ Below w.heap.size w w'

set_option maxHeartbeats 4000000 in
set_option maxRecDepth 100000 in
theorem both14_any (v : Value) (A : Aut) (w : World) (h : AR w v A) (hn : NilOk v) (hm : (A.nx.length + 2) * 8 ≤ 140737488355328) (hm2 : A.ac.length ≤ 140737488355328) :
    Calls Try.prog 4 #[v] w (BoQ A w) := by
  obtain ⟨an, cn, aa, ca, e, h1, h2⟩ := h.is
  have HAR : Hid (∀ w', Below w.heap.size w w' → AR w' v A) := fun w' hb => h.stay hb
  have HLE : Hid (∀ w', Below w.heap.size w w' → Calls Try.prog 22 #[v] w' (LQ A w')) := fun w' hb => lentAuto_any v A w' (h.stay hb) hn hm hm2
  have HRB : Hid (∀ w', Below w.heap.size w w' → Calls Try.prog 24 #[v] w' (RbQ A w')) := fun w' hb => rbuild_any v A w' (h.stay hb) (by omega) (by omega)
  have HNL : Hid (A.nx.length ≤ 9223372036854775806) := by show _ ≤ _; omega
  clear h h1 h2 hn
  subst e
  have R1 : RowAt (w.alloc (.cells #[.int .i64 A.k, .slice an A.nx.length cn, .slice aa A.ac.length ca] 25)) w.heap.size #[.int .i64 A.k, .slice an A.nx.length cn, .slice aa A.ac.length ca] := RowAt.last _ _ _
  have HR1 : Hid (RowAt (w.alloc (.cells #[.int .i64 A.k, .slice an A.nx.length cn, .slice aa A.ac.length ca] 25)) w.heap.size #[.int .i64 A.k, .slice an A.nx.length cn, .slice aa A.ac.length ca]) := R1
  clear R1
  go_enter Try.func4, Try.ntmps4
  go_wp2_with fail
  refine (HLE.out _ (below_new _ _)).mono ?_
  rintro e w1 ⟨g, gc, ba, bc, rfl, hi1, hb1, hl1⟩
  have HI1 : Hid (w1.ownsRow (w.alloc (.cells #[.int .i64 A.k, .slice an A.nx.length cn, .slice aa A.ac.length ca] 25)).heap.size 3 1 (.slice (some ⟨g, 0, none⟩) (A.nx.length + 2) gc) (A.nx.length + 2) (zC (A.nx ++ [-77, -78]))) := hi1
  have HBO : Hid (w1.ownsRow (w.alloc (.cells #[.int .i64 A.k, .slice an A.nx.length cn, .slice aa A.ac.length ca] 25)).heap.size 4 1 (.slice ba A.ac.length bc) A.ac.length (bC A.ac)) := hb1
  have HB1 : Hid (Below w.heap.size w w1) := go_on (below_new _ _) hl1
  have HRA : Hid (RowAt w1 w.heap.size #[.int .i64 A.k, .slice an A.nx.length cn, .slice aa A.ac.length ca]) := HR1.out.stay hl1
  have HG1 : Hid (w.heap.size < g ∧ g < w1.heap.size) := by
    have := hi1.lt g rfl
    simp only [World.size_alloc] at this
    show _ ∧ _
    omega
  have HCS1 : Hid (∃ cs : Array Value, w1.heap[g]? = some (.cells cs 3 (0, 0)) ∧ A.nx.length ≤ cs.size) := by
    rcases hi1.2 with ⟨q, _⟩ | ⟨g', cap, cur, q, r1, r2, r3, r4, r5, r6⟩
    · cases q
    · simp only [Value.slice.injEq, Option.some.injEq, Addr.mk.injEq] at q
      obtain ⟨⟨rfl, _⟩, _, rfl⟩ := q
      exact ⟨cur, r2, by omega⟩
  clear hi1 hb1 hl1 HLE HR1
  obtain ⟨W, hW⟩ : ∃ W, W = w1.alloc (.cells #[.int .i64 A.k, .slice (some ⟨g, 0, none⟩) A.nx.length gc, .slice ba A.ac.length bc] 25) := ⟨_, rfl⟩
  have HWE : Hid (W = w1.alloc (.cells #[.int .i64 A.k, .slice (some ⟨g, 0, none⟩) A.nx.length gc, .slice ba A.ac.length bc] 25)) := hW
  have hWb : Below w1.heap.size w1 W := by rw [hW]; exact below_new _ _
  have HRX : Hid (RowAt W w1.heap.size #[.int .i64 A.k, .slice (some ⟨g, 0, none⟩) A.nx.length gc, .slice ba A.ac.length bc]) := by show RowAt _ _ _; rw [hW]; exact RowAt.last _ _ _
  have HRAW : Hid (RowAt W w.heap.size #[.int .i64 A.k, .slice an A.nx.length cn, .slice aa A.ac.length ca]) := HRA.out.stay hWb
  have HBW : Hid (Below w.heap.size w W) := go_on HB1.out hWb
  have HGL : Hid (g < W.heap.size) := by have := HG1.out; have := hWb.size; show _ < _; omega
  have HX : Hid (∀ y, Below W.heap.size W y → AR y (.agg #[.int .i64 A.k, .slice (some ⟨g, 0, none⟩) A.nx.length gc, .slice ba A.ac.length bc]) A) := fun y hy => ⟨_, _, _, _, rfl, (lent_sr HI1.out).stay (hWb.trans (hy.mono hWb.size)), (own_sr HBO.out).stay (hWb.trans (hy.mono hWb.size))⟩
  have HSTY : Hid (∀ y, Below W.heap.size W y → Calls Try.prog 25 #[.agg #[.int .i64 A.k, .slice (some ⟨g, 0, none⟩) A.nx.length gc, .slice ba A.ac.length bc], .agg #[.int .i64 A.k, .slice an A.nx.length cn, .slice aa A.ac.length ca]] y fun e w' => e = .returned (.bool true) ∧ Below y.heap.size y w') := fun y hy =>
    stay8_any A y _ (HAR.out y (go_on HBW.out hy)) _ g gc ba bc (by omega) (by omega) (own_below (own_below HI1.out hWb) hy) (((own_sr HBO.out).stay hWb).stay hy)
  have HCW : Hid (∀ y, Below W.heap.size W y → ∃ cs : Array Value, y.heap[g]? = some (.cells cs 3 (0, 0)) ∧ A.nx.length ≤ cs.size) := fun y hy => by
    obtain ⟨cs, hc, hs⟩ := HCS1.out
    exact ⟨cs, (hy.block g HGL.out).trans ((hWb.block g HG1.out.2).trans hc), hs⟩
  clear hW hWb HRA HCS1
  go_wp2_with fail
  rw [← HWE.out]
  refine (build_lows _ A _ (HX.out _ (Below.refl _ _)) (by omega) (by omega)).mono ?_
  rintro e w2 (⟨hne, rfl, hb2⟩ | ⟨ob, M, N, rfl, G, h64, hE, hmo, hb2⟩)
  · have HB2 : Hid (Below W.heap.size W w2) := hb2
    have HNE : Hid (bdE A ≠ 0) := hne
    obtain ⟨E, hEE⟩ : ∃ E, bdE A = E := ⟨_, rfl⟩
    have HEE : Hid (bdE A = E) := hEE
    have hE0 : E ≠ 0 := by rw [← hEE]; exact hne
    have cs2 := (HRAW.out.stay hb2).cell
    rw [hEE]
    clear hb2 hne hEE
    go_wp2_with fail
    refine (HRB.out _ (go_on HBW.out HB2.out)).mono ?_
    rintro e w3 (⟨_, rfl, hb3⟩ | ⟨rb, M, N, _, G, h64, hel, _⟩)
    · rw [HEE.out]
      have HB3 : Hid (Below W.heap.size W w3) := go_on HB2.out hb3
      have cs3 := (HRAW.out.stay HB3.out).cell
      have cx3 := (HRX.out.stay HB3.out).cell
      have hq0 : (E == 0) = false := by rw [beq_eq_false_iff_ne]; exact hE0
      have hqd : decide (E = 0) = false := decide_eq_false hE0
      have hqE : (E == E) = true := by simp
      have HNM : Hid (∀ y, Calls Try.prog 17 #[.int .i64 E] y fun e w' => e = .returned (.int .i64 E) ∧ y = w') := fun y => num14_any E y
      clear hb3 hE0 cs2
      go_wp2_with fail
      refine (HNM.out _).mono ?_
      rintro e y3 ⟨rfl, hy3⟩
      subst hy3
      go_wp2_with fail
      refine (HSTY.out _ HB3.out).mono ?_
      rintro e w4 ⟨rfl, hb4⟩
      have HRX4 : Hid (RowAt w4 w1.heap.size #[.int .i64 A.k, .slice (some ⟨g, 0, none⟩) A.nx.length gc, .slice ba A.ac.length bc]) := HRX.out.stay (go_on HB3.out hb4)
      have HB4 : Hid (Below w.heap.size w w4) := go_on (go_on HBW.out HB3.out) hb4
      have HC4 : Hid (∃ cs : Array Value, w4.heap[g]? = some (.cells cs 3 (0, 0)) ∧ A.nx.length ≤ cs.size) := HCW.out _ (go_on HB3.out hb4)
      clear hb4 cs3 cx3 HB3 HB2
      go_wp2_with fail
      go_loopw [12] (fun vi wr => ∃ i : Nat, vi = .int .i64 i ∧ i ≤ A.nx.length ∧ RowAt wr w1.heap.size #[.int .i64 A.k, .slice (some ⟨g, 0, none⟩) A.nx.length gc, .slice ba A.ac.length bc] ∧ Below w.heap.size w wr ∧ (∃ cs : Array Value, wr.heap[g]? = some (.cells cs 3 (0, 0)) ∧ A.nx.length ≤ cs.size) ) (fun vi _ => A.nx.length - (Go.RowKit.intOf vi).toNat)
      case atStart => exact ⟨0, rfl, Nat.zero_le _, HRX4.out, HB4.out, HC4.out⟩
      case round =>
        clear HRX4 HB4 HC4
        obtain ⟨i, rfl, hin, hrx, hb, hc⟩ := hrel
        have HRX : Hid (RowAt wr w1.heap.size #[.int .i64 A.k, .slice (some ⟨g, 0, none⟩) A.nx.length gc, .slice ba A.ac.length bc]) := hrx
        have HB : Hid (Below w.heap.size w wr) := hb
        have HC : Hid (∃ cs : Array Value, wr.heap[g]? = some (.cells cs 3 (0, 0)) ∧ A.nx.length ≤ cs.size) := hc
        have c1 : wr.cell? ⟨w1.heap.size, 1, none⟩ = some (.slice (some ⟨g, 0, none⟩) A.nx.length gc) := hrx.cell 1
        clear hrx hb hc
        have hnl := HNL.out
        by_cases hlt : i < A.nx.length
        · have hiI : (i : Int) < A.nx.length := by omega
          have hid : decide ((i : Int) < A.nx.length) = true := decide_eq_true hiI
          obtain ⟨cs, hcs, hsz⟩ := HC.out
          have hcg : wr.cell? ⟨g, i, none⟩ = some (pvS wr g i) := by unfold pvS; rw [cell_of_row _ _ _ _ _ _ hcs, Array.getElem?_eq_getElem (by omega)]; rfl
          have hfg : wr.frozen? ⟨g, i, none⟩ = false := frozen_blk hcs i
          have HRXN : Hid (RowAt (wr.setCell ⟨g, i, none⟩ (.int .i64 (-5))) w1.heap.size #[.int .i64 A.k, .slice (some ⟨g, 0, none⟩) A.nx.length gc, .slice ba A.ac.length bc]) := rowAt_keep HRX.out (by simp [World.setCell]) (heap_set_other (by have := HG1.out; omega))
          have HBN : Hid (Below w.heap.size w (wr.setCell ⟨g, i, none⟩ (.int .i64 (-5)))) := HB.out.setCell (p := ⟨g, i, none⟩) (by have := HG1.out; show w.heap.size ≤ g; omega) _
          have HCN : Hid (∃ cs : Array Value, (wr.setCell ⟨g, i, none⟩ (.int .i64 (-5))).heap[g]? = some (.cells cs 3 (0, 0)) ∧ A.nx.length ≤ cs.size) := ⟨_, heap_set hcs, by simpa using hsz⟩
          clear hcs hsz
          go_wp2_with fail
          go_roundw
          case rel => exact ⟨i + 1, by go_num, by omega, HRXN.out, HBN.out, HCN.out⟩
          case measure => simp [Go.RowKit.intOf]; omega
        · have hiI : ¬ (i : Int) < A.nx.length := by omega
          have hid : decide ((i : Int) < A.nx.length) = false := decide_eq_false hiI
          go_wp2_with fail
          (try simp only [Exit.inBlock, Exit.then])
          refine bodyPost_ret (results_tmp4 rfl _ _ _) rfl ?_
          exact .inl ⟨HNE.out, rfl, HB.out⟩
    · exact absurd (bdE_ok G h64 hel) HNE.out
  · have HB2 : Hid (Below W.heap.size W w2) := hb2
    have HOK : Hid (Good A ∧ A.ac.length ≤ 64 ∧ mEl A = some (M, N)) := ⟨G, h64, hE⟩
    have HMO2 : Hid (MOb W.heap.size w2 ob A M N) := hmo
    have HS2 : Hid (W.heap.size ≤ w2.heap.size) := hb2.size
    have cs2 := (HRAW.out.stay hb2).cell
    clear hb2 G h64 hE hmo
    go_wp2_with fail
    refine (HRB.out _ (go_on HBW.out HB2.out)).mono ?_
    rintro e w3 (⟨hne, _, _⟩ | ⟨rb, M', N', rfl, G, h64, hel, hrf, hb3⟩)
    · exact absurd (bdE_ok HOK.out.1 HOK.out.2.1 HOK.out.2.2) hne
    · have hMN : M' = M ∧ N' = N := by
        have := HOK.out.2.2
        rw [hel, Option.some.injEq, Prod.mk.injEq] at this
        exact this
      obtain ⟨rfl, rfl⟩ := hMN
      obtain ⟨M, hM⟩ : ∃ z, z = M' := ⟨_, rfl⟩
      obtain ⟨N, hN⟩ : ∃ z, z = N' := ⟨_, rfl⟩
      rw [← hM, ← hN] at HOK HMO2 hrf
      have HB3 : Hid (Below W.heap.size W w3) := go_on HB2.out hb3
      have HMO3 : Hid (MOb W.heap.size w3 ob A M N) := HMO2.out.below hb3
      have HRF3 : Hid (RFb w2.heap.size w3 rb A M N) := hrf
      have cs3 := (HRAW.out.stay HB3.out).cell
      have cx3 := (HRX.out.stay HB3.out).cell
      have HNM : Hid (∀ y, Calls Try.prog 17 #[.int .i64 0] y fun e w' => e = .returned (.int .i64 0) ∧ y = w') := fun y => num14_any 0 y
      clear hb3 cs2 hM hN hrf G h64 hel HMO2
      go_wp2_with fail
      refine (HNM.out _).mono ?_
      rintro e y3 ⟨rfl, hy3⟩
      subst hy3
      go_wp2_with fail
      refine (HSTY.out _ HB3.out).mono ?_
      rintro e w4 ⟨rfl, hb4⟩
      have HRX4 : Hid (RowAt w4 w1.heap.size #[.int .i64 A.k, .slice (some ⟨g, 0, none⟩) A.nx.length gc, .slice ba A.ac.length bc]) := HRX.out.stay (go_on HB3.out hb4)
      have HB4 : Hid (Below w.heap.size w w4) := go_on (go_on HBW.out HB3.out) hb4
      have HC4 : Hid (∃ cs : Array Value, w4.heap[g]? = some (.cells cs 3 (0, 0)) ∧ A.nx.length ≤ cs.size) := HCW.out _ (go_on HB3.out hb4)
      have HMO4 : Hid (MOb W.heap.size w4 ob A M N) := HMO3.out.below hb4
      have HRF4 : Hid (RFb w2.heap.size w4 rb A M N) := HRF3.out.below hb4
      clear hb4 cs3 cx3 HB3 HB2 HMO3 HRF3
      go_wp2_with fail
      go_loopw [12] (fun vi wr => ∃ i : Nat, vi = .int .i64 i ∧ i ≤ A.nx.length ∧ RowAt wr w1.heap.size #[.int .i64 A.k, .slice (some ⟨g, 0, none⟩) A.nx.length gc, .slice ba A.ac.length bc] ∧ Below w.heap.size w wr ∧ (∃ cs : Array Value, wr.heap[g]? = some (.cells cs 3 (0, 0)) ∧ A.nx.length ≤ cs.size) ∧ MOb W.heap.size wr ob A M N ∧ RFb w2.heap.size wr rb A M N ) (fun vi _ => A.nx.length - (Go.RowKit.intOf vi).toNat)
      case atStart => exact ⟨0, rfl, Nat.zero_le _, HRX4.out, HB4.out, HC4.out, HMO4.out, HRF4.out⟩
      case round =>
        clear HRX4 HB4 HC4 HMO4 HRF4
        obtain ⟨i, rfl, hin, hrx, hb, hc, hmo, hrf⟩ := hrel
        have HMO : Hid (MOb W.heap.size wr ob A M N) := hmo
        have HRF : Hid (RFb w2.heap.size wr rb A M N) := hrf
        have HRX : Hid (RowAt wr w1.heap.size #[.int .i64 A.k, .slice (some ⟨g, 0, none⟩) A.nx.length gc, .slice ba A.ac.length bc]) := hrx
        have HB : Hid (Below w.heap.size w wr) := hb
        have HC : Hid (∃ cs : Array Value, wr.heap[g]? = some (.cells cs 3 (0, 0)) ∧ A.nx.length ≤ cs.size) := hc
        have c1 : wr.cell? ⟨w1.heap.size, 1, none⟩ = some (.slice (some ⟨g, 0, none⟩) A.nx.length gc) := hrx.cell 1
        clear hmo hrf
        clear hrx hb hc
        have hnl := HNL.out
        by_cases hlt : i < A.nx.length
        · have hiI : (i : Int) < A.nx.length := by omega
          have hid : decide ((i : Int) < A.nx.length) = true := decide_eq_true hiI
          obtain ⟨cs, hcs, hsz⟩ := HC.out
          have hcg : wr.cell? ⟨g, i, none⟩ = some (pvS wr g i) := by unfold pvS; rw [cell_of_row _ _ _ _ _ _ hcs, Array.getElem?_eq_getElem (by omega)]; rfl
          have hfg : wr.frozen? ⟨g, i, none⟩ = false := frozen_blk hcs i
          have HMN : Hid (MOb W.heap.size (wr.setCell ⟨g, i, none⟩ (.int .i64 (-5))) ob A M N) := HMO.out.set HGL.out hcs
          have HRN : Hid (RFb w2.heap.size (wr.setCell ⟨g, i, none⟩ (.int .i64 (-5))) rb A M N) := HRF.out.set (by have := HGL.out; have := HS2.out; omega)
          have HRXN : Hid (RowAt (wr.setCell ⟨g, i, none⟩ (.int .i64 (-5))) w1.heap.size #[.int .i64 A.k, .slice (some ⟨g, 0, none⟩) A.nx.length gc, .slice ba A.ac.length bc]) := rowAt_keep HRX.out (by simp [World.setCell]) (heap_set_other (by have := HG1.out; omega))
          have HBN : Hid (Below w.heap.size w (wr.setCell ⟨g, i, none⟩ (.int .i64 (-5)))) := HB.out.setCell (p := ⟨g, i, none⟩) (by have := HG1.out; show w.heap.size ≤ g; omega) _
          have HCN : Hid (∃ cs : Array Value, (wr.setCell ⟨g, i, none⟩ (.int .i64 (-5))).heap[g]? = some (.cells cs 3 (0, 0)) ∧ A.nx.length ≤ cs.size) := ⟨_, heap_set hcs, by simpa using hsz⟩
          clear hcs hsz
          go_wp2_with fail
          go_roundw
          case rel => exact ⟨i + 1, by go_num, by omega, HRXN.out, HBN.out, HCN.out, HMN.out, HRN.out⟩
          case measure => simp [Go.RowKit.intOf]; omega
        · have hiI : ¬ (i : Int) < A.nx.length := by omega
          have hid : decide ((i : Int) < A.nx.length) = false := decide_eq_false hiI
          go_wp2_with fail
          (try simp only [Exit.inBlock, Exit.then])
          refine bodyPost_ret (results_tmp4 rfl _ _ _) rfl ?_
          exact .inr ⟨ob, rb, M, N, rfl, HOK.out.1, HOK.out.2.1, HOK.out.2.2, HMO.out.mo, HRF.out.rf, HB.out⟩

end Go.Proofs.Ytabkhoiccjkghaa

namespace Go.Proofs.Ytabkhoiccjkghaa
open Go Go.ChangeShapes Go.WideShapes Go.ChangeAt Go.RowKit Go.Deep
set_option linter.unusedVariables false

theorem Try.cells_int1 : Try.prog.cellsOf 3 = 1 := by kernel_rfl
theorem Try.cells_bool1 : Try.prog.cellsOf 4 = 1 := by kernel_rfl
theorem Try.cells_ints1 : Try.prog.cellsOf 22 = 1 := by kernel_rfl
theorem Try.cells_bools1 : Try.prog.cellsOf 23 = 1 := by kernel_rfl
theorem Try.cells_auto : Try.prog.cellsOf 25 = 3 := by kernel_rfl
theorem Try.bytes_int1 : Try.prog.bytesOf 3 = 8 := by kernel_rfl
theorem Try.bytes_bool1 : Try.prog.bytesOf 4 = 1 := by kernel_rfl
theorem Try.laidOut : laidOutB Try.prog = true := by kernel_rfl
theorem vals_at {w : World} {a : Addr} {n : Nat} {f : Nat → Value} (h : ∀ i, i < n → w.cell? (a.add i) = some (f i)) (hp : 0 < n) : ∃ b off, a = ⟨b, off, none⟩ ∧ ∀ j, j < n → w.cell? ⟨b, off + j, none⟩ = some (f j) := by
  obtain ⟨b, off, spot⟩ := a
  have hspot : spot = none := by simpa [Addr.add] using World.cell?_spot (h 0 hp)
  subst hspot
  exact ⟨b, off, rfl, fun j hj => by rw [← Go.WideShapes.add_plain]; exact h j hj⟩

set_option maxRecDepth 100000 in
theorem open_auto {H : Type} {enc : TypeId × Value → H} {w : World} {held : Bool} {r : Reach} {b0 : Nat} {v : Value} {d : DataW H} {ps : List MemPlace} (hval : Value.okWide Try.prog w r b0 25 v) (hd : DataW.Trod enc Try.prog w 0 (fun _ => true) held 25 v d ps) :
    ∃ A : Aut, AR w v A ∧ NilOk v ∧ (Lit.int .i64 A.k).wf = true ∧ ∃ dk dn da, d = .agg [dk, dn, da] ∧ ((dn = .nil ∧ A.nx = []) ∨ ∃ e s, dn = .slice e s ∧ A.nx.length ≤ e.length + s.length) ∧ ((da = .nil ∧ A.ac = []) ∨ ∃ e s, da = .slice e s ∧ A.ac.length ≤ e.length + s.length) := by
  simp only [Value.okWide, Try.underlying25] at hval
  obtain ⟨cs, rfl, hsz, _⟩ := hval
  rw [Try.cells_auto] at hsz
  obtain ⟨fuel, hf⟩ := hd
  obtain ⟨y0, y1, y2, m, hx, _, h0, h1, h2⟩ := trod_struct3 Try.underlying25 hf
  obtain ⟨c0, c1, c2, hcs⟩ : ∃ c0 c1 c2, cs = #[c0, c1, c2] := ⟨cs[0], cs[1], cs[2], by
    apply Array.ext_getElem?
    intro i
    have : i = 0 ∨ i = 1 ∨ i = 2 ∨ 3 ≤ i := by omega
    rcases this with rfl | rfl | rfl | hi
    · simp [hsz]
    · simp [hsz]
    · simp [hsz]
    · rw [Array.getElem?_eq_none (by omega), Array.getElem?_eq_none (by simp; omega)]⟩
  subst hcs
  simp only [Try.cells_int1, Try.cells_ints1, Try.cells_bools1, Value.cells] at h0 h1 h2
  obtain ⟨k, ek, xk, wk⟩ := DataW.trod_int Try.underlying3 h0
  simp at ek
  subst ek
  simp only [Prod.mk.injEq] at hx
  obtain ⟨nx, an, cn, e1, s1, n1, d1⟩ : ∃ (nx : List Int) (an : Option Addr) (cn : Nat), c1 = .slice an nx.length cn ∧ SR w an (zC nx) ∧ (an = none → cn = 0) ∧ ((y1.1 = .nil ∧ nx = []) ∨ ∃ e s, y1.1 = .slice e s ∧ nx.length ≤ e.length + s.length) := by
    rcases open_ints Try.underlying22 Try.underlying3 Try.cells_int1 h1 with ⟨hc, hx1⟩ | ⟨a', len', cap', zs, hc, _, hl, _, hzl, hx1, hcells, _⟩
    · simp at hc
      subst hc
      exact ⟨[], none, 0, rfl, SR.nil _ _, fun _ => rfl, .inl ⟨by rw [hx1], rfl⟩⟩
    · simp at hc
      subst hc
      have hle : len' ≤ zs.length := by
        rw [hzl]
        split <;> omega
      refine ⟨zs.take len', some a', cap', by rw [List.length_take, Nat.min_eq_left hle], ?_, (fun h => by cases h), .inr ⟨_, _, by rw [hx1], ?_⟩⟩
      · intro i u hi
        have hi' : i < len' := by
          have := (List.getElem?_eq_some_iff.1 hi).1
          simp [zC] at this
          omega
        obtain ⟨b, off, rfl, hc⟩ := ints_at hcells (by omega)
        have hh := hc i (by omega)
        refine ⟨b, off, rfl, World.block_lt_of_cell? w _ hh, ?_⟩
        rw [hh, ← hi]
        simp [zC, List.getD_eq_getElem?_getD, hi', List.getElem?_eq_getElem (show i < zs.length by omega)]
      · simp [lits]
  obtain ⟨ac, aa, ca, e2, s2, n2, d2⟩ : ∃ (ac : List Bool) (aa : Option Addr) (ca : Nat), c2 = .slice aa ac.length ca ∧ SR w aa (bC ac) ∧ (aa = none → ca = 0) ∧ ((y2.1 = .nil ∧ ac = []) ∨ ∃ e s, y2.1 = .slice e s ∧ ac.length ≤ e.length + s.length) := by
    rcases open_bools Try.underlying23 Try.underlying4 Try.cells_bool1 h2 with ⟨hc, hx1⟩ | ⟨a', len', cap', B, hc, _, hl, _, hx1, hcells⟩
    · simp at hc
      subst hc
      exact ⟨[], none, 0, rfl, SR.nil _ _, fun _ => rfl, .inl ⟨by rw [hx1], rfl⟩⟩
    · simp at hc
      subst hc
      refine ⟨(List.range len').map B, some a', cap', by simp, ?_, (fun h => by cases h), .inr ⟨_, _, by rw [hx1]; rfl, by simp⟩⟩
      intro i u hi
      have hi' : i < len' := by
        have := (List.getElem?_eq_some_iff.1 hi).1
        simp [bC] at this
        omega
      obtain ⟨b, off, rfl, hc⟩ := vals_at (n := cap') (f := fun i => .bool (B i)) hcells (by omega)
      have hh := hc i (by omega)
      refine ⟨b, off, rfl, World.block_lt_of_cell? w _ hh, ?_⟩
      rw [hh, ← hi]
      simp [bC, hi']
  subst e1 e2
  exact ⟨⟨k, nx, ac⟩, ⟨an, cn, aa, ca, rfl, s1, s2⟩, fun k' an' n' cn' aa' m' ca' e => by simp at e; obtain ⟨_, ⟨rfl, _, rfl⟩, rfl, _, rfl⟩ := e; exact ⟨n1, n2⟩, wk, _, _, _, hx.1, d1, d2⟩
theorem sized_auto {H : Type} {ts : List TypeId} {ds : List (DataW H)} (h : (DataW.weightsEach Try.prog ts ds).all (· ≤ reachBytes) = true) {j : Nat} {dk dn da : DataW H} (ht : ts[j]? = some 25) (hd : ds[j]? = some (.agg [dk, dn, da])) :
    (∀ e s, dn = .slice e s → (e.length + s.length) * 8 ≤ reachBytes) ∧ (∀ e s, da = .slice e s → e.length + s.length ≤ reachBytes) := by
  constructor
  · intro e s he
    subst he
    have := List.all_eq_true.1 h _ (DataW.weights_mem_each ht hd ((e.length + s.length) * 8) (by simp [DataW.weights, DataW.weightsEach, Try.underlying25, Try.underlying22, Try.bytes_int1]))
    simpa using this
  · intro e s he
    subst he
    have := List.all_eq_true.1 h _ (DataW.weights_mem_each ht hd ((e.length + s.length) * 1) (by simp [DataW.weights, DataW.weightsEach, Try.underlying25, Try.underlying23, Try.bytes_bool1]))
    simpa using this
/-- The lists' lengths, by the form's own reach. -/
theorem auto_bounds {H : Type} {ts : List TypeId} {ds : List (DataW H)} (h : (DataW.weightsEach Try.prog ts ds).all (· ≤ reachBytes) = true) {j : Nat} {dk dn da : DataW H} (ht : ts[j]? = some 25) (hd : ds[j]? = some (.agg [dk, dn, da])) {A : Aut}
    (h1 : (dn = .nil ∧ A.nx = []) ∨ ∃ e s, dn = .slice e s ∧ A.nx.length ≤ e.length + s.length) (h2 : (da = .nil ∧ A.ac = []) ∨ ∃ e s, da = .slice e s ∧ A.ac.length ≤ e.length + s.length) :
    (A.nx.length + 2) * 8 ≤ 140737488355328 ∧ A.ac.length ≤ 140737488355328 := by
  obtain ⟨b1, b2⟩ := sized_auto h ht hd
  constructor
  · rcases h1 with ⟨_, e⟩ | ⟨e, s, he, hl⟩
    · rw [e]; decide
    · have := b1 e s he
      simp only [reachBytes] at this
      omega
  · rcases h2 with ⟨_, e⟩ | ⟨e, s, he, hl⟩
    · rw [e]; decide
    · have := b2 e s he
      simp only [reachBytes] at this
      omega
end Go.Proofs.Ytabkhoiccjkghaa

namespace Go.Proofs.Ytabkhoiccjkghaa
open Go Go.RowKit Go.Lib
set_option linter.unusedVariables false

/-- Numbers as cells. -/
def intCells (l : List Nat) : List Value := l.map fun (n : Nat) => Value.int .i64 (n : Int)
theorem intCells_append (a b : List Nat) : intCells (a ++ b) = intCells a ++ intCells b := by simp [intCells]

/-- A row hangs on its own block alone. -/
theorem own_of_heap {w w' : World} {B : Nat} {e : TypeId} {size n : Nat} {v : Value} {xs : List Value} (h : w.ownsRow B e size v n xs) (hk : ∀ b, v.ownBlock = some b → w'.heap[b]? = w.heap[b]?) : w'.ownsRow B e size v n xs := by
  obtain ⟨a, b⟩ := h
  refine ⟨a, ?_⟩
  rcases b with b | ⟨g, cap, cur, e1, r, r2, r3⟩
  · exact .inl b
  · refine .inr ⟨g, cap, cur, e1, r, ?_, r3⟩
    rw [hk g (by rw [e1]; rfl)]
    exact r2
theorem own_type {w : World} {B : Nat} {e : TypeId} {size n : Nat} {v : Value} {xs : List Value} (h : w.ownsRow B e size v n xs) (b : Nat) (hb : v.ownBlock = some b) : ∃ cur, w.heap[b]? = some (.cells cur e (0, 0)) := by
  obtain ⟨_, h⟩ := h
  rcases h with ⟨rfl, _⟩ | ⟨g, cap, cur, rfl, _, r, _⟩
  · simp [Value.ownBlock] at hb
  · simp [Value.ownBlock] at hb
    subst hb
    exact ⟨cur, r⟩
/-- Rows of two kinds lie in two blocks. -/
theorem own_apart {w : World} {B B' : Nat} {e e' : TypeId} {size size' n n' : Nat} {v v' : Value} {xs xs' : List Value} (h : w.ownsRow B e size v n xs) (h' : w.ownsRow B' e' size' v' n' xs') (he : e ≠ e') (b : Nat) (hb : v.ownBlock = some b) : v'.ownBlock ≠ some b := by
  intro hb'
  obtain ⟨c, hc⟩ := own_type h b hb
  obtain ⟨c', hc'⟩ := own_type h' b hb'
  rw [hc] at hc'
  simp at hc'
  exact he hc'.2
theorem set_take (l : List Value) (n i : Nat) (u : Value) (h : n ≤ i) : (l.set i u).take n = l.take n := by
  apply List.ext_getElem?
  intro t
  by_cases ht : t < n
  · simp [ht, show ¬ i = t by omega]
  · rw [List.getElem?_eq_none (by simp; omega), List.getElem?_eq_none (by simp; omega)]
theorem heap_setCell_eq (w : World) (b i : Nat) (u : Value) (cur : Array Value) (e : TypeId) (h : w.heap[b]? = some (.cells cur e (0, 0))) : (w.setCell ⟨b, i, none⟩ u).heap[b]? = some (.cells (cur.setIfInBounds i u) e (0, 0)) := by
  simp [World.setCell, Array.getElem?_modify, h]
/-- A store behind a row's end leaves the row. -/
theorem own_high {w : World} {B : Nat} {e : TypeId} {n : Nat} {v : Value} {xs : List Value} (h : w.ownsRow B e 1 v n xs) (b i : Nat) (u : Value) (hi : v.ownBlock = some b → n ≤ i) : (w.setCell ⟨b, i, none⟩ u).ownsRow B e 1 v n xs := by
  by_cases hb : v.ownBlock = some b
  · obtain ⟨a, h⟩ := h
    refine ⟨a, ?_⟩
    rcases h with h | ⟨g, cap, cur, rfl, r, r2, r3, r4, r5, r6⟩
    · exact .inl h
    · simp [Value.ownBlock] at hb
      subst hb
      refine .inr ⟨g, cap, _, rfl, r, heap_setCell_eq w g i u cur e r2, r3, r4, by simpa using r5, ?_⟩
      rw [Array.toList_setIfInBounds, set_take _ _ _ _ (by have := hi rfl; omega)]
      exact r6
  · refine own_of_heap h (fun b' hb' => ?_)
    exact Below.heap_setCell w ⟨b, i, none⟩ u b' (fun e => hb (by rw [hb', e]))
/-- One cell more within the room. -/
theorem own_room {w : World} {B : Nat} {e : TypeId} {n cap b : Nat} {xs : List Value} (h : w.ownsRow B e 1 (.slice (some ⟨b, 0, none⟩) n cap) n xs) (hr : n + 1 ≤ cap) (u : Value) : (w.setCell ⟨b, n, none⟩ u).ownsRow B e 1 (.slice (some ⟨b, 0, none⟩) (n + 1) cap) (n + 1) (xs ++ [u]) := by
  obtain ⟨a, h⟩ := h
  refine ⟨by simp; omega, ?_⟩
  rcases h with ⟨h, _⟩ | ⟨g, cap', cur, hv, r, r2, r3, r4, r5, r6⟩
  · simp at h
  · simp at hv
    obtain ⟨rfl, rfl⟩ := hv
    refine .inr ⟨b, cap, _, rfl, r, heap_setCell_eq w b n u cur e r2, hr, r4, by simpa using r5, ?_⟩
    rw [Array.toList_setIfInBounds]
    have hl : cur.toList.length = cap := by simpa using r5
    rw [Nat.mul_one, List.take_succ_eq_append_getElem (by rw [List.length_set]; omega), set_take _ _ _ _ (Nat.le_refl _)]
    rw [Nat.mul_one] at r6
    rw [r6]
    simp
theorem intCells_len (l : List Nat) : (intCells l).length = l.length := by simp [intCells]
theorem intCells_set4 (l : List Nat) (i c : Nat) : (intCells l).set i (Value.int .i64 (c : Int)) = intCells (l.set i c) := by simp [intCells, List.map_set]
/-- Marked up to k. -/
def markV (c : Nat) (xs : List Value) (k : Nat) : List Value := intCells (List.replicate k c) ++ xs.drop k
theorem markV_zero (c : Nat) (xs : List Value) : markV c xs 0 = xs := by simp [markV, intCells]
theorem markV_end (c n : Nat) (xs : List Value) (h : xs.length = n) : markV c xs n = intCells (List.replicate n c) := by simp [markV, ← h]
theorem markV_len (c : Nat) (xs : List Value) (k : Nat) (h : k ≤ xs.length) : (markV c xs k).length = xs.length := by simp [markV, intCells]; omega
theorem markV_set (c : Nat) (xs : List Value) (k : Nat) (h : k < xs.length) : (markV c xs k).set k (.int .i64 (c : Int)) = markV c xs (k + 1) := by
  unfold markV
  rw [List.drop_eq_getElem_cons h, List.set_append_right _ _ (by simp [intCells]), intCells_len, List.length_replicate, Nat.sub_self, List.set_cons_zero, List.replicate_succ', intCells_append, List.append_assoc]
  rfl
/-- What stands while a row V of n numbers c is copied and grown by numbers d: V itself; the copy g, with m numbers more; all other blocks of W0. -/
structure Grow (B : Nat) (w W0 : World) (V : Value) (n c d : Nat) (wr : World) (g : Value) (m : Nat) : Prop where
  others : ∀ k, k < W0.heap.size → V.ownBlock ≠ some k → wr.heap[k]? = W0.heap[k]?
  row : wr.ownsRow B 3 1 V n (intCells (List.replicate n c))
  copy : wr.ownsRow B 3 1 g (n + m) (intCells (List.replicate n c ++ List.replicate m d))
  place : g.ownBlock = V.ownBlock ∨ ∃ b, g.ownBlock = some b ∧ W0.heap.size ≤ b
  size : W0.heap.size ≤ wr.heap.size
  below : Below B w wr
theorem rep_more (n c m d : Nat) : intCells (List.replicate n c ++ List.replicate m d) ++ [Value.int .i64 (d : Int)] = intCells (List.replicate n c ++ List.replicate (m + 1) d) := by
  rw [List.replicate_succ', ← List.append_assoc, intCells_append (List.replicate n c ++ List.replicate m d)]
  rfl
/-- The next number is laid into the room behind the copy. -/
theorem Grow.room {B : Nat} {w W0 wr : World} {V : Value} {n c d m b cap : Nat} (h : Grow B w W0 V n c d wr (.slice (some ⟨b, 0, none⟩) (n + m) cap) m) (hr : n + m + 1 ≤ cap) (o : Obj) (hB : B ≤ W0.heap.size) :
    Grow B w W0 V n c d ((wr.alloc o).setCell ⟨b, n + m, none⟩ (.int .i64 (d : Int))) (.slice (some ⟨b, 0, none⟩) (n + m + 1) cap) (m + 1) := by
  have hbB : B ≤ b := (h.copy.lt b rfl).1
  have hbl : b < wr.heap.size := (h.copy.lt b rfl).2
  refine ⟨?_, ?_, ?_, ?_, ?_, ?_⟩
  · intro k hk hne
    have hkb : k ≠ b := by
      intro e
      subst e
      rcases h.place with hp | ⟨b', hp, hb'⟩
      · exact hne (by rw [← hp]; rfl)
      · simp [Value.ownBlock] at hp
        omega
    rw [Below.heap_setCell _ _ _ _ hkb, Below.heap_alloc _ _ _ (by have := h.size; omega)]
    exact h.others k hk hne
  · exact own_high (h.row.alloc o) b (n + m) _ (fun _ => by omega)
  · have := own_room (h.copy.alloc o) hr (.int .i64 (d : Int))
    rw [rep_more] at this
    exact this
  · rcases h.place with hp | ⟨b', hp, hb'⟩
    · exact .inl (by rw [← hp]; rfl)
    · exact .inr ⟨b', hp, hb'⟩
  · have := h.size
    simp [World.setCell]
    omega
  · exact (h.below.alloc (Nat.le_trans hB h.size) o).setCell (p := ⟨b, n + m, none⟩) hbB _
/-- The next number goes into a new row, with all that the copy held. -/
theorem Grow.fresh {B : Nat} {w W0 wr w2 : World} {V g g' : Value} {n c d m : Nat} (h : Grow B w W0 V n c d wr g m) (o : Obj) (hB : B ≤ W0.heap.size) (hown : w2.ownsRow (wr.heap.size + 1) 3 1 g' (n + m + 1) (intCells (List.replicate n c ++ List.replicate m d) ++ [Value.int .i64 (d : Int)])) (hg : (wr.alloc o).grownBy w2 none) :
    Grow B w W0 V n c d w2 g' (m + 1) := by
  have hsz : (wr.alloc o).heap.size = wr.heap.size + 1 := by simp
  have hs := h.size
  have hkeep : ∀ k, k < wr.heap.size → w2.heap[k]? = wr.heap[k]? := fun k hk => by
    rw [hg.block k (by omega) (by simp), Below.heap_alloc _ _ _ hk]
  refine ⟨?_, ?_, ?_, ?_, ?_, ?_⟩
  · intro k hk hne
    rw [hkeep k (by omega)]
    exact h.others k hk hne
  · exact own_of_heap h.row (fun b hb => hkeep b (h.row.lt b hb).2)
  · rw [rep_more] at hown
    exact own_mono hown (by omega)
  · have hne : g'.ownBlock ≠ none := by
      obtain ⟨_, hh⟩ := hown
      rcases hh with ⟨_, h0⟩ | ⟨b, cap, cur, rfl, _⟩
      · omega
      · simp [Value.ownBlock]
    obtain ⟨b, hb⟩ := Option.ne_none_iff_exists'.1 hne
    exact .inr ⟨b, hb, by have := (hown.lt b hb).1; omega⟩
  · have := hg.size
    omega
  · exact (h.below.alloc (Nat.le_trans hB hs) o).grown hg (by omega) (by simp)

/-- A told list's value. -/
def vv (a : Nat → Option Addr) (n c : Nat → Nat) (j : Nat) : Value := .slice (a j) (n j) (c j)
/-- What stands when i lists have been copied and grown. -/
structure Grown2 (B G : Nat) (a : Nat → Option Addr) (n c : Nat → Nat) (w wr : World) (vgr : Value) (i : Nat) (Gv : Nat → Value) : Prop where
  list : wr.heap[G]? = some (.cells #[vv a n c 0, vv a n c 1] 22 (0, 0))
  rows : ∀ j, j < 2 → wr.ownsRow B 3 1 (vv a n c j) (n j) (intCells (List.replicate (n j) (1000 + j)))
  grown : wr.ownsRow w.heap.size 22 1 vgr i ((List.range i).map Gv)
  copies : ∀ j, j < i → wr.ownsRow B 3 1 (Gv j) (n j + 40) (intCells (List.replicate (n j) (1000 + j) ++ List.replicate 40 (2000 + j)))
  apart : ∀ j, j < i → ∀ j', j' < 2 → j' ≠ j → ∀ b, (Gv j).ownBlock = some b → (vv a n c j').ownBlock ≠ some b
  below : Below B w wr
theorem list_apart {w : World} {B G : Nat} {v : Value} {n : Nat} {xs : List Value} {cs : Array Value} (hG : w.heap[G]? = some (.cells cs 22 (0, 0))) (h : w.ownsRow B 3 1 v n xs) : v.ownBlock ≠ some G := by
  intro hb
  obtain ⟨cur, hc⟩ := own_type h G hb
  rw [hG] at hc
  simp at hc
theorem Grown2.mid {B G : Nat} {a : Nat → Option Addr} {n c : Nat → Nat} {w wr w2 : World} {vgr g : Value} {i m : Nat} {Gv : Nat → Value} (h : Grown2 B G a n c w wr vgr i Gv) (hi : i < 2) (hg : Grow B w wr (vv a n c i) (n i) (1000 + i) (2000 + i) w2 g m) :
    w2.ownsRow w.heap.size 22 1 vgr i ((List.range i).map Gv) :=
  own_of_heap h.grown (fun b hb => hg.others b (h.grown.lt b hb).2 (own_apart h.grown (h.rows i hi) (by decide) b hb))
theorem Grown2.midList {B G : Nat} {a : Nat → Option Addr} {n c : Nat → Nat} {w wr w2 : World} {vgr g : Value} {i m : Nat} {Gv : Nat → Value} (h : Grown2 B G a n c w wr vgr i Gv) (hi : i < 2) (hg : Grow B w wr (vv a n c i) (n i) (1000 + i) (2000 + i) w2 g m) :
    w2.heap[G]? = some (.cells #[vv a n c 0, vv a n c 1] 22 (0, 0)) := by
  rw [hg.others G (Array.getElem?_eq_some_iff.1 h.list).1 (list_apart h.list (h.rows i hi))]
  exact h.list
theorem Grown2.step {B G : Nat} {a : Nat → Option Addr} {n c : Nat → Nat} {w wr w2 w3 : World} {vgr v' g : Value} {i : Nat} {Gv : Nat → Value} {o : Obj} (h : Grown2 B G a n c w wr vgr i Gv) (hi : i < 2) (hd : ∀ j j', j < 2 → j' < 2 → j ≠ j' → ∀ b, (vv a n c j).ownBlock = some b → (vv a n c j').ownBlock ≠ some b)
    (hg : Grow B w wr (vv a n c i) (n i) (1000 + i) (2000 + i) w2 g 40) (hB : B ≤ w.heap.size) (hown : w3.ownsRow w.heap.size 22 1 v' (i + 1) ((List.range i).map Gv ++ [g])) (hgr : (w2.alloc o).grownBy w3 vgr.ownBlock) (hGw : G < w.heap.size) :
    Grown2 B G a n c w w3 v' (i + 1) (fun j => if j = i then g else Gv j) := by
  have hmid := h.mid hi hg
  have hsz : (w2.alloc o).heap.size = w2.heap.size + 1 := by simp
  have hs := hg.size
  -- a row of numbers stands behind the append to the list of lists
  have keep : ∀ {v : Value} {k : Nat} {xs : List Value}, w2.ownsRow B 3 1 v k xs → w3.ownsRow B 3 1 v k xs := by
    intro v k xs hv
    refine own_of_heap hv (fun b hb => ?_)
    have hbl := (hv.lt b hb).2
    rw [hgr.block b (by omega) (fun e => own_apart hv hmid (by decide) b hb e.symm), Below.heap_alloc _ _ _ hbl]
  have rows2 : ∀ j, j < 2 → w2.ownsRow B 3 1 (vv a n c j) (n j) (intCells (List.replicate (n j) (1000 + j))) := by
    intro j hj
    by_cases e : j = i
    · subst e; exact hg.row
    · exact own_of_heap (h.rows j hj) (fun b hb => hg.others b ((h.rows j hj).lt b hb).2 (hd j i hj hi e b hb))
  refine ⟨?_, fun j hj => keep (rows2 j hj), ?_, ?_, ?_, ?_⟩
  · have hl := h.midList hi hg
    have hlt := (Array.getElem?_eq_some_iff.1 hl).1
    rw [hgr.block G (by omega) (fun e => by have := (hmid.lt G e.symm).1; omega), Below.heap_alloc _ _ _ hlt]
    exact hl
  · have e : (List.range (i + 1)).map (fun j => if j = i then g else Gv j) = (List.range i).map Gv ++ [g] := by
      rw [List.range_succ, List.map_append]
      congr 1
      · apply List.map_congr_left
        intro j hj
        rw [List.mem_range] at hj
        rw [if_neg (by omega)]
      · simp
    rw [e]
    exact hown
  · intro j hj
    by_cases e : j = i
    · subst e
      simp only [if_true]
      exact keep hg.copy
    · simp only [if_neg e]
      have hc := h.copies j (by omega)
      exact keep (own_of_heap hc (fun b hb => hg.others b (hc.lt b hb).2 (h.apart j (by omega) i hi (fun x => e x.symm) b hb)))
  · intro j hj j' hj' hne b hb
    by_cases e : j = i
    · subst e
      simp only [if_true] at hb
      rcases hg.place with hp | ⟨b', hp, hb'⟩
      · rw [hp] at hb
        exact hd j j' (by omega) hj' (fun x => hne x.symm) b hb
      · rw [hp] at hb
        simp only [Option.some.injEq] at hb
        subst hb
        intro hx
        have := ((h.rows j' hj').lt b' hx).2
        omega
    · simp only [if_neg e] at hb
      exact h.apart j (by omega) j' hj' hne b hb
  · exact (hg.below.alloc (by have := hg.below.size; omega) o).grown hgr (by have := hg.below.size; omega) (fun k hk => by have := (hmid.lt k hk).1; omega)

end Go.Proofs.Ytabkhoiccjkghaa

namespace Go.Proofs.Ytabkhoiccjkghaa
open Go Go.RowKit Go.Lib
set_option linter.unusedVariables false

theorem Try.info_ints : (Try.prog.info? 22).map (fun i => (i.zero, i.size, i.bytes)) = some (some (.slice none 0 0), 1, 24) := by kernel_rfl
/-- What stands when the first i lists are marked. -/
structure Marked (B G : Nat) (a : Nat → Option Addr) (n c : Nat → Nat) (X : Nat → List Value) (w wr : World) (i : Nat) : Prop where
  list : wr.heap[G]? = some (.cells #[vv a n c 0, vv a n c 1] 22 (0, 0))
  rows : ∀ j, j < 2 → wr.ownsRow B 3 1 (vv a n c j) (n j) (if j < i then intCells (List.replicate (n j) (1000 + j)) else X j)
  below : Below B w wr
/-- What stands when k numbers of list i are marked. -/
structure Marking (B : Nat) (V : Value) (n i : Nat) (X : List Value) (w W0 wr : World) (k : Nat) : Prop where
  others : ∀ b, V.ownBlock ≠ some b → wr.heap[b]? = W0.heap[b]?
  row : wr.ownsRow B 3 1 V n (markV (1000 + i) X k)
  below : Below B w wr
theorem cell_list {w : World} {G : Nat} {a : Nat → Option Addr} {n c : Nat → Nat} (h : w.heap[G]? = some (.cells #[vv a n c 0, vv a n c 1] 22 (0, 0))) (i : Nat) (hi : i < 2) : w.cell? ⟨G, i, none⟩ = some (.slice (a i) (n i) (c i)) := by
  have : i = 0 ∨ i = 1 := by omega
  rcases this with rfl | rfl
  · simp [World.cell?, h, vv]
  · simp [World.cell?, h, vv]
theorem own_addr {w : World} {B : Nat} {a : Option Addr} {n c : Nat} {xs : List Value} (h : w.ownsRow B 3 1 (.slice a n c) n xs) (hn : 0 < n) : ∃ g, a = some ⟨g, 0, none⟩ := by
  obtain ⟨_, h⟩ := h
  rcases h with ⟨_, h0⟩ | ⟨g, cap, cur, hv, _⟩
  · omega
  · simp at hv
    exact ⟨g, hv.1⟩

theorem cells_one (w : World) (b i : Nat) (u : Value) : w.setCells b i [u] = w.setCell ⟨b, i, none⟩ u := by simp [World.setCells]
theorem addr_at (g j : Nat) : (⟨g, 0, none⟩ : Addr).add j = ⟨g, j, none⟩ := by
  cases j with
  | zero => simp [Addr.add]
  | succ j => simp [Addr.add]
theorem own_spare {w : World} {B b n cap : Nat} {e : TypeId} {xs : List Value} (h : w.ownsRow B e 1 (.slice (some ⟨b, 0, none⟩) n cap) n xs) (i : Nat) (hi : i < cap) : (w.cell? ⟨b, i, none⟩).isSome = true ∧ w.frozen? ⟨b, i, none⟩ = false := by
  obtain ⟨_, h⟩ := h
  rcases h with ⟨h, _⟩ | ⟨g, cap', cur, hv, _, r, _, _, r5, _⟩
  · simp at h
  · simp at hv
    obtain ⟨rfl, rfl⟩ := hv
    constructor
    · simp [World.cell?, r]
      omega
    · simp [World.frozen?, r]

set_option maxHeartbeats 4000000 in
set_option maxRecDepth 100000 in
theorem apart_any (B G : Nat) (a : Nat → Option Addr) (n c : Nat → Nat) (X : Nat → List Value) (w : World) (hG : w.heap[G]? = some (.cells #[vv a n c 0, vv a n c 1] 22 (0, 0)))
    (hrow : ∀ j, j < 2 → w.ownsRow B 3 1 (vv a n c j) (n j) (X j)) (hlen : ∀ j, j < 2 → n j ≤ 17592186044000) (hX : ∀ j, j < 2 → (X j).length = n j)
    (hd : ∀ j j', j < 2 → j' < 2 → j ≠ j' → ∀ b, (vv a n c j).ownBlock = some b → (vv a n c j').ownBlock ≠ some b) (hB : B ≤ w.heap.size) :
    Calls Try.prog 21 #[.slice (some ⟨G, 0, none⟩) 2 2] w fun e w' => e = .returned (.bool true) ∧ Below B w w' := by
  have HX : Hid _ := hX
  have HD : Hid _ := hd
  have HL : Hid (∀ j, j < 2 → n j ≤ 17592186044000) := hlen
  have hGw : G < w.heap.size := (Array.getElem?_eq_some_iff.1 hG).1
  have HM0 : Hid (Marked B G a n c X w w 0) := ⟨hG, fun j hj => by rw [if_neg (by omega)]; exact hrow j hj, Below.refl _ _⟩
  clear hX hd hlen hG hrow
  go_enter Try.func21, Try.ntmps21
  go_wp2_with fail
  go_loopw [4] (fun vi wr => ∃ i : Nat, vi = .int .i64 i ∧ i ≤ 2 ∧ Marked B G a n c X w wr i) (fun vi _ => 2 - (Go.RowKit.intOf vi).toNat)
  case atStart => exact ⟨0, rfl, by omega, HM0.out⟩
  case round =>
    obtain ⟨i, rfl, hi, hM⟩ := hrel
    obtain ⟨W0, hW0⟩ : ∃ W0, W0 = wr := ⟨_, rfl⟩
    subst hW0
    have HM : Hid (Marked B G a n c X w W0 i) := hM
    clear hM
    by_cases hi2 : i < 2
    · have hcG := cell_list HM.out.list i hi2
      have hiI : (i : Int) < 2 := by omega
      have hni := HL.out i hi2
      go_wp2_with fail
      go_loopw [5] (fun vk w2 => ∃ k : Nat, vk = .int .i64 k ∧ k ≤ n i ∧ Marking B (vv a n c i) (n i) i (X i) w W0 w2 k) (fun vk _ => n i - (Go.RowKit.intOf vk).toNat)
      case atStart => exact ⟨0, rfl, Nat.zero_le _, fun _ _ => rfl, by
        have := HM.out.rows i hi2
        rw [if_neg (by omega)] at this
        rw [markV_zero]
        exact this, HM.out.below⟩
      case round =>
        obtain ⟨k, rfl, hk, hMk⟩ := hrel
        have HMk : Hid (Marking B (vv a n c i) (n i) i (X i) w W0 wr k) := hMk
        clear hMk hcG
        have hcG := cell_list (by rw [HMk.out.others G (list_apart HM.out.list (HM.out.rows i hi2))]; exact HM.out.list) i hi2
        by_cases hlt : k < n i
        · obtain ⟨g, hg⟩ := own_addr (show wr.ownsRow B 3 1 (.slice (a i) (n i) (c i)) (n i) _ from HMk.out.row) (by omega)
          have hrow2 : wr.ownsRow B 3 1 (.slice (some ⟨g, 0, none⟩) (n i) (c i)) (n i) (markV (1000 + i) (X i) k) := by
            have := HMk.out.row
            unfold vv at this
            rw [hg] at this
            exact this
          have hck := hrow2.cellAt k (by omega)
          have hfk := hrow2.frozenAt k
          have hlm : (markV (1000 + i) (X i) k).length = n i := by
            have := HX.out i hi2
            rw [markV_len _ _ _ (by omega)]
            exact this
          have hsome : ∃ z : Value, (markV (1000 + i) (X i) k)[k]? = some z := ⟨(markV (1000 + i) (X i) k)[k]'(by omega), by simp [hlm, hlt]⟩
          obtain ⟨z, hz⟩ := hsome
          rw [hz] at hck
          have HR2 : Hid (Marking B (vv a n c i) (n i) i (X i) w W0 (wr.setCell ⟨g, k, none⟩ (.int .i64 (1000 + (i : Int)))) (k + 1)) := by
            refine ⟨?_, ?_, ?_⟩
            · intro b hb
              rw [Below.heap_setCell _ _ _ _ (fun e => hb (by unfold vv; rw [hg, e]; rfl))]
              exact HMk.out.others b hb
            · have r := (hrow2.stored k (.int .i64 ((1000 + i : Nat) : Int))).1
              rw [markV_set _ _ _ (by rw [HX.out i hi2]; exact hlt)] at r
              unfold vv
              rw [hg]
              have e : ((1000 + i : Nat) : Int) = 1000 + (i : Int) := by omega
              rw [e] at r
              exact r
            · exact HMk.out.below.setCell (p := ⟨g, k, none⟩) (hrow2.lt g rfl).1 _
          rw [hg] at hcG
          clear hrow2 hz hlm hg
          go_wp2_with fail
          go_roundw
          case rel => exact ⟨k + 1, by go_num, by omega, HR2.out⟩
          case measure => simp [Go.RowKit.intOf]; omega
        · have HE : Hid (k = n i) := by show k = n i; omega
          have HMn : Hid (Marked B G a n c X w wr (i + 1)) := by
            refine ⟨?_, ?_, HMk.out.below⟩
            · rw [HMk.out.others G (list_apart HM.out.list (HM.out.rows i hi2))]
              exact HM.out.list
            · intro j hj
              by_cases e : j = i
              · subst e
                rw [if_pos (by omega)]
                have := HMk.out.row
                rw [HE.out, markV_end _ _ _ (HX.out j hj)] at this
                exact this
              · have hr := HM.out.rows j hj
                have e2 : (j < i + 1) = (j < i) := by
                  apply propext
                  omega
                simp only [e2]
                exact own_of_heap hr (fun b hb => HMk.out.others b (HD.out j i hj hi2 e b hb))
          go_wp2_with fail
          go_roundw
          case rel => exact ⟨i + 1, by go_num, by omega, HMn.out⟩
          case measure => simp [Go.RowKit.intOf]; omega
    · have HI : Hid (i = 2) := by show i = 2; omega
      have HG0 : Hid (Grown2 B G a n c w W0 (.slice none 0 0) 0 (fun _ => .slice none 0 0)) := by
        refine ⟨HM.out.list, ?_, World.ownsRow_nil _ _ _ _, fun j hj => by omega, fun j hj => by omega, HM.out.below⟩
        intro j hj
        have := HM.out.rows j hj
        rw [if_pos (by have := HI.out; omega)] at this
        exact this
      have hdi : decide ((i : Int) < 2) = false := by rw [decide_eq_false_iff_not]; have := HI.out; omega
      clear HM
      obtain ⟨ti, hti, hz0, hz1, hz2⟩ := info_parts Try.info_int
      obtain ⟨tl, htl, hy0, hy1, hy2⟩ := info_parts Try.info_ints
      go_wp2_with fail
      clear hdi
      go_loopw [3, 6] (fun vgr vj wr => ∃ (j : Nat) (Gv : Nat → Value), vj = .int .i64 j ∧ j ≤ 2 ∧ Grown2 B G a n c w wr vgr j Gv) (fun _ vj _ => 2 - (Go.RowKit.intOf vj).toNat)
      case atStart => exact ⟨0, _, rfl, by omega, HG0.out⟩
      case round =>
        obtain ⟨j, Gv, rfl, hj, hGr⟩ := hrel
        obtain ⟨W1, hW1⟩ : ∃ W1, W1 = wr := ⟨_, rfl⟩
        subst hW1
        obtain ⟨va, vcap, rfl⟩ := own_shape hGr.grown
        have HGr : Hid (Grown2 B G a n c w W1 (.slice va j vcap) j Gv) := hGr
        clear hGr HG0
        by_cases hj2 : j < 2
        · have hcG := cell_list HGr.out.list j hj2
          have hjI : (j : Int) < 2 := by omega
          have hnj := HL.out j hj2
          go_wp2_with fail
          go_loopw [7, 8] (fun g vm w2 => ∃ m : Nat, vm = .int .i64 m ∧ m ≤ 40 ∧ Grow B w W1 (vv a n c j) (n j) (1000 + j) (2000 + j) w2 g m) (fun _ vm _ => 40 - (Go.RowKit.intOf vm).toNat)
          case atStart => exact ⟨0, rfl, by omega, fun _ _ _ => rfl, HGr.out.rows j hj2, by
            have := HGr.out.rows j hj2
            simpa [vv] using this, .inl rfl, Nat.le_refl _, HGr.out.below⟩
          case round =>
            obtain ⟨m, rfl, hm, hgrow⟩ := hrel
            obtain ⟨ga, gcap, rfl⟩ := own_shape hgrow.copy
            have HGm : Hid (Grow B w W1 (vv a n c j) (n j) (1000 + j) (2000 + j) wr (.slice ga (n j + m) gcap) m) := hgrow
            clear hgrow
            have hBW : B ≤ W1.heap.size := Nat.le_trans hB HGr.out.below.size
            have ed : ((2000 + j : Nat) : Int) = 2000 + (j : Int) := by omega
            by_cases hm40 : m < 40
            · have hcells : ∀ ad : Addr, ga = some ad → ∀ t u, (intCells (List.replicate (n j) (1000 + j) ++ List.replicate m (2000 + j)))[t]? = some u → (wr.alloc (.cells #[.int .i64 (2000 + (j : Int))] 3)).cell? (ad.add t) = some u := by
                intro ad had t u hu
                subst had
                have ho := HGm.out.copy.alloc (.cells #[.int .i64 (2000 + (j : Int))] 3)
                obtain ⟨_, hh⟩ := ho
                rcases hh with ⟨hv, _⟩ | ⟨g', cap', cur, hv, _⟩
                · simp at hv
                · simp at hv
                  obtain ⟨rfl, rfl⟩ := hv
                  exact (HGm.out.copy.alloc (.cells #[.int .i64 (2000 + (j : Int))] 3)).cells (g := g') rfl t u hu
              have HCe : Hid _ := hcells
              clear hcells
              have hlenc : (intCells (List.replicate (n j) (1000 + j) ++ List.replicate m (2000 + j))).length = (n j + m) * 1 := by simp [intCells]
              have HLc : Hid _ := hlenc
              clear hlenc
              by_cases hroom : n j + m + 1 ≤ gcap
              · obtain ⟨b, hb⟩ : ∃ b, ga = some ⟨b, 0, none⟩ := by
                  obtain ⟨_, hh⟩ := HGm.out.copy
                  rcases hh with ⟨hv, _⟩ | ⟨g', cap', cur, hv, _⟩
                  · simp at hv; omega
                  · simp at hv
                    exact ⟨g', hv.1⟩
                subst hb
                have HN : Hid _ := HGm.out.room hroom (.cells #[.int .i64 (2000 + (j : Int))] 3) hBW
                have hcopy := HGm.out.copy.alloc (.cells #[.int .i64 (2000 + (j : Int))] 3)
                have HCp : Hid _ := hcopy
                clear hcopy
                go_wp2_with (at_builtin; refine wpList_append_arg _ rfl _ _ 22 rfl 3 ti (.int .i64 0) 1 8 Try.underlying22 hti hz0 hz1 hz2 rfl (by decide) b 0 (n j + m) gcap (intCells (List.replicate (n j) (1000 + j) ++ List.replicate m (2000 + j))) rfl ?c0 ?c1 ⟨wr.heap.size, 0, none⟩ 1 1 [.int .i64 (2000 + (j : Int))] rfl rfl ?c2 ?c3 ?c4 ?c5 ?c6 ?c7 ?c8)
                case c0 => exact HLc.out
                case c1 =>
                  intro t u hu
                  have := HCe.out ⟨b, 0, none⟩ rfl t u hu
                  rw [addr_at] at this
                  rw [Nat.zero_add]
                  exact this
                case c2 => exact cell_one_new _ _ _
                case c3 => intro u hu; simp at hu; subst hu; rfl
                case c4 =>
                  intro _ t ht
                  simp at ht
                  subst ht
                  have e : 0 + (n j + m) * 1 + 0 = n j + m := by omega
                  rw [e]
                  exact own_spare HCp.out (n j + m) (by omega)
                case c5 => unfold maxLen; omega
                case c6 => omega
                case roundEnd =>
                  have HN2 : Hid (Grow B w W1 (vv a n c j) (n j) (1000 + j) (2000 + j) ((wr.alloc (.cells #[.int .i64 (2000 + (j : Int))] 3)).setCells b (n j + m) [.int .i64 (2000 + (j : Int))]) (.slice (some ⟨b, 0, none⟩) (n j + m + 1) gcap) (m + 1)) := by
                    have h := HN.out
                    rw [ed] at h
                    rw [cells_one]
                    exact h
                  clear HN HCp HCe HLc hcG
                  go_roundw
                  case rel => exact ⟨m + 1, by go_num, by omega, HN2.out⟩
                  case measure => simp [Go.RowKit.intOf]; omega
                case c8 => intro h; omega
              · go_wp2_with (at_builtin; refine wpList_append_grows _ rfl _ _ 22 rfl 3 ti (.int .i64 0) 1 8 Try.underlying22 hti hz0 hz1 hz2 rfl (by decide) ga (n j + m) gcap (intCells (List.replicate (n j) (1000 + j) ++ List.replicate m (2000 + j))) rfl ?e0 ?e1 ?e2 ⟨wr.heap.size, 0, none⟩ 1 1 [.int .i64 (2000 + (j : Int))] rfl rfl ?e3 ?e4 ?e5 ?e6 ?e7 ?e8)
                case e0 =>
                  intro hna
                  obtain ⟨_, hh⟩ := HGm.out.copy
                  rcases hh with ⟨hv, h0⟩ | ⟨g', cap', cur, hv, _⟩
                  · simp at hv
                    exact ⟨h0, hv.2.2⟩
                  · simp [hna] at hv
                case e1 => exact HLc.out
                case e2 => exact HCe.out
                case e3 => exact cell_one_new _ _ _
                case e4 => intro u hu; simp at hu; subst hu; rfl
                case e5 => omega
                case e6 => unfold maxLen; omega
                case e7 => omega
                case e8 =>
                  intro v' w2 hown hgr
                  have HN2 : Hid (Grow B w W1 (vv a n c j) (n j) (1000 + j) (2000 + j) w2 v' (m + 1)) := by
                    refine HGm.out.fresh (.cells #[.int .i64 (2000 + (j : Int))] 3) hBW ?_ hgr
                    rw [ed]
                    simpa using hown
                  clear hown hgr HCe HLc hcG
                  go_wp2_with fail
                  go_roundw
                  case rel => exact ⟨m + 1, by go_num, by omega, HN2.out⟩
                  case measure => simp [Go.RowKit.intOf]; omega
            · have hm4 : m = 40 := by omega
              subst hm4
              have HMid : Hid (wr.ownsRow w.heap.size 22 1 (.slice va j vcap) j ((List.range j).map Gv)) := HGr.out.mid hj2 HGm.out
              have hsz1 := HGm.out.below.size
              go_wp2_with (at_builtin; refine wpList_append_own _ rfl _ _ 82 rfl w.heap.size 22 tl (.slice none 0 0) 1 24 Try.underlying82 htl hy0 hy1 hy2 rfl (by decide) _ _ _ rfl (HMid.out.alloc _) ⟨wr.heap.size, 0, none⟩ 1 1 [.slice ga (n j + 40) gcap] rfl rfl ?f1 ?f2 ?f3 ?f4 ?f5 ?_)
              case f1 => exact cell_one_new _ _ _
              case f2 => intro u hu; simp at hu; subst hu; rfl
              case f3 => unfold maxLen; omega
              case f4 => omega
              case f5 => simp; omega
              intro v' w3 hown hgr _
              have HN3 : Hid (Grown2 B G a n c w w3 v' (j + 1) (fun t => if t = j then .slice ga (n j + 40) gcap else Gv t)) := HGr.out.step hj2 HD.out HGm.out hB hown hgr hGw
              clear hown hgr hcG
              go_wp2_with fail
              go_roundw
              case rel => exact ⟨j + 1, _, by go_num, by omega, HN3.out⟩
              case measure => simp [Go.RowKit.intOf]; omega
        · have HJ : Hid (j = 2) := by show j = 2; omega
          obtain ⟨vb, hvb⟩ : ∃ vb, va = some ⟨vb, 0, none⟩ := by
            obtain ⟨_, hh⟩ := HGr.out.grown
            rcases hh with ⟨_, h0⟩ | ⟨g', cap', cur, hv, _⟩
            · have := HJ.out; omega
            · simp at hv
              exact ⟨g', hv.1⟩
          subst hvb
          have hdj : decide ((j : Int) < 2) = false := by rw [decide_eq_false_iff_not]; have := HJ.out; omega
          have HCells : Hid (∀ t, t < 2 → W1.cell? ⟨vb, t, none⟩ = some (Gv t)) := by
            intro t ht
            rw [HGr.out.grown.cellAt t (by have := HJ.out; omega)]
            simp [show t < j by have := HJ.out; omega]
          have HCop : Hid (∀ t, t < 2 → ∃ gb gc, Gv t = .slice (some ⟨gb, 0, none⟩) (n t + 40) gc ∧ (∀ k, k < n t → W1.cell? ⟨gb, k, none⟩ = some (.int .i64 ((1000 + t : Nat) : Int))) ∧ (∀ k, n t ≤ k → k < n t + 40 → W1.cell? ⟨gb, k, none⟩ = some (.int .i64 ((2000 + t : Nat) : Int)))) := by
            intro t ht
            have hc := HGr.out.copies t (by have := HJ.out; omega)
            obtain ⟨_, hh⟩ := id hc
            rcases hh with ⟨_, h0⟩ | ⟨gb, gc, cur, hv, _⟩
            · omega
            · rw [hv] at hc
              refine ⟨gb, gc, hv, fun k hk => ?_, fun k hk1 hk2 => ?_⟩
              · rw [hc.cellAt k (by omega)]
                simp [intCells, List.getElem?_append_left, hk]
              · rw [hc.cellAt k (by omega)]
                have e : (intCells (List.replicate (n t) (1000 + t) ++ List.replicate 40 (2000 + t)))[k]? = some (Value.int .i64 ((2000 + t : Nat) : Int)) := by
                  unfold intCells
                  rw [List.getElem?_map, List.getElem?_append_right (by rw [List.length_replicate]; exact hk1), List.length_replicate, List.getElem?_replicate, if_pos (by omega)]
                  rfl
                exact e
          have HRow : Hid (∀ t, t < 2 → 0 < n t → ∃ rb, a t = some ⟨rb, 0, none⟩ ∧ ∀ k, k < n t → W1.cell? ⟨rb, k, none⟩ = some (.int .i64 ((1000 + t : Nat) : Int))) := by
            intro t ht hn0
            have hr : W1.ownsRow B 3 1 (.slice (a t) (n t) (c t)) (n t) _ := HGr.out.rows t ht
            obtain ⟨rb, hrb⟩ := own_addr hr hn0
            rw [hrb] at hr
            refine ⟨rb, hrb, fun k hk => ?_⟩
            rw [hr.cellAt k (by omega)]
            simp [intCells, hk]
          have HLst : Hid (∀ t, t < 2 → W1.cell? ⟨G, t, none⟩ = some (.slice (a t) (n t) (c t))) := fun t ht => cell_list HGr.out.list t ht
          have HBe : Hid (Below B w W1) := HGr.out.below
          clear HGr
          have hjge : 2 ≤ j := by have := HJ.out; omega
          go_wp2_with fail
          clear hdj
          go_loop [9] (fun vt => ∃ t : Nat, vt = .int .i64 t ∧ t ≤ 2) (fun vt => 2 - (Go.RowKit.intOf vt).toNat)
          case atStart => exact ⟨0, rfl, by omega⟩
          case round =>
            obtain ⟨t, rfl, ht⟩ := hrel
            by_cases ht2 : t < 2
            · have hcl := HLst.out t ht2
              have hcg := HCells.out t ht2
              obtain ⟨gb, gc, hgv, hlow, hhigh⟩ := HCop.out t ht2
              rw [hgv] at hcg
              have HLow : Hid _ := hlow
              have HHigh : Hid _ := hhigh
              have htI : (t : Int) < 2 := by omega
              have htj : (t : Int) < j := by omega
              have hnt := HL.out t ht2
              clear hgv hlow hhigh
              go_wp2_with fail
              go_loop [10] (fun vk => ∃ k : Nat, vk = .int .i64 k ∧ k ≤ n t + 40) (fun vk => n t + 40 - (Go.RowKit.intOf vk).toNat)
              case atStart => exact ⟨0, rfl, by omega⟩
              case round =>
                obtain ⟨k, rfl, hk⟩ := hrel
                by_cases hk40 : k < n t + 40
                · by_cases hkn : k < n t
                  · obtain ⟨rb, hrb, hrc⟩ := HRow.out t ht2 (by omega)
                    have hc1 := hrc k hkn
                    have hc2 := HLow.out k hkn
                    rw [hrb] at hcl
                    have e1 : ((1000 + t : Nat) : Int) = 1000 + (t : Int) := by omega
                    rw [e1] at hc1 hc2
                    have hkI : (k : Int) < (n t : Int) := by omega
                    clear hrc hrb e1
                    go_wp2_with fail
                    go_round
                    case rel => exact ⟨k + 1, by go_num, by omega⟩
                    case measure => simp [Go.RowKit.intOf]; omega
                  · have hc2 := HHigh.out k (by omega) hk40
                    have e1 : ((2000 + t : Nat) : Int) = 2000 + (t : Int) := by omega
                    rw [e1] at hc2
                    have hkI : decide ((k : Int) < (n t : Int)) = false := by rw [decide_eq_false_iff_not]; omega
                    have hkI2 : (n t : Int) ≤ (k : Int) := by omega
                    clear e1
                    go_wp2_with fail
                    go_round
                    case rel => exact ⟨k + 1, by go_num, by omega⟩
                    case measure => simp [Go.RowKit.intOf]; omega
                · go_wp2_with fail
                  go_round
                  case rel => exact ⟨t + 1, by go_num, by omega⟩
                  case measure => simp [Go.RowKit.intOf]; omega
            · go_wp2_with fail
              go_ret
              exact ⟨rfl, HBe.out⟩

end Go.Proofs.Ytabkhoiccjkghaa

namespace Go.Proofs.Ytabkhoiccjkghaa
open Go Go.RowKit Go.Lib
set_option linter.unusedVariables false

set_option maxHeartbeats 4000000 in
set_option maxRecDepth 100000 in
theorem sameAuto_any (u v : Value) (A : Aut) (w : World) (hu : AR w u A) (hv : AR w v A) (hm : A.nx.length ≤ 9223372036854775806) (hm2 : A.ac.length ≤ 9223372036854775806) :
    Calls Try.prog 15 #[u, v] w fun e w' => e = .returned (.bool true) ∧ Below w.heap.size w w' := by
  obtain ⟨an, cn, aa, ca, rfl, h1, h2⟩ := hu.is
  obtain ⟨bn, dn, ba, da, rfl, k1, k2⟩ := hv.is
  have HSA : Hid (∀ y, Below w.heap.size w y → Calls Try.prog 37 #[.slice an A.nx.length cn, .slice bn A.nx.length dn] y fun e w' => e = .returned (.bool true) ∧ Below y.heap.size y w') := fun y hy => same_any an bn cn dn A.nx y (h1.stay hy) (k1.stay hy) hm
  have H2 : Hid (SR w aa (bC A.ac)) := h2
  have K2 : Hid (SR w ba (bC A.ac)) := k2
  have R1 : RowAt (w.alloc (.cells #[.int .i64 A.k, .slice an A.nx.length cn, .slice aa A.ac.length ca] 25)) w.heap.size #[.int .i64 A.k, .slice an A.nx.length cn, .slice aa A.ac.length ca] := RowAt.last _ _ _
  have R2 := R1.alloc (.cells #[.int .i64 A.k, .slice bn A.nx.length dn, .slice ba A.ac.length da] 25)
  have R3 := RowAt.last (w.alloc (.cells #[.int .i64 A.k, .slice an A.nx.length cn, .slice aa A.ac.length ca] 25)) #[.int .i64 A.k, .slice bn A.nx.length dn, .slice ba A.ac.length da] 25
  rw [World.size_alloc] at R3
  have HR2 : Hid (RowAt ((w.alloc (.cells #[.int .i64 A.k, .slice an A.nx.length cn, .slice aa A.ac.length ca] 25)).alloc (.cells #[.int .i64 A.k, .slice bn A.nx.length dn, .slice ba A.ac.length da] 25)) w.heap.size #[.int .i64 A.k, .slice an A.nx.length cn, .slice aa A.ac.length ca]) := R2
  have HR3 : Hid (RowAt ((w.alloc (.cells #[.int .i64 A.k, .slice an A.nx.length cn, .slice aa A.ac.length ca] 25)).alloc (.cells #[.int .i64 A.k, .slice bn A.nx.length dn, .slice ba A.ac.length da] 25)) (w.heap.size + 1) #[.int .i64 A.k, .slice bn A.nx.length dn, .slice ba A.ac.length da]) := R3
  have HBW : Hid (∀ O O', Below w.heap.size w ((w.alloc O).alloc O')) := fun O O' => go_on (below_new _ _) (below_new _ _)
  clear hu hv h1 h2 k1 k2 R1 R2 R3
  go_enter Try.func15, Try.ntmps15
  go_wp2_with (first
    | (go_at_call 37; refine (HSA.out _ (HBW.out _ _)).mono ?_; rintro e y1 ⟨rfl, hy1⟩; have HA1 : Hid (RowAt y1 w.heap.size #[.int .i64 A.k, .slice an A.nx.length cn, .slice aa A.ac.length ca]) := RowAt.stay HR2.out hy1; have HA2 : Hid (RowAt y1 (w.heap.size + 1) #[.int .i64 A.k, .slice bn A.nx.length dn, .slice ba A.ac.length da]) := RowAt.stay HR3.out hy1; have cs1 := HA1.out.cell; have cs2 := HA2.out.cell; have HY : Hid (Below w.heap.size w y1) := go_on (HBW.out _ _) hy1; clear hy1))
  clear cs1 cs2
  go_loopw [5] (fun vi wr => ∃ i : Nat, vi = .int .i64 i ∧ i ≤ A.ac.length ∧ Below y1.heap.size y1 wr) (fun vi _ => A.ac.length - (Go.RowKit.intOf vi).toNat)
  case atStart => exact ⟨0, rfl, Nat.zero_le _, Below.refl _ _⟩
  case round =>
    obtain ⟨i, rfl, hi, hb⟩ := hrel
    have HB : Hid (Below y1.heap.size y1 wr) := hb
    have cs1 := (HA1.out.stay hb).cell
    have cs2 := (HA2.out.stay hb).cell
    by_cases hlt : i < A.ac.length
    · have hiI : (i : Int) < A.ac.length := by omega
      have hbw : Below w.heap.size w wr := go_on HY.out hb
      obtain ⟨ga, oa, rfl, _, c1⟩ := (H2.out.stay hbw).bool hlt
      obtain ⟨gb, ob, rfl, _, c2⟩ := (K2.out.stay hbw).bool hlt
      obtain ⟨x, hx⟩ : ∃ x, A.ac.getD i false = x := ⟨_, rfl⟩
      rw [hx] at c1 c2
      have S0 : (∀ o, wr.drew.cell? ⟨w.heap.size, o, none⟩ = (#[.int .i64 A.k, .slice an A.nx.length cn, .slice (some ⟨ga, oa, none⟩) A.ac.length ca] : Array Value)[o]?) ∧ (∀ o, wr.drew.cell? ⟨w.heap.size + 1, o, none⟩ = (#[.int .i64 A.k, .slice bn A.nx.length dn, .slice (some ⟨gb, ob, none⟩) A.ac.length da] : Array Value)[o]?) ∧ wr.drew.cell? ⟨ga, oa + i, none⟩ = some (.bool x) ∧ wr.drew.cell? ⟨gb, ob + i, none⟩ = some (.bool x) := ⟨cs1, cs2, c1, c2⟩
      clear hx hb hbw
      go_wp2_with fail
      clear cs1 cs2 c1 c2
      go_region_held3 (fun y => (∀ o, y.cell? ⟨w.heap.size, o, none⟩ = (#[.int .i64 A.k, .slice an A.nx.length cn, .slice (some ⟨ga, oa, none⟩) A.ac.length ca] : Array Value)[o]?) ∧ (∀ o, y.cell? ⟨w.heap.size + 1, o, none⟩ = (#[.int .i64 A.k, .slice bn A.nx.length dn, .slice (some ⟨gb, ob, none⟩) A.ac.length da] : Array Value)[o]?) ∧ y.cell? ⟨ga, oa + i, none⟩ = some (.bool x) ∧ y.cell? ⟨gb, ob + i, none⟩ = some (.bool x)) (first | exact S0 | assumption) (fail)
      all_goals (
        clear S0
        go_wp2_with fail
        go_roundw
        case rel => exact ⟨i + 1, by go_num, by omega, HB.out.drew⟩
        case measure => simp [Go.RowKit.intOf]; omega)
    · have hiI : ¬ (i : Int) < A.ac.length := by omega
      clear hb
      go_wp2_with fail
      go_ret
      exact ⟨rfl, go_on HY.out HB.out⟩
end Go.Proofs.Ytabkhoiccjkghaa

namespace Go.Proofs.Ytabkhoiccjkghaa
open Go Go.RowKit Go.Lib Go.Maps
set_option linter.unusedVariables false
attribute [-instance] List.instBEq instBEqProd

set_option maxHeartbeats 2000000 in
set_option maxRecDepth 100000 in
theorem mauto_ok {w : World} {ob : Nat} {A : Aut} {M : List (List Nat)} {N : List Nat} (h : MO w ob A M N) (G : Good A) (h64 : A.ac.length ≤ 64) : Calls Try.prog 16 #[.pointer (some ⟨ob, 0, none⟩)] w fun e w' => ∃ v, e = .returned v ∧ AW w.heap.size w' v A ∧ Below w.heap.size w w' := by
  obtain ⟨w0, hw0⟩ : ∃ w0, w0 = w.alloc (.cells #[.int .i64 0, .slice none 0 0, .slice none 0 0] 25) := ⟨_, rfl⟩
  have HB0 : Hid (Below w.heap.size w w0) := by show Below _ _ _; rw [hw0]; exact below_new _ _
  have HS0 : Hid (w.heap.size ≤ w0.heap.size) := HB0.out.size
  have H : Hid (MO w0 ob A M N) := h.below HB0.out
  have HR0 : Hid (w0.heap[w.heap.size]? = some (.cells #[.int .i64 0, .slice none 0 0, .slice none 0 0] 25 (0, 0))) := by show _ = _; rw [hw0]; exact heap_last _ _
  have HW0 : Hid (w0 = w.alloc (.cells #[.int .i64 0, .slice none 0 0, .slice none 0 0] 25)) := hw0
  obtain ⟨base, bt, b, mb, gw, ga, R, n, a, c, d, vl, D, an, cn, aa, ca, h⟩ := H.out
  have hl := G.len
  have hn1 := G.n1
  have hk1 := G.k1
  have hk8 := G.k8
  have hx1 : 1 ≤ A.nx.length := by
    have := (G.at (s := 0) (c := 0) (by omega) (by omega)).1
    omega
  have hx2 : A.nx.length ≤ 40000 := by
    have h1 : (A.ac.length : Int) * A.k ≤ 64 * 8 := Int.mul_le_mul (by omega) (by omega) (by omega) (by omega)
    omega
  have HF : Hid (Calls Try.prog 38 #[.agg #[.int .i64 A.k, .slice an A.nx.length cn, .slice aa A.ac.length ca]] w0 fun e w' => ∃ v', e = .returned v' ∧ AW w0.heap.size w' v' A ∧ Below w0.heap.size w0 w') := fresh_any _ A w0 ⟨_, _, _, _, rfl, own_sr h.nx, own_sr h.ac⟩ hx1 (by omega) hx2 (by omega)
  have c1 : w0.cell? ⟨ob, 2 - 1, none⟩ = some (.int .i64 A.k) := cell_at h.box rfl
  have c1' : w0.cell? ⟨ob, 1, none⟩ = some (.int .i64 A.k) := c1
  have c2 : w0.cell? ⟨ob, 2, none⟩ = some (.slice an A.nx.length cn) := cell_at h.box rfl
  have c3 : w0.cell? ⟨ob, 3, none⟩ = some (.slice aa A.ac.length ca) := cell_at h.box rfl
  clear h hw0 hl hn1 hk1 hk8 hx1 hx2 c1
  go_enter Try.func16, Try.ntmps16
  go_wp2_with fail
  rw [← HW0.out]
  refine (mmade_any H.out).mono ?_
  rintro e w1 ⟨rfl, rfl⟩
  go_wp2_with fail
  refine HF.out.mono ?_
  rintro e w2 ⟨v, rfl, hA, hB⟩
  obtain ⟨an2, cn2, aa2, ca2, rfl, ho1, ho2⟩ := hA
  have HB2 : Hid (Below w.heap.size w w2) := go_on HB0.out hB
  have HR2 : Hid (w2.heap[w.heap.size]? = some (.cells #[.int .i64 0, .slice none 0 0, .slice none 0 0] 25 (0, 0))) := (hB.block _ (Array.getElem?_eq_some_iff.1 HR0.out).1).trans HR0.out
  have HO1 : Hid (w2.ownsRow w0.heap.size 3 1 (.slice an2 A.nx.length cn2) A.nx.length (zC A.nx)) := ho1
  have HO2 : Hid (w2.ownsRow w0.heap.size 4 1 (.slice aa2 A.ac.length ca2) A.ac.length (bC A.ac)) := ho2
  have r0 : w2.cell? ⟨w.heap.size, 0, none⟩ = some (.int .i64 0) := cell_of HR2.out
  have r1 : w2.cell? ⟨w.heap.size, 1, none⟩ = some (.slice none 0 0) := cell_of HR2.out
  have r2 : w2.cell? ⟨w.heap.size, 2, none⟩ = some (.slice none 0 0) := cell_of HR2.out
  have rf : ∀ j, w2.frozen? ⟨w.heap.size, j, none⟩ = false := fun j => froz_of HR2.out
  clear ho1 ho2 hB c1' c2 c3
  go_wp2_with fail
  have hne : ∀ (g : Nat) (cur : Array Value) (t : TypeId), t ≠ 25 → w2.heap[g]? = some (.cells cur t (0, 0)) → g ≠ w.heap.size := fun g cur t ht hc e => by
    rw [e, HR2.out] at hc
    injection hc with hc
    injection hc with _ hc _
    exact ht hc.symm
  refine bodyPost_ret (results_auto1 rfl rfl (heap_set (heap_set (heap_set HR2.out))) rfl) rfl ⟨_, rfl, ⟨an2, cn2, aa2, ca2, rfl, ?_, ?_⟩, ?_⟩
  · exact own_keep (own_mono HO1.out HS0.out) (fun b cur _ hc => by rw [heap_set_other (hne b cur _ (by decide) hc), heap_set_other (hne b cur _ (by decide) hc), heap_set_other (hne b cur _ (by decide) hc)])
  · exact own_keep (own_mono HO2.out HS0.out) (fun b cur _ hc => by rw [heap_set_other (hne b cur _ (by decide) hc), heap_set_other (hne b cur _ (by decide) hc), heap_set_other (hne b cur _ (by decide) hc)])
  · exact ((HB2.out.setCell (p := ⟨w.heap.size, 0, none⟩) (Nat.le_refl _) _).setCell (p := ⟨w.heap.size, 1, none⟩) (Nat.le_refl _) _).setCell (p := ⟨w.heap.size, 2, none⟩) (Nat.le_refl _) _

set_option maxHeartbeats 1000000 in
set_option maxRecDepth 100000 in
theorem mtrans_not {w : World} {ob : Nat} {A : Aut} {M : List (List Nat)} {N : List Nat} (h : MO w ob A M N) {i : Int} (hi : ¬ hasE M.length i = true) : Calls Try.prog 10 #[.pointer (some ⟨ob, 0, none⟩), .int .i64 i] w fun e w' => e = .returned (.tuple #[.agg (trC 0 fun _ => 0), .int .i64 11]) ∧ Below w.heap.size w w' := by
  have HX : Hid (MO (w.alloc (.cells #[.int .i64 0, .int .u64 0, .int .u64 0, .int .u64 0, .int .u64 0, .int .u64 0, .int .u64 0, .int .u64 0] 42)) ob A M N) := h.below (below_new _ _)
  have HB : Hid (Below w.heap.size w (w.alloc (.cells #[.int .i64 0, .int .u64 0, .int .u64 0, .int .u64 0, .int .u64 0, .int .u64 0, .int .u64 0, .int .u64 0] 42))) := below_new _ _
  have HC : Hid (TrAt (w.alloc (.cells #[.int .i64 0, .int .u64 0, .int .u64 0, .int .u64 0, .int .u64 0, .int .u64 0, .int .u64 0, .int .u64 0] 42)) w.heap.size 0 (fun _ => 0)) := heap_last _ _
  have HI : Hid (¬ hasE M.length i = true) := hi
  clear h hi
  go_enter Try.func10, Try.ntmps10
  go_wp2_with (go_at_call 28; refine (mcheck_not HX.out HI.out).mono ?_; rintro e w1 ⟨rfl, rfl⟩)
  refine bodyPost_ret (results_tr_tmp (N := 0) (g := fun _ => 0) (b := w.heap.size) rfl rfl ?_) rfl ?_
  · exact HC.out
  · exact ⟨rfl, HB.out⟩

def pk2 {α : Type} (x y : α) : Nat → α := fun j => if j = 0 then x else y

theorem two' {P : Nat → Prop} (h0 : P 0) (h1 : P 1) : ∀ j, j < 2 → P j := fun j hj => by
  have : j = 0 ∨ j = 1 := by omega
  rcases this with rfl | rfl
  · exact h0
  · exact h1

/-- Two rows that lie apart stay apart. -/
theorem apartZ {y : World} {B : Nat} {L1 L2 : List Int} {a1 a2 : Option Addr} {c1 c2 : Nat} (h1 : y.ownsRow B 3 1 (.slice a1 L1.length c1) L1.length (zC L1)) (h2 : y.ownsRow B 3 1 (.slice a2 L2.length c2) L2.length (zC L2)) (hd : ∀ b, (Value.slice a1 L1.length c1).ownBlock = some b → (Value.slice a2 L2.length c2).ownBlock ≠ some b) (kB : B ≤ y.heap.size) (m1 : L1.length ≤ 512) (m2 : L2.length ≤ 512) :
    Calls Try.prog 21 #[.slice (some ⟨y.heap.size, 0, none⟩) 2 2] (y.alloc (.cells #[.slice a1 L1.length c1, .slice a2 L2.length c2] 22)) fun e w' => e = .returned (.bool true) ∧ Below B (y.alloc (.cells #[.slice a1 L1.length c1, .slice a2 L2.length c2] 22)) w' := by
  refine apart_any B y.heap.size (pk2 a1 a2) (pk2 L1.length L2.length) (pk2 c1 c2) (pk2 (zC L1) (zC L2)) _ (heap_last y _) (two' ?_ ?_) (two' ?_ ?_) (two' ?_ ?_) ?_ (by simp; omega)
  · exact h1.alloc _
  · exact h2.alloc _
  · show L1.length ≤ _; omega
  · show L2.length ≤ _; omega
  · show (zC L1).length = L1.length; exact zC_len L1
  · show (zC L2).length = L2.length; exact zC_len L2
  · intro j j' hj hj' hne b hb
    have e1 : j = 0 ∨ j = 1 := by omega
    have e2 : j' = 0 ∨ j' = 1 := by omega
    rcases e1 with rfl | rfl <;> rcases e2 with rfl | rfl
    · omega
    · exact hd b hb
    · exact fun q => hd b q hb
    · omega
end Go.Proofs.Ytabkhoiccjkghaa
