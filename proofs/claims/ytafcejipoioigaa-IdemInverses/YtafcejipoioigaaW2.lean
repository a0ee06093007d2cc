/- E60 E61 E62 Ju E2 E42 E44 E46 E63 E47 E48 E49 E43 E50, in one text. -/
import Derived.Test.YtafcejipoioigaaW1
import Derived.Test.YtafcejipoioigaaJt
import Derived.OpenShut
import Derived.ProofKit
import Derived.ShutString
import Derived.ChangeOld
import Derived.JoinedCond
import Derived.SizedLaws
import Derived.Carry
import Derived.Deep.Strs
import Derived.Deep.Grids
import Derived.Test.YtafcejipoioigaaE1
import Derived.Test.YtafcejipoioigaaAb
import Derived.Test.YtafcejipoioigaaJh
import Derived.Test.YtafcejipoioigaaJi
import Derived.Laws.EntriesVeiled
import Derived.Deep.LoopGhost
import Derived.Test.YtafcejipoioigaaRk
import Derived.RangeFuncCalls
import Derived.RegionIn
namespace Go.Proofs.Ytafcejipoioigaa
open Go Go.RowKit Go.Lib Go.Maps
set_option linter.unusedVariables false
attribute [-instance] List.instBEq instBEqProd

set_option maxHeartbeats 2000000 in
set_option maxRecDepth 100000 in
theorem rbuild_bad (v : Value) (A : Aut) (w : World) (h : AR w v A) (hm : A.nx.length ≤ 9223372036854775806) (hm2 : A.ac.length ≤ 9223372036854775806) (hE : owE A ByteArray.empty ≠ 0) : Calls Try.prog 40 #[v] w fun e w' => e = .returned (.tuple #[.pointer none, .int .i64 (owE A ByteArray.empty)]) ∧ Below w.heap.size w w' := by
  obtain ⟨an, cn, aa, ca, e, h1, h2⟩ := h.is
  have HCK : Hid (∀ y, Below w.heap.size w y → Calls Try.prog 69 #[v] y fun e w' => e = .returned (.int .i64 (chkA A)) ∧ Below y.heap.size y w') := fun y hy => racheck_any v A y (h.stay hy) hm hm2
  subst e
  obtain ⟨W, hW⟩ : ∃ W, W = w.alloc (.cells #[.int .i64 A.k, .slice an A.nx.length cn, .slice aa A.ac.length ca] 26) := ⟨_, rfl⟩
  have HB1 : Hid (Below w.heap.size w W) := by show Below _ _ _; rw [hW]; exact below_new _ _
  have HBX1 : Hid (W.heap[w.heap.size]? = some (.cells #[.int .i64 A.k, .slice an A.nx.length cn, .slice aa A.ac.length ca] 26 (0, 0))) := by show _ = _; rw [hW]; exact heap_last _ _
  have HW1 : Hid (W = w.alloc (.cells #[.int .i64 A.k, .slice an A.nx.length cn, .slice aa A.ac.length ca] 26)) := hW
  clear hW h h1 h2
  by_cases hc : chkA A = 0
  · have h64 : 64 < A.ac.length := by
      rcases Nat.lt_or_ge 64 A.ac.length with q | q
      · exact q
      · exact absurd (owE_good (chkA_good hc) q) hE
    have HE : Hid (owE A ByteArray.empty = 81) := by show _ = _; unfold owE; rw [if_pos hc, if_pos (by omega)]
    rw [hc] at HCK
    have h64I : (64 : Int) < (A.ac.length : Nat) := by omega
    have h64d : decide ((64 : Int) < (A.ac.length : Nat)) = true := decide_eq_true h64I
    have h64e : decide (64 < A.ac.length) = true := decide_eq_true h64
    clear hE hc
    go_enter Try.func40, Try.ntmps40
    go_wp2_with fail
    rw [← HW1.out]
    refine (HCK.out _ HB1.out).mono ?_
    rintro e w1 ⟨rfl, hb⟩
    have HB2 : Hid (Below w.heap.size w w1) := go_on HB1.out hb
    have cs2 : w1.cell? ⟨w.heap.size, 2, none⟩ = some (.slice aa A.ac.length ca) := cell_at ((hb.block _ (Array.getElem?_eq_some_iff.1 HBX1.out).1).trans HBX1.out) rfl
    clear hb
    go_wp2_with fail
    go_ret2
    exact ⟨by rw [HE.out]; rfl, HB2.out⟩
  · have hG : ¬ Good A := fun G => hc (chkA_ok G)
    have HE : Hid (owE A ByteArray.empty = 80) := by show _ = _; unfold owE; rw [if_neg hc]
    rw [chkA_no hG] at HCK
    clear hE hc hG
    go_enter Try.func40, Try.ntmps40
    go_wp2_with fail
    rw [← HW1.out]
    refine (HCK.out _ HB1.out).mono ?_
    rintro e w1 ⟨rfl, hb⟩
    have HB2 : Hid (Below w.heap.size w w1) := go_on HB1.out hb
    have cs2 : w1.cell? ⟨w.heap.size, 2, none⟩ = some (.slice aa A.ac.length ca) := cell_at ((hb.block _ (Array.getElem?_eq_some_iff.1 HBX1.out).1).trans HBX1.out) rfl
    clear hb
    go_wp2_with fail
    go_ret2
    exact ⟨by rw [HE.out]; rfl, HB2.out⟩

theorem rbuild_any (v : Value) (A : Aut) (w : World) (h : AR w v A) (hm : A.nx.length ≤ 9223372036854775806) (hm2 : A.ac.length ≤ 9223372036854775806) : Calls Try.prog 40 #[v] w (RbQ A w) := by
  by_cases hE : owE A ByteArray.empty = 0
  · obtain ⟨G, h64⟩ := owE_ok hE
    exact rbuild_ok v A w h G h64
  · refine (rbuild_bad v A w h hm hm2 hE).mono ?_
    rintro e w' ⟨rfl, hb⟩
    have e1 : bdE A = owE A ByteArray.empty := by unfold bdE; rw [if_neg hE]
    exact .inl ⟨by rw [e1]; exact hE, by rw [e1], hb⟩

end Go.Proofs.Ytafcejipoioigaa

namespace Go.Proofs.Ytafcejipoioigaa
open Go Go.RowKit Go.Lib Go.Maps
set_option linter.unusedVariables false
attribute [-instance] List.instBEq instBEqProd

/-- A monoid that Build made, of whose automaton's lists nothing lies below lo. -/
def MOb (lo : Nat) (w : World) (ob : Nat) (A : Aut) (M : List (List Nat)) (N : List Nat) : Prop := ∃ base bt b mb gw ga R n a c d vl D an cn aa ca, lo ≤ base ∧ MP w ob A M N base bt b mb gw ga R n a c d vl D an cn aa ca (.pointer (some ⟨ob, 0, none⟩))

theorem MOb.mo {lo : Nat} {w : World} {ob : Nat} {A : Aut} {M : List (List Nat)} {N : List Nat} (h : MOb lo w ob A M N) : MO w ob A M N := by
  obtain ⟨base, bt, b, mb, gw, ga, R, n, a, c, d, vl, D, an, cn, aa, ca, _, h⟩ := h
  exact ⟨base, bt, b, mb, gw, ga, R, n, a, c, d, vl, D, an, cn, aa, ca, h⟩

theorem MOb.below {lo : Nat} {w w' : World} {ob : Nat} {A : Aut} {M : List (List Nat)} {N : List Nat} (h : MOb lo w ob A M N) (hb : Below w.heap.size w w') : MOb lo w' ob A M N := by
  obtain ⟨base, bt, b, mb, gw, ga, R, n, a, c, d, vl, D, an, cn, aa, ca, l, h⟩ := h
  exact ⟨base, bt, b, mb, gw, ga, R, n, a, c, d, vl, D, an, cn, aa, ca, l, h.keep hb⟩

theorem MOb.set {lo : Nat} {w : World} {ob : Nat} {A : Aut} {M : List (List Nat)} {N : List Nat} (h : MOb lo w ob A M N) {g o : Nat} {v : Value} {cs : Array Value} (hg : g < lo) (hc : w.heap[g]? = some (.cells cs 3 (0, 0))) : MOb lo (w.setCell ⟨g, o, none⟩ v) ob A M N := by
  obtain ⟨base, bt, b, mb, gw, ga, R, n, a, c, d, vl, D, an, cn, aa, ca, l, h⟩ := h
  have kt : ∀ (j : Nat) (cur : Array Value) (ty : TypeId), w.heap[j]? = some (.cells cur ty (0, 0)) → ty ≠ 3 → (w.setCell ⟨g, o, none⟩ v).heap[j]? = w.heap[j]? := fun j cur ty hj hn => heap_set_other (blk_ne hj hc hn)
  obtain ⟨cw, hw, _⟩ := id h.wp
  obtain ⟨cb, hb, _⟩ := id h.bp
  obtain ⟨cr, hr, _⟩ := id h.rt
  refine ⟨base, bt, b, mb, gw, ga, R, n, a, c, d, vl, D, an, cn, aa, ca, l, ⟨(kt _ _ _ h.box (by decide)).trans h.box, own_keep h.nx (fun j cur hj _ => heap_set_other (by have := (h.nx.lt j hj).1; omega)), own_keep h.ac (fun j cur _ hc => kt j _ _ hc (by decide)), h.tb.keep (fun j hj _ => heap_set_other (fun e => by subst e; exact h.tb.not_ts hc (by decide) (by decide) hj)), h.wp.keep (kt _ _ _ hw (by decide)), h.bp.keep (kt _ _ _ hb (by decide)), h.rt.keep (kt _ _ _ hr (by decide)), h.mon, h.num⟩⟩

/-- What Build answers of an automaton of at most 64 states. -/
def BdL (A : Aut) (w : World) (e : Ending) (w' : World) : Prop :=
  (mEl A = none ∧ e = .returned (.tuple #[.pointer none, .int .i64 140]) ∧ Below w.heap.size w w') ∨
  ∃ ob M N, e = .returned (.tuple #[.pointer (some ⟨ob, 0, none⟩), .int .i64 0]) ∧ mEl A = some (M, N) ∧ MOb w.heap.size w' ob A M N ∧ Below w.heap.size w w'

set_option maxHeartbeats 4000000 in
set_option maxRecDepth 100000 in
theorem build_low (v : Value) (A : Aut) (w : World) (h : AR w v A) (G : Good A) (h64 : A.ac.length ≤ 64) :
    Calls Try.prog 33 #[v] w (BdL A w) := by
  have hks := G.ks
  have hn1 := G.n1
  have hln := G.len
  have hxl : 1 ≤ A.nx.length ∧ A.nx.length ≤ 40000 := by
    have h1 : (1 : Int) * 1 ≤ (A.ac.length : Int) * A.k := Int.mul_le_mul (by omega) G.k1 (by omega) (by omega)
    have h2 : (A.ac.length : Int) * A.k ≤ 64 * 8 := Int.mul_le_mul (by omega) G.k8 (by have := G.k1; omega) (by omega)
    omega
  obtain ⟨an, cn, aa, ca, e, h1, h2⟩ := h.is
  have HA : Hid (∀ w', Below w.heap.size w w' → AR w' v A) := fun w' hb => h.stay hb
  clear h h1 h2 hln
  subst e
  have HGd : Hid (Good A) := G
  obtain ⟨w0, hw0⟩ : ∃ w0, w0 = w.alloc (.cells #[.int .i64 A.k, .slice an A.nx.length cn, .slice aa A.ac.length ca] 26) := ⟨_, rfl⟩
  have HB0 : Hid (Below w.heap.size w w0) := by show Below _ _ _; rw [hw0]; exact below_new _ _
  have HR0 : Hid (RowAt w0 w.heap.size #[.int .i64 A.k, .slice an A.nx.length cn, .slice aa A.ac.length ca]) := by show RowAt _ _ _; rw [hw0]; exact RowAt.last _ _ _
  have HW0 : Hid (w0 = w.alloc (.cells #[.int .i64 A.k, .slice an A.nx.length cn, .slice aa A.ac.length ca] 26)) := hw0
  clear hw0 G
  go_enter Try.func33, Try.ntmps33
  go_wp2_with fail
  rw [← HW0.out]
  refine (find_any _ A w0 (HA.out _ HB0.out) HGd.out h64).mono ?_
  rintro e w1 (⟨hno, rfl, hB1⟩ | ⟨base, fb, b, mb, vl, vw, vr, M, W, N, D, rfl, hE, hWY, hF, hlo, hB1⟩)
  · have HNO : Hid (mEl A = none) := hno
    have HB1 : Hid (Below w.heap.size w w1) := go_on HB0.out hB1
    clear hno hB1
    go_wp2_with fail
    go_ret2
    exact .inl ⟨HNO.out, rfl, HB1.out⟩
  · have HMon : Hid (Mon A M N) := mon_of HGd.out h64 hE
    have HE : Hid (mEl A = some (M, N)) := hE
    have HWY : Hid (WyO A.k.toNat M W N) := hWY
    have HF : Hid (FN base w1 fb b mb A.k.toNat A.ac.length vl vw vr M W N D) := hF
    have HB1 : Hid (Below w.heap.size w w1) := go_on HB0.out hB1
    have HR1 : Hid (RowAt w1 w.heap.size #[.int .i64 A.k, .slice an A.nx.length cn, .slice aa A.ac.length ca]) := HR0.out.stay hB1
    have S0 : ((∀ o, (w1.drew).cell? ⟨w.heap.size, o, none⟩ = (#[.int .i64 A.k, .slice an A.nx.length cn, .slice aa A.ac.length ca] : Array Value)[o]?) ∧ (w1.drew).cell? ⟨fb, 1, none⟩ = some (.pointer (some ⟨b, 0, none⟩))) := ⟨HR1.out.cell, cell_at HF.out.box rfl⟩
    have HSK : Hid (∀ y y' : World, ((∀ o, y.cell? ⟨w.heap.size, o, none⟩ = (#[.int .i64 A.k, .slice an A.nx.length cn, .slice aa A.ac.length ca] : Array Value)[o]?) ∧ y.cell? ⟨fb, 1, none⟩ = some (.pointer (some ⟨b, 0, none⟩))) → Below y.heap.size y y' → ((∀ o, y'.cell? ⟨w.heap.size, o, none⟩ = (#[.int .i64 A.k, .slice an A.nx.length cn, .slice aa A.ac.length ca] : Array Value)[o]?) ∧ y'.cell? ⟨fb, 1, none⟩ = some (.pointer (some ⟨b, 0, none⟩)))) := fun y y' hy hb => by
      have k1 : w.heap.size < y.heap.size := World.block_lt_of_cell? y ⟨w.heap.size, 0, none⟩ (hy.1 0)
      have k2 : fb < y.heap.size := World.block_lt_of_cell? y ⟨fb, 1, none⟩ hy.2
      exact ⟨fun o => by rw [below_cellJ hb k1]; exact hy.1 o, by rw [below_cellJ hb k2]; exact hy.2⟩
    clear hE hWY hF hB1 HR0 HW0
    go_wp2_with fail
    go_region_held3 (fun y => ((∀ o, y.cell? ⟨w.heap.size, o, none⟩ = (#[.int .i64 A.k, .slice an A.nx.length cn, .slice aa A.ac.length ca] : Array Value)[o]?) ∧ y.cell? ⟨fb, 1, none⟩ = some (.pointer (some ⟨b, 0, none⟩)))) (first | assumption | exact S0 | exact HSK.out _ _ (by assumption) (by assumption) | exact HSK.out _ _ (by assumption) (below_new _ _)) (first
      | (go_at_call 60; refine (fresh_any _ A _ (HA.out _ HB1.out.drew) hxl.1 hn1 hxl.2 (by omega)).mono ?_; rintro e y1 ⟨v1, rfl, ⟨an1, cn1, aa1, ca1, rfl, hx1, hc1⟩, hy1⟩; have K1 : Hid (Below w1.heap.size w1 y1) := go_on (Below.refl _ _).drew hy1; have HX1 : Hid (y1.ownsRow w1.drew.heap.size 3 1 (.slice an1 A.nx.length cn1) A.nx.length (zC A.nx)) := hx1; have HC1 : Hid (y1.ownsRow w1.drew.heap.size 4 1 (.slice aa1 A.ac.length ca1) A.ac.length (bC A.ac)) := hc1; have HY2 : Hid (∀ z, Below y1.heap.size y1 z → Below y1.heap.size y1 z) := fun _ q => q; clear hx1 hc1)
      | (go_at_call 61; refine (words_any (HF.out.below K1.out) HWY.out HMon.out.fst ⟨hks.1, hks.2.1⟩ HMon.out.pos).mono ?_; rintro e y2 ⟨g2, rfl, hy2, hg2, hw2⟩; have K2 : Hid (Below w1.heap.size w1 y2) := go_on K1.out hy2; have HW2 : Hid (WP y2 g2 A.k.toNat M.length N M.length) := hw2; clear hw2 hg2)
      | (go_at_call 62; refine (accepted_any (HF.out.below K2.out) HWY.out.len _ (HA.out _ (go_on HB1.out K2.out)) hn1).mono ?_; rintro e y3 ⟨g3, rfl, hy3, hg3, hb3⟩; have K3 : Hid (Below w1.heap.size w1 y3) := go_on K2.out hy3; have HP3 : Hid (BP y3 g3 A M M.length) := hb3; have HY3 : Hid (Below y2.heap.size y2 y3) := hy3; clear hb3 hg3)
      | (go_at_call 63; refine (lay_any (HF.out.below K3.out) HWY.out HMon.out.fst ⟨hks.1, hks.2.1⟩ HMon.out.pos HMon.out.len (fun a b ha hb => HMon.out.pr_lt ha hb) (fun p hp => HMon.out.nl hp)).mono ?_; rintro e y4 ⟨R, n, a, c, d, hn, ha, hc, hd, rfl, hy4, hR, hRT⟩; have K4 : Hid (Below w1.heap.size w1 y4) := go_on K3.out hy4; have HRT : Hid (RT y4 R n A.k.toNat N (fun _ _ => True) (fun _ _ => True)) := hRT; have HNM : Hid (M.length = n ∧ n * A.k.toNat = a ∧ n * n = c ∧ a + a = d) := ⟨hn, ha, hc, hd⟩; have HY4 : Hid (Below y3.heap.size y3 y4) := hy4; clear hRT hn ha hc hd hR))
    have HMP : Hid (MP (y4.alloc (.cells #[.pointer (some ⟨y4.heap.size, 0, none⟩), .int .i64 A.k, .slice an1 A.nx.length cn1, .slice aa1 A.ac.length ca1, .pointer (some ⟨b, 0, none⟩), .slice (some ⟨g2, 0, none⟩) M.length M.length, .slice (some ⟨g3, 0, none⟩) M.length M.length, .int .i64 A.k, .slice (some ⟨R, 0, none⟩) a a, .int .i64 A.k, .slice (some ⟨R, a, none⟩) a a, .int .i64 (n : Int), .slice (some ⟨R, d, none⟩) c c] 35)) y4.heap.size A M N w1.drew.heap.size base b mb g2 g3 R n a c d vl D an1 cn1 aa1 ca1 (.pointer (some ⟨y4.heap.size, 0, none⟩))) := by
      have hY14 : Below y1.heap.size y1 y4 := go_on (go_on hy2 HY3.out) HY4.out
      have hb : Below y4.heap.size y4 (y4.alloc (.cells #[.pointer (some ⟨y4.heap.size, 0, none⟩), .int .i64 A.k, .slice an1 A.nx.length cn1, .slice aa1 A.ac.length ca1, .pointer (some ⟨b, 0, none⟩), .slice (some ⟨g2, 0, none⟩) M.length M.length, .slice (some ⟨g3, 0, none⟩) M.length M.length, .int .i64 A.k, .slice (some ⟨R, 0, none⟩) a a, .int .i64 A.k, .slice (some ⟨R, a, none⟩) a a, .int .i64 (n : Int), .slice (some ⟨R, d, none⟩) c c] 35)) := below_new _ _
      have hnm := HNM.out
      refine ⟨?_, own_below (own_below HX1.out hY14) hb, own_below (own_below HC1.out hY14) hb, (HF.out.tb.below K4.out).below hb, ?_, ?_, HRT.out.keep (hb.block _ HRT.out.lt), HMon.out, hnm⟩
      · rw [hks.2.2]
        have q0 := heap_last y4 (.cells #[.pointer (some ⟨y4.heap.size, 0, none⟩), .int .i64 A.k, .slice an1 A.nx.length cn1, .slice aa1 A.ac.length ca1, .pointer (some ⟨b, 0, none⟩), .slice (some ⟨g2, 0, none⟩) M.length M.length, .slice (some ⟨g3, 0, none⟩) M.length M.length, .int .i64 A.k, .slice (some ⟨R, 0, none⟩) a a, .int .i64 A.k, .slice (some ⟨R, a, none⟩) a a, .int .i64 (n : Int), .slice (some ⟨R, d, none⟩) c c] 35)
        have e := hnm.1
        rw [q0]
        congr 3
        rw [e]
      · have h24 : Below y2.heap.size y2 y4 := go_on HY3.out HY4.out
        have q0 := HW2.out
        rw [hnm.1] at q0
        exact (q0.keep (h24.block g2 HW2.out.lt)).keep (hb.block g2 (by have := HW2.out.lt; have := h24.size; omega))
      · have q0 := HP3.out
        rw [hnm.1] at q0
        exact (q0.keep (HY4.out.block g3 HP3.out.lt)).keep (hb.block g3 (by have := HP3.out.lt; have := HY4.out.size; omega))
    have HBF : Hid (Below w.heap.size w (y4.alloc (.cells #[.pointer (some ⟨y4.heap.size, 0, none⟩), .int .i64 A.k, .slice an1 A.nx.length cn1, .slice aa1 A.ac.length ca1, .pointer (some ⟨b, 0, none⟩), .slice (some ⟨g2, 0, none⟩) M.length M.length, .slice (some ⟨g3, 0, none⟩) M.length M.length, .int .i64 A.k, .slice (some ⟨R, 0, none⟩) a a, .int .i64 A.k, .slice (some ⟨R, a, none⟩) a a, .int .i64 (n : Int), .slice (some ⟨R, d, none⟩) c c] 35))) := by
      have q := go_on HB1.out K4.out
      exact go_on q (below_new _ _)
    clear S0 hy1 hy2 hy3 hy4
    go_wp2_with fail
    go_ret2
    exact .inr ⟨y4.heap.size, M, N, rfl, HE.out, ⟨_, _, _, _, _, _, _, _, _, _, _, _, _, _, _, _, _, HB1.out.size, HMP.out⟩, HBF.out⟩

/-- What Build answers. -/
def BdB (A : Aut) (w : World) (e : Ending) (w' : World) : Prop :=
  (bdE A ≠ 0 ∧ e = .returned (.tuple #[.pointer none, .int .i64 (bdE A)]) ∧ Below w.heap.size w w') ∨
  ∃ ob M N, e = .returned (.tuple #[.pointer (some ⟨ob, 0, none⟩), .int .i64 0]) ∧ Good A ∧ A.ac.length ≤ 64 ∧ mEl A = some (M, N) ∧ MOb w.heap.size w' ob A M N ∧ Below w.heap.size w w'

theorem build_lows (v : Value) (A : Aut) (w : World) (h : AR w v A) (hm : A.nx.length ≤ 9223372036854775806) (hm2 : A.ac.length ≤ 9223372036854775806) :
    Calls Try.prog 33 #[v] w (BdB A w) := by
  by_cases hE : owE A ByteArray.empty = 0
  · obtain ⟨G, h64⟩ := owE_ok hE
    refine (build_low v A w h G h64).mono ?_
    rintro e w' (⟨hn, rfl, hb⟩ | ⟨ob, M, N, rfl, he, hmo, hb⟩)
    · have e1 : bdE A = 140 := by unfold bdE; rw [if_pos hE, hn]; rfl
      exact .inl ⟨by rw [e1]; decide, by rw [e1], hb⟩
    · exact .inr ⟨ob, M, N, rfl, G, h64, he, hmo, hb⟩
  · refine (build_bad v A w h hm hm2 hE).mono ?_
    rintro e w' ⟨rfl, hb⟩
    have e1 : bdE A = owE A ByteArray.empty := by unfold bdE; rw [if_neg hE]
    exact .inl ⟨by rw [e1]; exact hE, by rw [e1], hb⟩

end Go.Proofs.Ytafcejipoioigaa

namespace Go.Proofs.Ytafcejipoioigaa
open Go Go.RowKit Go.Lib Go.Maps
set_option linter.unusedVariables false
attribute [-instance] List.instBEq instBEqProd

theorem bdE_ok {A : Aut} (G : Good A) (h64 : A.ac.length ≤ 64) {M : List (List Nat)} {N : List Nat} (he : mEl A = some (M, N)) : bdE A = 0 := by
  unfold bdE
  rw [if_pos (owE_good G h64), he]
  rfl

theorem results_tmp4 {fn : Func} {t u v x : Tmp} (h : fn.results = #[.tmp t, .tmp u, .tmp v, .tmp x]) (tmps : Array Value) (P : Program) (w : World) :
    (results fn tmps).run P w = .ok (.tuple #[tmps.getD t undef, tmps.getD u undef, tmps.getD v undef, tmps.getD x undef]) w := by
  simp [results, h]

/-- What Both answers. -/
def BoQ (A : Aut) (w : World) (e : Ending) (w' : World) : Prop :=
  (bdE A ≠ 0 ∧ e = .returned (.tuple #[.pointer none, .pointer none, .bool false, .bool true]) ∧ Below w.heap.size w w') ∨
  ∃ ob rb M N, e = .returned (.tuple #[.pointer (some ⟨ob, 0, none⟩), .pointer (some ⟨rb, 0, none⟩), .bool true, .bool true]) ∧ Good A ∧ A.ac.length ≤ 64 ∧ mEl A = some (M, N) ∧ MO w' ob A M N ∧ RF w' rb A M N ∧ Below w.heap.size w w'

set_option maxHeartbeats 4000000 in
set_option maxRecDepth 100000 in
theorem both14_any (v : Value) (A : Aut) (w : World) (h : AR w v A) (hn : NilOk v) (hm : (A.nx.length + 2) * 8 ≤ 140737488355328) (hm2 : A.ac.length ≤ 140737488355328) :
    Calls Try.prog 11 #[v] w (BoQ A w) := by
  obtain ⟨an, cn, aa, ca, e, h1, h2⟩ := h.is
  have HAR : Hid (∀ w', Below w.heap.size w w' → AR w' v A) := fun w' hb => h.stay hb
  have HLE : Hid (∀ w', Below w.heap.size w w' → Calls Try.prog 39 #[v] w' (LQ A w')) := fun w' hb => lentAuto_any v A w' (h.stay hb) hn hm hm2
  have HRB : Hid (∀ w', Below w.heap.size w w' → Calls Try.prog 40 #[v] w' (RbQ A w')) := fun w' hb => rbuild_any v A w' (h.stay hb) (by omega) (by omega)
  have HNL : Hid (A.nx.length ≤ 9223372036854775806) := by show _ ≤ _; omega
  clear h h1 h2 hn
  subst e
  have R1 : RowAt (w.alloc (.cells #[.int .i64 A.k, .slice an A.nx.length cn, .slice aa A.ac.length ca] 26)) w.heap.size #[.int .i64 A.k, .slice an A.nx.length cn, .slice aa A.ac.length ca] := RowAt.last _ _ _
  have HR1 : Hid (RowAt (w.alloc (.cells #[.int .i64 A.k, .slice an A.nx.length cn, .slice aa A.ac.length ca] 26)) w.heap.size #[.int .i64 A.k, .slice an A.nx.length cn, .slice aa A.ac.length ca]) := R1
  clear R1
  go_enter Try.func11, Try.ntmps11
  go_wp2_with fail
  refine (HLE.out _ (below_new _ _)).mono ?_
  rintro e w1 ⟨g, gc, ba, bc, rfl, hi1, hb1, hl1⟩
  have HI1 : Hid (w1.ownsRow (w.alloc (.cells #[.int .i64 A.k, .slice an A.nx.length cn, .slice aa A.ac.length ca] 26)).heap.size 3 1 (.slice (some ⟨g, 0, none⟩) (A.nx.length + 2) gc) (A.nx.length + 2) (zC (A.nx ++ [-77, -78]))) := hi1
  have HBO : Hid (w1.ownsRow (w.alloc (.cells #[.int .i64 A.k, .slice an A.nx.length cn, .slice aa A.ac.length ca] 26)).heap.size 4 1 (.slice ba A.ac.length bc) A.ac.length (bC A.ac)) := hb1
  have HB1 : Hid (Below w.heap.size w w1) := go_on (below_new _ _) hl1
  have HRA : Hid (RowAt w1 w.heap.size #[.int .i64 A.k, .slice an A.nx.length cn, .slice aa A.ac.length ca]) := HR1.out.stay hl1
  have HG1 : Hid (w.heap.size < g ∧ g < w1.heap.size) := by
    have := hi1.lt g rfl
    simp only [World.size_alloc] at this
    show _ ∧ _
    omega
  have HCS1 : Hid (∃ cs : Array Value, w1.heap[g]? = some (.cells cs 3 (0, 0)) ∧ A.nx.length ≤ cs.size) := by
    rcases hi1.2 with ⟨q, _⟩ | ⟨g', cap, cur, q, r1, r2, r3, r4, r5, r6⟩
    · cases q
    · simp only [Value.slice.injEq, Option.some.injEq, Addr.mk.injEq] at q
      obtain ⟨⟨rfl, _⟩, _, rfl⟩ := q
      exact ⟨cur, r2, by omega⟩
  clear hi1 hb1 hl1 HLE HR1
  obtain ⟨W, hW⟩ : ∃ W, W = w1.alloc (.cells #[.int .i64 A.k, .slice (some ⟨g, 0, none⟩) A.nx.length gc, .slice ba A.ac.length bc] 26) := ⟨_, rfl⟩
  have HWE : Hid (W = w1.alloc (.cells #[.int .i64 A.k, .slice (some ⟨g, 0, none⟩) A.nx.length gc, .slice ba A.ac.length bc] 26)) := hW
  have hWb : Below w1.heap.size w1 W := by rw [hW]; exact below_new _ _
  have HRX : Hid (RowAt W w1.heap.size #[.int .i64 A.k, .slice (some ⟨g, 0, none⟩) A.nx.length gc, .slice ba A.ac.length bc]) := by show RowAt _ _ _; rw [hW]; exact RowAt.last _ _ _
  have HRAW : Hid (RowAt W w.heap.size #[.int .i64 A.k, .slice an A.nx.length cn, .slice aa A.ac.length ca]) := HRA.out.stay hWb
  have HBW : Hid (Below w.heap.size w W) := go_on HB1.out hWb
  have HGL : Hid (g < W.heap.size) := by have := HG1.out; have := hWb.size; show _ < _; omega
  have HX : Hid (∀ y, Below W.heap.size W y → AR y (.agg #[.int .i64 A.k, .slice (some ⟨g, 0, none⟩) A.nx.length gc, .slice ba A.ac.length bc]) A) := fun y hy => ⟨_, _, _, _, rfl, (lent_sr HI1.out).stay (hWb.trans (hy.mono hWb.size)), (own_sr HBO.out).stay (hWb.trans (hy.mono hWb.size))⟩
  have HSTY : Hid (∀ y, Below W.heap.size W y → Calls Try.prog 42 #[.agg #[.int .i64 A.k, .slice (some ⟨g, 0, none⟩) A.nx.length gc, .slice ba A.ac.length bc], .agg #[.int .i64 A.k, .slice an A.nx.length cn, .slice aa A.ac.length ca]] y fun e w' => e = .returned (.bool true) ∧ Below y.heap.size y w') := fun y hy =>
    stay8_any A y _ (HAR.out y (go_on HBW.out hy)) _ g gc ba bc (by omega) (by omega) (own_below (own_below HI1.out hWb) hy) (((own_sr HBO.out).stay hWb).stay hy)
  have HCW : Hid (∀ y, Below W.heap.size W y → ∃ cs : Array Value, y.heap[g]? = some (.cells cs 3 (0, 0)) ∧ A.nx.length ≤ cs.size) := fun y hy => by
    obtain ⟨cs, hc, hs⟩ := HCS1.out
    exact ⟨cs, (hy.block g HGL.out).trans ((hWb.block g HG1.out.2).trans hc), hs⟩
  clear hW hWb HRA HCS1
  go_wp2_with fail
  rw [← HWE.out]
  refine (build_lows _ A _ (HX.out _ (Below.refl _ _)) (by omega) (by omega)).mono ?_
  rintro e w2 (⟨hne, rfl, hb2⟩ | ⟨ob, M, N, rfl, G, h64, hE, hmo, hb2⟩)
  · have HB2 : Hid (Below W.heap.size W w2) := hb2
    have HNE : Hid (bdE A ≠ 0) := hne
    obtain ⟨E, hEE⟩ : ∃ E, bdE A = E := ⟨_, rfl⟩
    have HEE : Hid (bdE A = E) := hEE
    have hE0 : E ≠ 0 := by rw [← hEE]; exact hne
    have cs2 := (HRAW.out.stay hb2).cell
    rw [hEE]
    clear hb2 hne hEE
    go_wp2_with fail
    refine (HRB.out _ (go_on HBW.out HB2.out)).mono ?_
    rintro e w3 (⟨_, rfl, hb3⟩ | ⟨rb, M, N, _, G, h64, hel, _⟩)
    · rw [HEE.out]
      have HB3 : Hid (Below W.heap.size W w3) := go_on HB2.out hb3
      have cs3 := (HRAW.out.stay HB3.out).cell
      have cx3 := (HRX.out.stay HB3.out).cell
      have hq0 : (E == 0) = false := by rw [beq_eq_false_iff_ne]; exact hE0
      have hqd : decide (E = 0) = false := decide_eq_false hE0
      have hqE : (E == E) = true := by simp
      have HNM : Hid (∀ y, Calls Try.prog 41 #[.int .i64 E] y fun e w' => e = .returned (.int .i64 E) ∧ y = w') := fun y => num14_any E y
      clear hb3 hE0 cs2
      go_wp2_with fail
      refine (HNM.out _).mono ?_
      rintro e y3 ⟨rfl, hy3⟩
      subst hy3
      go_wp2_with fail
      refine (HSTY.out _ HB3.out).mono ?_
      rintro e w4 ⟨rfl, hb4⟩
      have HRX4 : Hid (RowAt w4 w1.heap.size #[.int .i64 A.k, .slice (some ⟨g, 0, none⟩) A.nx.length gc, .slice ba A.ac.length bc]) := HRX.out.stay (go_on HB3.out hb4)
      have HB4 : Hid (Below w.heap.size w w4) := go_on (go_on HBW.out HB3.out) hb4
      have HC4 : Hid (∃ cs : Array Value, w4.heap[g]? = some (.cells cs 3 (0, 0)) ∧ A.nx.length ≤ cs.size) := HCW.out _ (go_on HB3.out hb4)
      clear hb4 cs3 cx3 HB3 HB2
      go_wp2_with fail
      go_loopw [12] (fun vi wr => ∃ i : Nat, vi = .int .i64 i ∧ i ≤ A.nx.length ∧ RowAt wr w1.heap.size #[.int .i64 A.k, .slice (some ⟨g, 0, none⟩) A.nx.length gc, .slice ba A.ac.length bc] ∧ Below w.heap.size w wr ∧ (∃ cs : Array Value, wr.heap[g]? = some (.cells cs 3 (0, 0)) ∧ A.nx.length ≤ cs.size) ) (fun vi _ => A.nx.length - (Go.RowKit.intOf vi).toNat)
      case atStart => exact ⟨0, rfl, Nat.zero_le _, HRX4.out, HB4.out, HC4.out⟩
      case round =>
        clear HRX4 HB4 HC4
        obtain ⟨i, rfl, hin, hrx, hb, hc⟩ := hrel
        have HRX : Hid (RowAt wr w1.heap.size #[.int .i64 A.k, .slice (some ⟨g, 0, none⟩) A.nx.length gc, .slice ba A.ac.length bc]) := hrx
        have HB : Hid (Below w.heap.size w wr) := hb
        have HC : Hid (∃ cs : Array Value, wr.heap[g]? = some (.cells cs 3 (0, 0)) ∧ A.nx.length ≤ cs.size) := hc
        have c1 : wr.cell? ⟨w1.heap.size, 1, none⟩ = some (.slice (some ⟨g, 0, none⟩) A.nx.length gc) := hrx.cell 1
        clear hrx hb hc
        have hnl := HNL.out
        by_cases hlt : i < A.nx.length
        · have hiI : (i : Int) < A.nx.length := by omega
          have hid : decide ((i : Int) < A.nx.length) = true := decide_eq_true hiI
          obtain ⟨cs, hcs, hsz⟩ := HC.out
          have hcg : wr.cell? ⟨g, i, none⟩ = some (pvS wr g i) := by unfold pvS; rw [cell_of_row _ _ _ _ _ _ hcs, Array.getElem?_eq_getElem (by omega)]; rfl
          have hfg : wr.frozen? ⟨g, i, none⟩ = false := frozen_blk hcs i
          have HRXN : Hid (RowAt (wr.setCell ⟨g, i, none⟩ (.int .i64 (-5))) w1.heap.size #[.int .i64 A.k, .slice (some ⟨g, 0, none⟩) A.nx.length gc, .slice ba A.ac.length bc]) := rowAt_keep HRX.out (by simp [World.setCell]) (heap_set_other (by have := HG1.out; omega))
          have HBN : Hid (Below w.heap.size w (wr.setCell ⟨g, i, none⟩ (.int .i64 (-5)))) := HB.out.setCell (p := ⟨g, i, none⟩) (by have := HG1.out; show w.heap.size ≤ g; omega) _
          have HCN : Hid (∃ cs : Array Value, (wr.setCell ⟨g, i, none⟩ (.int .i64 (-5))).heap[g]? = some (.cells cs 3 (0, 0)) ∧ A.nx.length ≤ cs.size) := ⟨_, heap_set hcs, by simpa using hsz⟩
          clear hcs hsz
          go_wp2_with fail
          go_roundw
          case rel => exact ⟨i + 1, by go_num, by omega, HRXN.out, HBN.out, HCN.out⟩
          case measure => simp [Go.RowKit.intOf]; omega
        · have hiI : ¬ (i : Int) < A.nx.length := by omega
          have hid : decide ((i : Int) < A.nx.length) = false := decide_eq_false hiI
          go_wp2_with fail
          (try simp only [Exit.inBlock, Exit.then])
          refine bodyPost_ret (results_tmp4 rfl _ _ _) rfl ?_
          exact .inl ⟨HNE.out, rfl, HB.out⟩
    · exact absurd (bdE_ok G h64 hel) HNE.out
  · have HB2 : Hid (Below W.heap.size W w2) := hb2
    have HOK : Hid (Good A ∧ A.ac.length ≤ 64 ∧ mEl A = some (M, N)) := ⟨G, h64, hE⟩
    have HMO2 : Hid (MOb W.heap.size w2 ob A M N) := hmo
    have HS2 : Hid (W.heap.size ≤ w2.heap.size) := hb2.size
    have cs2 := (HRAW.out.stay hb2).cell
    clear hb2 G h64 hE hmo
    go_wp2_with fail
    refine (HRB.out _ (go_on HBW.out HB2.out)).mono ?_
    rintro e w3 (⟨hne, _, _⟩ | ⟨rb, M', N', rfl, G, h64, hel, hrf, hb3⟩)
    · exact absurd (bdE_ok HOK.out.1 HOK.out.2.1 HOK.out.2.2) hne
    · have hMN : M' = M ∧ N' = N := by
        have := HOK.out.2.2
        rw [hel, Option.some.injEq, Prod.mk.injEq] at this
        exact this
      obtain ⟨rfl, rfl⟩ := hMN
      obtain ⟨M, hM⟩ : ∃ z, z = M' := ⟨_, rfl⟩
      obtain ⟨N, hN⟩ : ∃ z, z = N' := ⟨_, rfl⟩
      rw [← hM, ← hN] at HOK HMO2 hrf
      have HB3 : Hid (Below W.heap.size W w3) := go_on HB2.out hb3
      have HMO3 : Hid (MOb W.heap.size w3 ob A M N) := HMO2.out.below hb3
      have HRF3 : Hid (RFb w2.heap.size w3 rb A M N) := hrf
      have cs3 := (HRAW.out.stay HB3.out).cell
      have cx3 := (HRX.out.stay HB3.out).cell
      have HNM : Hid (∀ y, Calls Try.prog 41 #[.int .i64 0] y fun e w' => e = .returned (.int .i64 0) ∧ y = w') := fun y => num14_any 0 y
      clear hb3 cs2 hM hN hrf G h64 hel HMO2
      go_wp2_with fail
      refine (HNM.out _).mono ?_
      rintro e y3 ⟨rfl, hy3⟩
      subst hy3
      go_wp2_with fail
      refine (HSTY.out _ HB3.out).mono ?_
      rintro e w4 ⟨rfl, hb4⟩
      have HRX4 : Hid (RowAt w4 w1.heap.size #[.int .i64 A.k, .slice (some ⟨g, 0, none⟩) A.nx.length gc, .slice ba A.ac.length bc]) := HRX.out.stay (go_on HB3.out hb4)
      have HB4 : Hid (Below w.heap.size w w4) := go_on (go_on HBW.out HB3.out) hb4
      have HC4 : Hid (∃ cs : Array Value, w4.heap[g]? = some (.cells cs 3 (0, 0)) ∧ A.nx.length ≤ cs.size) := HCW.out _ (go_on HB3.out hb4)
      have HMO4 : Hid (MOb W.heap.size w4 ob A M N) := HMO3.out.below hb4
      have HRF4 : Hid (RFb w2.heap.size w4 rb A M N) := HRF3.out.below hb4
      clear hb4 cs3 cx3 HB3 HB2 HMO3 HRF3
      go_wp2_with fail
      go_loopw [12] (fun vi wr => ∃ i : Nat, vi = .int .i64 i ∧ i ≤ A.nx.length ∧ RowAt wr w1.heap.size #[.int .i64 A.k, .slice (some ⟨g, 0, none⟩) A.nx.length gc, .slice ba A.ac.length bc] ∧ Below w.heap.size w wr ∧ (∃ cs : Array Value, wr.heap[g]? = some (.cells cs 3 (0, 0)) ∧ A.nx.length ≤ cs.size) ∧ MOb W.heap.size wr ob A M N ∧ RFb w2.heap.size wr rb A M N ) (fun vi _ => A.nx.length - (Go.RowKit.intOf vi).toNat)
      case atStart => exact ⟨0, rfl, Nat.zero_le _, HRX4.out, HB4.out, HC4.out, HMO4.out, HRF4.out⟩
      case round =>
        clear HRX4 HB4 HC4 HMO4 HRF4
        obtain ⟨i, rfl, hin, hrx, hb, hc, hmo, hrf⟩ := hrel
        have HMO : Hid (MOb W.heap.size wr ob A M N) := hmo
        have HRF : Hid (RFb w2.heap.size wr rb A M N) := hrf
        have HRX : Hid (RowAt wr w1.heap.size #[.int .i64 A.k, .slice (some ⟨g, 0, none⟩) A.nx.length gc, .slice ba A.ac.length bc]) := hrx
        have HB : Hid (Below w.heap.size w wr) := hb
        have HC : Hid (∃ cs : Array Value, wr.heap[g]? = some (.cells cs 3 (0, 0)) ∧ A.nx.length ≤ cs.size) := hc
        have c1 : wr.cell? ⟨w1.heap.size, 1, none⟩ = some (.slice (some ⟨g, 0, none⟩) A.nx.length gc) := hrx.cell 1
        clear hmo hrf
        clear hrx hb hc
        have hnl := HNL.out
        by_cases hlt : i < A.nx.length
        · have hiI : (i : Int) < A.nx.length := by omega
          have hid : decide ((i : Int) < A.nx.length) = true := decide_eq_true hiI
          obtain ⟨cs, hcs, hsz⟩ := HC.out
          have hcg : wr.cell? ⟨g, i, none⟩ = some (pvS wr g i) := by unfold pvS; rw [cell_of_row _ _ _ _ _ _ hcs, Array.getElem?_eq_getElem (by omega)]; rfl
          have hfg : wr.frozen? ⟨g, i, none⟩ = false := frozen_blk hcs i
          have HMN : Hid (MOb W.heap.size (wr.setCell ⟨g, i, none⟩ (.int .i64 (-5))) ob A M N) := HMO.out.set HGL.out hcs
          have HRN : Hid (RFb w2.heap.size (wr.setCell ⟨g, i, none⟩ (.int .i64 (-5))) rb A M N) := HRF.out.set (by have := HGL.out; have := HS2.out; omega)
          have HRXN : Hid (RowAt (wr.setCell ⟨g, i, none⟩ (.int .i64 (-5))) w1.heap.size #[.int .i64 A.k, .slice (some ⟨g, 0, none⟩) A.nx.length gc, .slice ba A.ac.length bc]) := rowAt_keep HRX.out (by simp [World.setCell]) (heap_set_other (by have := HG1.out; omega))
          have HBN : Hid (Below w.heap.size w (wr.setCell ⟨g, i, none⟩ (.int .i64 (-5)))) := HB.out.setCell (p := ⟨g, i, none⟩) (by have := HG1.out; show w.heap.size ≤ g; omega) _
          have HCN : Hid (∃ cs : Array Value, (wr.setCell ⟨g, i, none⟩ (.int .i64 (-5))).heap[g]? = some (.cells cs 3 (0, 0)) ∧ A.nx.length ≤ cs.size) := ⟨_, heap_set hcs, by simpa using hsz⟩
          clear hcs hsz
          go_wp2_with fail
          go_roundw
          case rel => exact ⟨i + 1, by go_num, by omega, HRXN.out, HBN.out, HCN.out, HMN.out, HRN.out⟩
          case measure => simp [Go.RowKit.intOf]; omega
        · have hiI : ¬ (i : Int) < A.nx.length := by omega
          have hid : decide ((i : Int) < A.nx.length) = false := decide_eq_false hiI
          go_wp2_with fail
          (try simp only [Exit.inBlock, Exit.then])
          refine bodyPost_ret (results_tmp4 rfl _ _ _) rfl ?_
          exact .inr ⟨ob, rb, M, N, rfl, HOK.out.1, HOK.out.2.1, HOK.out.2.2, HMO.out.mo, HRF.out.rf, HB.out⟩

end Go.Proofs.Ytafcejipoioigaa

namespace Go.Proofs.Ytafcejipoioigaa
open Go Go.ChangeShapes Go.WideShapes Go.ChangeAt Go.RowKit Go.Deep
set_option linter.unusedVariables false

theorem Try.cells_int1 : Try.prog.cellsOf 3 = 1 := by kernel_rfl
theorem Try.cells_bool1 : Try.prog.cellsOf 4 = 1 := by kernel_rfl
theorem Try.cells_ints1 : Try.prog.cellsOf 23 = 1 := by kernel_rfl
theorem Try.cells_bools1 : Try.prog.cellsOf 24 = 1 := by kernel_rfl
theorem Try.cells_auto : Try.prog.cellsOf 26 = 3 := by kernel_rfl
theorem Try.bytes_int1 : Try.prog.bytesOf 3 = 8 := by kernel_rfl
theorem Try.bytes_bool1 : Try.prog.bytesOf 4 = 1 := by kernel_rfl
theorem Try.laidOut : laidOutB Try.prog = true := by kernel_rfl
theorem vals_at {w : World} {a : Addr} {n : Nat} {f : Nat → Value} (h : ∀ i, i < n → w.cell? (a.add i) = some (f i)) (hp : 0 < n) : ∃ b off, a = ⟨b, off, none⟩ ∧ ∀ j, j < n → w.cell? ⟨b, off + j, none⟩ = some (f j) := by
  obtain ⟨b, off, spot⟩ := a
  have hspot : spot = none := by simpa [Addr.add] using World.cell?_spot (h 0 hp)
  subst hspot
  exact ⟨b, off, rfl, fun j hj => by rw [← Go.WideShapes.add_plain]; exact h j hj⟩

set_option maxRecDepth 100000 in
theorem open_auto {H : Type} {enc : TypeId × Value → H} {w : World} {held : Bool} {r : Reach} {b0 : Nat} {v : Value} {d : DataW H} {ps : List MemPlace} (hval : Value.okWide Try.prog w r b0 26 v) (hd : DataW.Trod enc Try.prog w 0 (fun _ => true) held 26 v d ps) :
    ∃ A : Aut, AR w v A ∧ NilOk v ∧ (Lit.int .i64 A.k).wf = true ∧ ∃ dk dn da, d = .agg [dk, dn, da] ∧ ((dn = .nil ∧ A.nx = []) ∨ ∃ e s, dn = .slice e s ∧ A.nx.length ≤ e.length + s.length) ∧ ((da = .nil ∧ A.ac = []) ∨ ∃ e s, da = .slice e s ∧ A.ac.length ≤ e.length + s.length) := by
  simp only [Value.okWide, Try.underlying26] at hval
  obtain ⟨cs, rfl, hsz, _⟩ := hval
  rw [Try.cells_auto] at hsz
  obtain ⟨fuel, hf⟩ := hd
  obtain ⟨y0, y1, y2, m, hx, _, h0, h1, h2⟩ := trod_struct3 Try.underlying26 hf
  obtain ⟨c0, c1, c2, hcs⟩ : ∃ c0 c1 c2, cs = #[c0, c1, c2] := ⟨cs[0], cs[1], cs[2], by
    apply Array.ext_getElem?
    intro i
    have : i = 0 ∨ i = 1 ∨ i = 2 ∨ 3 ≤ i := by omega
    rcases this with rfl | rfl | rfl | hi
    · simp [hsz]
    · simp [hsz]
    · simp [hsz]
    · rw [Array.getElem?_eq_none (by omega), Array.getElem?_eq_none (by simp; omega)]⟩
  subst hcs
  simp only [Try.cells_int1, Try.cells_ints1, Try.cells_bools1, Value.cells] at h0 h1 h2
  obtain ⟨k, ek, xk, wk⟩ := DataW.trod_int Try.underlying3 h0
  simp at ek
  subst ek
  simp only [Prod.mk.injEq] at hx
  obtain ⟨nx, an, cn, e1, s1, n1, d1⟩ : ∃ (nx : List Int) (an : Option Addr) (cn : Nat), c1 = .slice an nx.length cn ∧ SR w an (zC nx) ∧ (an = none → cn = 0) ∧ ((y1.1 = .nil ∧ nx = []) ∨ ∃ e s, y1.1 = .slice e s ∧ nx.length ≤ e.length + s.length) := by
    rcases open_ints Try.underlying23 Try.underlying3 Try.cells_int1 h1 with ⟨hc, hx1⟩ | ⟨a', len', cap', zs, hc, _, hl, _, hzl, hx1, hcells, _⟩
    · simp at hc
      subst hc
      exact ⟨[], none, 0, rfl, SR.nil _ _, fun _ => rfl, .inl ⟨by rw [hx1], rfl⟩⟩
    · simp at hc
      subst hc
      have hle : len' ≤ zs.length := by
        rw [hzl]
        split <;> omega
      refine ⟨zs.take len', some a', cap', by rw [List.length_take, Nat.min_eq_left hle], ?_, (fun h => by cases h), .inr ⟨_, _, by rw [hx1], ?_⟩⟩
      · intro i u hi
        have hi' : i < len' := by
          have := (List.getElem?_eq_some_iff.1 hi).1
          simp [zC] at this
          omega
        obtain ⟨b, off, rfl, hc⟩ := ints_at hcells (by omega)
        have hh := hc i (by omega)
        refine ⟨b, off, rfl, World.block_lt_of_cell? w _ hh, ?_⟩
        rw [hh, ← hi]
        simp [zC, List.getD_eq_getElem?_getD, hi', List.getElem?_eq_getElem (show i < zs.length by omega)]
      · simp [lits]
  obtain ⟨ac, aa, ca, e2, s2, n2, d2⟩ : ∃ (ac : List Bool) (aa : Option Addr) (ca : Nat), c2 = .slice aa ac.length ca ∧ SR w aa (bC ac) ∧ (aa = none → ca = 0) ∧ ((y2.1 = .nil ∧ ac = []) ∨ ∃ e s, y2.1 = .slice e s ∧ ac.length ≤ e.length + s.length) := by
    rcases open_bools Try.underlying24 Try.underlying4 Try.cells_bool1 h2 with ⟨hc, hx1⟩ | ⟨a', len', cap', B, hc, _, hl, _, hx1, hcells⟩
    · simp at hc
      subst hc
      exact ⟨[], none, 0, rfl, SR.nil _ _, fun _ => rfl, .inl ⟨by rw [hx1], rfl⟩⟩
    · simp at hc
      subst hc
      refine ⟨(List.range len').map B, some a', cap', by simp, ?_, (fun h => by cases h), .inr ⟨_, _, by rw [hx1]; rfl, by simp⟩⟩
      intro i u hi
      have hi' : i < len' := by
        have := (List.getElem?_eq_some_iff.1 hi).1
        simp [bC] at this
        omega
      obtain ⟨b, off, rfl, hc⟩ := vals_at (n := cap') (f := fun i => .bool (B i)) hcells (by omega)
      have hh := hc i (by omega)
      refine ⟨b, off, rfl, World.block_lt_of_cell? w _ hh, ?_⟩
      rw [hh, ← hi]
      simp [bC, hi']
  subst e1 e2
  exact ⟨⟨k, nx, ac⟩, ⟨an, cn, aa, ca, rfl, s1, s2⟩, fun k' an' n' cn' aa' m' ca' e => by simp at e; obtain ⟨_, ⟨rfl, _, rfl⟩, rfl, _, rfl⟩ := e; exact ⟨n1, n2⟩, wk, _, _, _, hx.1, d1, d2⟩
theorem sized_auto {H : Type} {ts : List TypeId} {ds : List (DataW H)} (h : (DataW.weightsEach Try.prog ts ds).all (· ≤ reachBytes) = true) {j : Nat} {dk dn da : DataW H} (ht : ts[j]? = some 26) (hd : ds[j]? = some (.agg [dk, dn, da])) :
    (∀ e s, dn = .slice e s → (e.length + s.length) * 8 ≤ reachBytes) ∧ (∀ e s, da = .slice e s → e.length + s.length ≤ reachBytes) := by
  constructor
  · intro e s he
    subst he
    have := List.all_eq_true.1 h _ (DataW.weights_mem_each ht hd ((e.length + s.length) * 8) (by simp [DataW.weights, DataW.weightsEach, Try.underlying26, Try.underlying23, Try.bytes_int1]))
    simpa using this
  · intro e s he
    subst he
    have := List.all_eq_true.1 h _ (DataW.weights_mem_each ht hd ((e.length + s.length) * 1) (by simp [DataW.weights, DataW.weightsEach, Try.underlying26, Try.underlying24, Try.bytes_bool1]))
    simpa using this
/-- The lists' lengths, by the form's own reach. -/
theorem auto_bounds {H : Type} {ts : List TypeId} {ds : List (DataW H)} (h : (DataW.weightsEach Try.prog ts ds).all (· ≤ reachBytes) = true) {j : Nat} {dk dn da : DataW H} (ht : ts[j]? = some 26) (hd : ds[j]? = some (.agg [dk, dn, da])) {A : Aut}
    (h1 : (dn = .nil ∧ A.nx = []) ∨ ∃ e s, dn = .slice e s ∧ A.nx.length ≤ e.length + s.length) (h2 : (da = .nil ∧ A.ac = []) ∨ ∃ e s, da = .slice e s ∧ A.ac.length ≤ e.length + s.length) :
    (A.nx.length + 2) * 8 ≤ 140737488355328 ∧ A.ac.length ≤ 140737488355328 := by
  obtain ⟨b1, b2⟩ := sized_auto h ht hd
  constructor
  · rcases h1 with ⟨_, e⟩ | ⟨e, s, he, hl⟩
    · rw [e]; decide
    · have := b1 e s he
      simp only [reachBytes] at this
      omega
  · rcases h2 with ⟨_, e⟩ | ⟨e, s, he, hl⟩
    · rw [e]; decide
    · have := b2 e s he
      simp only [reachBytes] at this
      omega
end Go.Proofs.Ytafcejipoioigaa

namespace Go.Proofs.Ytafcejipoioigaa
set_option linter.unusedVariables false

/-- First places rise. -/
theorem Mon.first {A : Aut} {M : List (List Nat)} {N : List Nat} (h : Mon A M N) {j : Nat} (h0 : 0 < j) (hj : j < M.length) : N[N.idxOf j]? = some j ∧ N.idxOf j / A.k.toNat < j ∧ ∀ q i, q < N.idxOf j → N[q]? = some i → i < j := by
  obtain ⟨p, hp, hq, hr⟩ := h.bi.fresh j h0 hj
  have e := idxOf_first hp (fun q hqp e => by have := hr q j hqp e; omega)
  rw [e]
  exact ⟨hp, hq, hr⟩
theorem slt_trans {u v w : List Nat} (h : slt u v) (g : slt v w) : slt u w := by
  refine ⟨sle_trans h.1 g.1, fun e => ?_⟩
  subst e
  exact h.2 (sle_anti h.1 g.1)
theorem slt_le {u v w : List Nat} (h : slt u v) (g : sle v w) : slt u w := by
  refine ⟨sle_trans h.1 g, fun e => ?_⟩
  subst e
  exact h.2 (sle_anti h.1 g)
theorem Mon.rise {A : Aut} {M : List (List Nat)} {N : List Nat} (h : Mon A M N) : ∀ j, j < M.length → ∀ i, i < j → slt (Go.Proofs.Ytafcejipoioigaa.lw A.k.toNat N i) (Go.Proofs.Ytafcejipoioigaa.lw A.k.toNat N j) := by
  intro j
  induction j using Nat.strongRecOn with
  | _ j ih =>
    intro hj i hij
    obtain ⟨a1, a2, a3⟩ := h.first (by omega) hj
    rw [lw_step h.fst (s := j) (by omega) hj]
    by_cases e : i = 0
    · subst e
      rw [lw_zero]
      exact slt_nil _ _
    · obtain ⟨b1, b2, b3⟩ := h.first (j := i) (by omega) (by omega)
      have hlt : N.idxOf i < N.idxOf j := by
        by_cases q : N.idxOf i < N.idxOf j
        · exact q
        · by_cases q2 : N.idxOf i = N.idxOf j
          · rw [q2, a1] at b1; simp at b1; omega
          · have := b3 _ _ (show N.idxOf j < N.idxOf i by omega) a1
            omega
      rw [lw_step h.fst (s := i) (by omega) (by omega)]
      have hd : N.idxOf i / A.k.toNat ≤ N.idxOf j / A.k.toNat := Nat.div_le_div_right (Nat.le_of_lt hlt)
      by_cases c : N.idxOf i / A.k.toNat = N.idxOf j / A.k.toNat
      · rw [c]
        apply slt_letter
        have e1 := Nat.div_add_mod (N.idxOf i) A.k.toNat
        have e2 := Nat.div_add_mod (N.idxOf j) A.k.toNat
        rw [c] at e1
        omega
      · exact slt_snoc (ih _ a2 (by omega) _ (by omega)) _ _
/-- A letter behind an element: no later word. -/
theorem Mon.step_le {A : Aut} {M : List (List Nat)} {N : List Nat} (h : Mon A M N) {x c : Nat} (hx : x < M.length) (hc : c < A.k.toNat) : sle (Go.Proofs.Ytafcejipoioigaa.lw A.k.toNat N (N.getD (x * A.k.toNat + c) 0)) (Go.Proofs.Ytafcejipoioigaa.lw A.k.toNat N x ++ [c]) := by
  obtain ⟨l, _, h2, hp⟩ := h.at hx hc
  obtain ⟨j, hj⟩ : ∃ j, N.getD (x * A.k.toNat + c) 0 = j := ⟨_, rfl⟩
  rw [hj] at h2 ⊢
  have hjl := (List.getElem?_eq_some_iff.1 h2).1
  by_cases e : j = 0
  · subst e; rw [lw_zero]; exact sle_nil _
  · obtain ⟨a1, a2, a3⟩ := h.first (j := j) (by omega) hjl
    have hle : N.idxOf j ≤ x * A.k.toNat + c := by
      by_cases q : N.idxOf j ≤ x * A.k.toNat + c
      · exact q
      · have hn : N[x * A.k.toNat + c]? = some j := by rw [← hj, List.getElem?_eq_getElem hp, getD_of (List.getElem?_eq_getElem hp)]
        have := a3 _ _ (by omega) hn
        omega
    rw [lw_step h.fst (s := j) (by omega) hjl]
    have e1 : (x * A.k.toNat + c) / A.k.toNat = x := by rw [Nat.mul_comm, Nat.mul_add_div (by omega), Nat.div_eq_of_lt hc]; rfl
    have e2 : (x * A.k.toNat + c) % A.k.toNat = c := by rw [Nat.mul_comm, Nat.mul_add_mod, Nat.mod_eq_of_lt hc]
    have hd : N.idxOf j / A.k.toNat ≤ x := by rw [← e1]; exact Nat.div_le_div_right hle
    by_cases q : N.idxOf j / A.k.toNat = x
    · rw [q]
      have e3 := Nat.div_add_mod (N.idxOf j) A.k.toNat
      rw [q] at e3
      by_cases q2 : N.idxOf j % A.k.toNat = c
      · rw [q2]; exact sle_refl _
      · refine (slt_letter _ ?_).1
        have : A.k.toNat * x = x * A.k.toNat := Nat.mul_comm _ _
        omega
    · exact (slt_snoc (h.rise x hx _ (by omega)) _ _).1
theorem snoc_ind {p : List Nat → Prop} (h0 : p []) (h1 : ∀ u c, p u → p (u ++ [c])) : ∀ u, p u := by
  intro u
  have : ∀ n u, u.length = n → p u := by
    intro n
    induction n with
    | zero => intro u hu; rw [List.length_eq_zero_iff.1 hu]; exact h0
    | succ n ih =>
      intro u hu
      have hne : u ≠ [] := by intro e; rw [e] at hu; simp at hu
      rw [← List.dropLast_concat_getLast hne]
      exact h1 _ _ (ih _ (by simp; omega))
  exact this _ u rfl
/-- No word ahead of an element's least word has that element. -/
theorem Mon.least {A : Aut} {M : List (List Nat)} {N : List Nat} (h : Mon A M N) : ∀ u, Lt A.k.toNat u → sle (Go.Proofs.Ytafcejipoioigaa.lw A.k.toNat N (mr A.k.toNat N 0 u)) u := by
  apply snoc_ind
  · intro _
    rw [mr_nil, lw_zero]
    exact sle_refl _
  · intro u c ih hu
    have := ih hu.left
    rw [mr_app, mr_one]
    exact sle_trans (h.step_le (h.lt hu.left h.pos) (hu.right c (by simp))) (sle_app this _)
theorem lxl_pre (a : List Nat) : ∀ {u v : List Nat}, lxl u v → lxl (a ++ u) (a ++ v) := by
  intro u v h
  exact lxl_app u v rfl (lxl_refl a) (fun _ => h)
theorem sle_pre (a : List Nat) {u v : List Nat} (h : sle u v) : sle (a ++ u) (a ++ v) := by
  rcases h with h | ⟨h, g⟩
  · exact .inl (by simp; omega)
  · exact .inr ⟨by simp; omega, lxl_pre a g⟩
/-- Pieces of least words are least words. -/
theorem Mon.piece {A : Aut} {M : List (List Nat)} {N : List Nat} (h : Mon A M N) {x : Nat} (hx : x < M.length) {a b c : List Nat} (e : Go.Proofs.Ytafcejipoioigaa.lw A.k.toNat N x = a ++ b ++ c) : Go.Proofs.Ytafcejipoioigaa.lw A.k.toNat N (mr A.k.toNat N 0 b) = b := by
  obtain ⟨hl, hw⟩ := h.lw x hx
  rw [e] at hl hw
  have hb : Lt A.k.toNat b := hl.left.right
  have hv := h.least b hb
  obtain ⟨hvl, hvw⟩ := h.lw _ (h.lt hb h.pos)
  obtain ⟨v, hvE⟩ : ∃ v, Go.Proofs.Ytafcejipoioigaa.lw A.k.toNat N (mr A.k.toNat N 0 b) = v := ⟨_, rfl⟩
  rw [hvE] at hv hvl hvw ⊢
  have hs : mr A.k.toNat N 0 (a ++ v ++ c) = x := by
    rw [mr_app, mr_app, ← hw, mr_app, mr_app]
    congr 1
    rw [← h.mr_pr (h.lt hl.left.left h.pos) hvl, ← h.mr_pr (h.lt hl.left.left h.pos) hb, hvw]
  have h1 := h.least (a ++ v ++ c) ((hl.left.left.app hvl).app hl.right)
  rw [hs, e] at h1
  have h2 : sle (a ++ v ++ c) (a ++ b ++ c) := sle_app (sle_pre a hv) c
  have := sle_anti h2 h1
  rw [List.append_left_inj, List.append_right_inj] at this
  exact this
end Go.Proofs.Ytafcejipoioigaa

namespace Go.Proofs.Ytafcejipoioigaa
set_option linter.unusedVariables false

theorem least_of {p : Nat → Prop} (h : ∃ n, p n) : ∃ n, p n ∧ ∀ m, m < n → ¬ p m := by
  obtain ⟨n, hn⟩ := h
  induction n using Nat.strongRecOn with
  | _ n ih =>
    by_cases c : ∃ m, m < n ∧ p m
    · obtain ⟨m, hm, hp⟩ := c
      exact ih m hm hp
    · exact ⟨n, hn, fun m hm hp => c ⟨m, hm, hp⟩⟩

/-- Each point has its tail and its ring. -/
theorem tr_ex {f : Nat → Nat} {n i : Nat} (h : ∀ i, i < n → f i < n) (hi : i < n) : ∃ t r, TR f i t r := by
  have h1 : ∃ b, ∃ a, a < b ∧ orb f i a = orb f i b := by
    apply Classical.byContradiction
    intro hc
    have := nodup_le n ((List.range (n + 1)).map (orb f i)) (map_nodup (fun a b hab hb e => hc ⟨b, a, hab, e⟩)) (fun x hx => by
      obtain ⟨k, _, rfl⟩ := List.mem_map.1 hx
      exact orb_lt h hi k)
    simp at this
    omega
  obtain ⟨b, ⟨a, hab, e⟩, hm⟩ := least_of h1
  refine ⟨a, b - a, ?_, ?_, by omega⟩
  · intro c d hcd hd q
    exact hm d (by omega) ⟨c, hcd, q⟩
  · rw [show a + (b - a) = b by omega, e]

/-- Multiplying by i from the right. -/
def rm (K : Nat) (N : List Nat) (i : Nat) : Nat → Nat := fun x => pr K N x i

/-- The power n of i. -/
def pwN (K : Nat) (N : List Nat) (i n : Nat) : Nat := orb (rm K N i) 0 n

theorem pwN_zero (K : Nat) (N : List Nat) (i : Nat) : pwN K N i 0 = 0 := rfl

theorem pwN_succ (K : Nat) (N : List Nat) (i n : Nat) : pwN K N i (n + 1) = pr K N (pwN K N i n) i := rfl

theorem Mon.rm_lt {A : Aut} {M : List (List Nat)} {N : List Nat} (h : Mon A M N) {i : Nat} (hi : i < M.length) : ∀ x, x < M.length → rm A.k.toNat N i x < M.length := fun x hx => h.pr_lt hx hi

theorem Mon.pw_lt {A : Aut} {M : List (List Nat)} {N : List Nat} (h : Mon A M N) {i : Nat} (hi : i < M.length) (n : Nat) : pwN A.k.toNat N i n < M.length := orb_lt (h.rm_lt hi) h.pos n

theorem Mon.pw_one {A : Aut} {M : List (List Nat)} {N : List Nat} (h : Mon A M N) {i : Nat} (hi : i < M.length) : pwN A.k.toNat N i 1 = i := h.one_pr hi

theorem Mon.pw_add {A : Aut} {M : List (List Nat)} {N : List Nat} (h : Mon A M N) {i : Nat} (hi : i < M.length) (a : Nat) : ∀ b, pwN A.k.toNat N i (a + b) = Go.Proofs.Ytafcejipoioigaa.pr A.k.toNat N (pwN A.k.toNat N i a) (pwN A.k.toNat N i b)
  | 0 => rfl
  | b + 1 => by rw [← Nat.add_assoc, pwN_succ, h.pw_add hi a b, h.assoc (h.pw_lt hi a) (h.pw_lt hi b) hi, pwN_succ]

theorem Mon.pw_mul {A : Aut} {M : List (List Nat)} {N : List Nat} (h : Mon A M N) {i : Nat} (hi : i < M.length) (a : Nat) : ∀ b, pwN A.k.toNat N (pwN A.k.toNat N i a) b = pwN A.k.toNat N i (a * b)
  | 0 => rfl
  | b + 1 => by rw [pwN_succ, h.pw_mul hi a b, Nat.mul_succ, h.pw_add hi]

theorem Mon.pw_idem {A : Aut} {M : List (List Nat)} {N : List Nat} (h : Mon A M N) {x : Nat} (hx : x < M.length) (e : Go.Proofs.Ytafcejipoioigaa.pr A.k.toNat N x x = x) : ∀ n, 1 ≤ n → pwN A.k.toNat N x n = x
  | 0, h0 => by omega
  | 1, _ => h.pw_one hx
  | n + 2, _ => by rw [pwN_succ, h.pw_idem hx e (n + 1) (by omega), e]

/-- w is the idempotent among i's powers. -/
def OmQ (K : Nat) (N : List Nat) (i w : Nat) : Prop := ∃ n, 1 ≤ n ∧ pwN K N i n = w ∧ pr K N w w = w

theorem Mon.om_uniq {A : Aut} {M : List (List Nat)} {N : List Nat} (h : Mon A M N) {i : Nat} (hi : i < M.length) {x y : Nat} (hx : OmQ A.k.toNat N i x) (hy : OmQ A.k.toNat N i y) : x = y := by
  obtain ⟨n, n1, rfl, hn⟩ := hx
  obtain ⟨m, m1, rfl, hm⟩ := hy
  rw [← h.pw_idem (h.pw_lt hi n) hn m m1, ← h.pw_idem (h.pw_lt hi m) hm n n1, h.pw_mul hi, h.pw_mul hi, Nat.mul_comm]

theorem Mon.om_lt {A : Aut} {M : List (List Nat)} {N : List Nat} (h : Mon A M N) {i : Nat} (hi : i < M.length) {x : Nat} (hx : OmQ A.k.toNat N i x) : x < M.length := by
  obtain ⟨n, _, rfl, _⟩ := hx
  exact h.pw_lt hi n

/-- A power is idempotent just from the index on, at multiples of the period. -/
theorem Mon.idem_iff {A : Aut} {M : List (List Nat)} {N : List Nat} (h : Mon A M N) {i : Nat} (hi : i < M.length) {t r : Nat} (R : TR (rm A.k.toNat N i) 0 t r) (n : Nat) (hn : 1 ≤ n) : Go.Proofs.Ytafcejipoioigaa.pr A.k.toNat N (pwN A.k.toNat N i n) (pwN A.k.toNat N i n) = pwN A.k.toNat N i n ↔ t ≤ n ∧ r ∣ n := by
  rw [← h.pw_add hi]
  exact R.iff n n hn

theorem Mon.om_ex {A : Aut} {M : List (List Nat)} {N : List Nat} (h : Mon A M N) {i : Nat} (hi : i < M.length) : ∃ n, 1 ≤ n ∧ n ≤ M.length ∧ Go.Proofs.Ytafcejipoioigaa.pr A.k.toNat N (pwN A.k.toNat N i n) (pwN A.k.toNat N i n) = pwN A.k.toNat N i n := by
  obtain ⟨t, r, R⟩ := tr_ex (h.rm_lt hi) h.pos
  have hle := R.le (h.rm_lt hi) h.pos
  have hr := R.pos
  by_cases ht : t = 0
  · exact ⟨r, hr, by omega, (h.idem_iff hi R r hr).2 ⟨by omega, Nat.dvd_refl _⟩⟩
  · have e := Nat.mod_add_div (t + r - 1) r
    have hm := Nat.mod_lt (t + r - 1) hr
    refine ⟨r * ((t + r - 1) / r), by omega, by omega, (h.idem_iff hi R _ (by omega)).2 ⟨by omega, Nat.dvd_mul_right _ _⟩⟩

/-- Powers of products, turned about. -/
theorem Mon.pw_turn {A : Aut} {M : List (List Nat)} {N : List Nat} (h : Mon A M N) {i j : Nat} (hi : i < M.length) (hj : j < M.length) : ∀ n, pwN A.k.toNat N (Go.Proofs.Ytafcejipoioigaa.pr A.k.toNat N i j) (n + 1) = Go.Proofs.Ytafcejipoioigaa.pr A.k.toNat N (Go.Proofs.Ytafcejipoioigaa.pr A.k.toNat N i (pwN A.k.toNat N (Go.Proofs.Ytafcejipoioigaa.pr A.k.toNat N j i) n)) j
  | 0 => by rw [h.pw_one (h.pr_lt hi hj)]; rfl
  | n + 1 => by
    have hji := h.pr_lt hj hi
    have hp := h.pw_lt hji n
    rw [pwN_succ, h.pw_turn hi hj n, pwN_succ, h.assoc (h.pr_lt hi hp) hj (h.pr_lt hi hj), ← h.assoc hj hi hj, ← h.assoc (h.pr_lt hi hp) hji hj, ← h.assoc hi hp hji]

theorem Mon.per_dvd {A : Aut} {M : List (List Nat)} {N : List Nat} (h : Mon A M N) {i j : Nat} (hi : i < M.length) (hj : j < M.length) {t r t' r' : Nat} (R : TR (rm A.k.toNat N (Go.Proofs.Ytafcejipoioigaa.pr A.k.toNat N i j)) 0 t r) (R' : TR (rm A.k.toNat N (Go.Proofs.Ytafcejipoioigaa.pr A.k.toNat N j i)) 0 t' r') : r ∣ r' := by
  have e : pwN A.k.toNat N (Go.Proofs.Ytafcejipoioigaa.pr A.k.toNat N i j) (t' + 1 + r') = pwN A.k.toNat N (Go.Proofs.Ytafcejipoioigaa.pr A.k.toNat N i j) (t' + 1) := by
    rw [show t' + 1 + r' = (t' + r') + 1 by omega, h.pw_turn hi hj, h.pw_turn hi hj]
    have : pwN A.k.toNat N (Go.Proofs.Ytafcejipoioigaa.pr A.k.toNat N j i) (t' + r') = pwN A.k.toNat N (Go.Proofs.Ytafcejipoioigaa.pr A.k.toNat N j i) t' := R'.back
    rw [this]
  exact ((R.iff _ _ R'.pos).1 e).2

theorem Mon.per_same {A : Aut} {M : List (List Nat)} {N : List Nat} (h : Mon A M N) {i j : Nat} (hi : i < M.length) (hj : j < M.length) {t r t' r' : Nat} (R : TR (rm A.k.toNat N (Go.Proofs.Ytafcejipoioigaa.pr A.k.toNat N i j)) 0 t r) (R' : TR (rm A.k.toNat N (Go.Proofs.Ytafcejipoioigaa.pr A.k.toNat N j i)) 0 t' r') : r = r' :=
  Nat.dvd_antisymm (h.per_dvd hi hj R R') (h.per_dvd hj hi R' R)

end Go.Proofs.Ytafcejipoioigaa

namespace Go.Proofs.Ytafcejipoioigaa
open Go Go.RowKit Go.Lib Go.Maps
set_option linter.unusedVariables false
attribute [-instance] List.instBEq instBEqProd

theorem SR.nat {w : World} {a : Option Addr} {xs : List Nat} (h : SR w a (nC xs)) {i : Nat} (hi : i < xs.length) : ∃ g o, a = some ⟨g, o, none⟩ ∧ g < w.heap.size ∧ w.cell? ⟨g, o + i, none⟩ = some (.int .i64 ((xs.getD i 0 : Nat) : Int)) :=
  h i _ (by simp [nC, hi, List.getD_eq_getElem?_getD])

/-- The product of elements one behind the other. -/
def prL (K : Nat) (N : List Nat) (L : List Nat) : Nat := L.foldl (pr K N) 0

theorem Mon.prL_lt {A : Aut} {M : List (List Nat)} {N : List Nat} (h : Mon A M N) {L : List Nat} (hL : ∀ x ∈ L, x < M.length) : prL A.k.toNat N L < M.length := by
  unfold prL
  have : ∀ (L : List Nat) (o : Nat), o < M.length → (∀ x ∈ L, x < M.length) → L.foldl (Go.Proofs.Ytafcejipoioigaa.pr A.k.toNat N) o < M.length := by
    intro L
    induction L with
    | nil => intro o ho _; exact ho
    | cons y L ih => intro o ho hL; exact ih _ (h.pr_lt ho (hL y (by simp))) (fun x hx => hL x (by simp [hx]))
  exact this L 0 h.pos hL

set_option maxHeartbeats 1000000 in
set_option maxRecDepth 100000 in
theorem iprod_any {w : World} {ob : Nat} {A : Aut} {M : List (List Nat)} {N : List Nat} (h : MO w ob A M N) (a : Option Addr) (cap : Nat) (L : List Nat) (hL : ∀ x ∈ L, x < M.length) (hS : SR w a (nC L)) (hm : L.length ≤ 9223372036854775806) :
    Calls Try.prog 55 #[.pointer (some ⟨ob, 0, none⟩), .slice a L.length cap] w fun e w' => e = .returned (.int .i64 (prL A.k.toNat N L : Nat)) ∧ Below w.heap.size w w' := by
  have HM : Hid (MO w ob A M N) := h
  have HMon : Hid (Mon A M N) := by
    obtain ⟨_, _, _, _, _, _, _, _, _, _, _, _, _, _, _, _, _, q⟩ := h
    exact q.mon
  have HL : Hid (∀ x ∈ L, x < M.length) := hL
  have HS : Hid (SR w a (nC L)) := hS
  clear h hL hS
  go_enter Try.func55, Try.ntmps55
  go_wp2_with fail
  go_loopw [5, 10] (fun vo vi wr => ∃ i : Nat, i ≤ L.length ∧ vi = .int .i64 i ∧ vo = .int .i64 (prL A.k.toNat N (L.take i) : Nat) ∧ Below w.heap.size w wr) (fun _ vi _ => L.length - (Go.RowKit.intOf vi).toNat)
  case atStart => exact ⟨0, Nat.zero_le _, rfl, rfl, Below.refl _ _⟩
  case round =>
    obtain ⟨i, hi, rfl, rfl, hb⟩ := hrel
    have HB : Hid (Below w.heap.size w wr) := hb
    by_cases hlt : i < L.length
    · have hiI : (i : Int) < L.length := by omega
      obtain ⟨g, o, rfl, _, hc⟩ := (HS.out.stay hb).nat hlt
      obtain ⟨x, hx⟩ : ∃ x, L.getD i 0 = x := ⟨_, rfl⟩
      rw [hx] at hc
      have hxL : L[i]? = some x := by rw [List.getElem?_eq_getElem hlt, ← hx]; simp [hlt]
      have hxl : x < M.length := HL.out x (List.mem_of_getElem? hxL)
      have HT : Hid (pr A.k.toNat N (prL A.k.toNat N (L.take i)) x = prL A.k.toNat N (L.take (i + 1))) := by
        show _ = _
        rw [List.take_add_one, hxL]
        simp [prL]
      obtain ⟨y, hy⟩ : ∃ y, prL A.k.toNat N (L.take i) = y := ⟨_, rfl⟩
      have hyl : y < M.length := by rw [← hy]; exact HMon.out.prL_lt (fun z hz => HL.out z (List.mem_of_mem_take hz))
      rw [hy] at HT ⊢
      have HLT : Hid (i < L.length) := hlt
      clear hb hx hxL hy hlt
      go_wp2_with fail
      refine (mproduct_ok (HM.out.below HB.out) y x hyl hxl).mono ?_
      rintro e w1 ⟨rfl, hb1⟩
      rw [HT.out]
      have HB1 : Hid (Below w.heap.size w w1) := go_on HB.out hb1
      clear hb1 hc
      go_wp2_with fail
      go_roundw
      case rel => exact ⟨i + 1, HLT.out, by go_num, rfl, HB1.out⟩
      case measure => have := HLT.out; simp [Go.RowKit.intOf]; omega
    · have hiI : ¬ (i : Int) < L.length := by omega
      have e : L.take i = L := List.take_of_length_le (by omega)
      rw [e]
      clear hb
      go_wp2_with fail
      go_ret
      exact ⟨rfl, HB.out⟩

theorem sr_new (w : World) (cs : List Nat) (t : Nat) : SR (w.alloc (.cells (nC cs).toArray t)) (some ⟨w.heap.size, 0, none⟩) (nC cs) := by
  intro i u hu
  refine ⟨_, _, rfl, by simp, ?_⟩
  rw [Nat.zero_add, cell_of_row _ _ _ _ _ _ (heap_last w _)]
  simpa using hu

theorem iprod_new {w : World} {ob : Nat} {A : Aut} {M : List (List Nat)} {N : List Nat} (h : MO w ob A M N) (L : List Nat) (hL : ∀ x ∈ L, x < M.length) (hm : L.length ≤ 100) (t : Nat) :
    Calls Try.prog 55 #[.pointer (some ⟨ob, 0, none⟩), .slice (some ⟨w.heap.size, 0, none⟩) L.length L.length] (w.alloc (.cells (nC L).toArray t)) fun e w' => e = .returned (.int .i64 (prL A.k.toNat N L : Nat)) ∧ Below w.heap.size w w' := by
  refine (iprod_any (h.below (below_new _ _)) _ _ L hL (sr_new w L t) (by omega)).mono ?_
  rintro e w1 ⟨rfl, hb⟩
  exact ⟨rfl, go_on (below_new _ _) hb⟩

theorem MO.mon {w : World} {ob : Nat} {A : Aut} {M : List (List Nat)} {N : List Nat} (h : MO w ob A M N) : Mon A M N := by
  obtain ⟨_, _, _, _, _, _, _, _, _, _, _, _, _, _, _, _, _, q⟩ := h
  exact q.mon

/-- Two and three factors. -/
theorem iprod_two {w : World} {ob : Nat} {A : Aut} {M : List (List Nat)} {N : List Nat} (h : MO w ob A M N) (x y : Nat) (hx : x < M.length) (hy : y < M.length) :
    Calls Try.prog 55 #[.pointer (some ⟨ob, 0, none⟩), .slice (some ⟨w.heap.size, 0, none⟩) 2 2] (w.alloc (.cells #[.int .i64 (x : Nat), .int .i64 (y : Nat)] 3)) fun e w' => e = .returned (.int .i64 (pr A.k.toNat N x y : Nat)) ∧ Below w.heap.size w w' := by
  have q := iprod_new h [x, y] (by simp; exact ⟨hx, hy⟩) (by simp) 3
  have e : prL A.k.toNat N [x, y] = pr A.k.toNat N x y := by show pr _ _ (pr _ _ 0 x) y = _; rw [h.mon.one_pr hx]
  rw [e] at q
  exact q

theorem iprod_three {w : World} {ob : Nat} {A : Aut} {M : List (List Nat)} {N : List Nat} (h : MO w ob A M N) (x y z : Nat) (hx : x < M.length) (hy : y < M.length) (hz : z < M.length) :
    Calls Try.prog 55 #[.pointer (some ⟨ob, 0, none⟩), .slice (some ⟨w.heap.size, 0, none⟩) 3 3] (w.alloc (.cells #[.int .i64 (x : Nat), .int .i64 (y : Nat), .int .i64 (z : Nat)] 3)) fun e w' => e = .returned (.int .i64 (pr A.k.toNat N (pr A.k.toNat N x y) z : Nat)) ∧ Below w.heap.size w w' := by
  have q := iprod_new h [x, y, z] (by simp; exact ⟨hx, hy, hz⟩) (by simp) 3
  have e : prL A.k.toNat N [x, y, z] = pr A.k.toNat N (pr A.k.toNat N x y) z := by show pr _ _ (pr _ _ (pr _ _ 0 x) y) z = _; rw [h.mon.one_pr hx]
  rw [e] at q
  exact q

/-- Is it idempotent? -/
def idE (K : Nat) (N : List Nat) (i : Nat) : Bool := decide (pr K N i i = i)

set_option maxHeartbeats 1000000 in
set_option maxRecDepth 100000 in
theorem isIdem_any {w : World} {ob : Nat} {A : Aut} {M : List (List Nat)} {N : List Nat} (h : MO w ob A M N) (i : Nat) (hi : i < M.length) :
    Calls Try.prog 44 #[.pointer (some ⟨ob, 0, none⟩), .int .i64 i] w fun e w' => e = .returned (.bool (idE A.k.toNat N i)) ∧ Below w.heap.size w w' := by
  have HP : Hid _ := iprod_two h i i hi hi
  obtain ⟨p, hp⟩ : ∃ p, pr A.k.toNat N i i = p := ⟨_, rfl⟩
  have HE : Hid (idE A.k.toNat N i = decide ((p : Int) = (i : Int))) := by
    show _ = _
    unfold idE
    rw [hp]
    congr 1
    apply propext
    omega
  rw [hp] at HP
  clear h hp
  go_enter Try.func44, Try.ntmps44
  go_wp2_with fail
  refine Calls.mono HP.out ?_
  rintro e w1 ⟨rfl, hb⟩
  have HB : Hid (Below w.heap.size w w1) := hb
  clear hb
  by_cases c : p = i
  · have c1 : ((p : Int) == (i : Int)) = true := by rw [beq_iff_eq]; omega
    have HE2 : Hid (idE A.k.toNat N i = true) := by show _ = _; rw [HE.out]; exact decide_eq_true (by omega)
    go_wp2_with fail
    go_ret
    exact ⟨by rw [HE2.out]; first | rfl | simp [c], HB.out⟩
  · have c1 : ((p : Int) == (i : Int)) = false := by rw [beq_eq_false_iff_ne]; omega
    have HE2 : Hid (idE A.k.toNat N i = false) := by show _ = _; rw [HE.out]; exact decide_eq_false (by omega)
    go_wp2_with fail
    go_ret
    exact ⟨by rw [HE2.out]; first | rfl | simp [c], HB.out⟩

/-- What check answers of some numbers. -/
def ick (n : Nat) (L : List Int) : Int := if L.all (hasE n) then 0 else 11

set_option maxHeartbeats 1000000 in
set_option maxRecDepth 100000 in
theorem icheck_any {w : World} {ob : Nat} {A : Aut} {M : List (List Nat)} {N : List Nat} (h : MO w ob A M N) (a : Option Addr) (cap : Nat) (L : List Int) (hS : SR w a (zC L)) (hm : L.length ≤ 9223372036854775806) :
    Calls Try.prog 43 #[.pointer (some ⟨ob, 0, none⟩), .slice a L.length cap] w fun e w' => e = .returned (.int .i64 (ick M.length L)) ∧ w = w' := by
  have HM : Hid (MO w ob A M N) := h
  have HS : Hid (SR w a (zC L)) := hS
  have hn0 : ((M.length : Int) == 0) = false := by rw [beq_eq_false_iff_ne]; have := h.mon.pos; omega
  have hn1 : ¬ (M.length : Int) = 0 := by have := h.mon.pos; omega
  have hn2 : ¬ M.length = 0 := by omega
  obtain ⟨n, hn⟩ : ∃ n, M.length = n := ⟨_, rfl⟩
  have HLN : Hid (Calls Try.prog 34 #[.pointer (some ⟨ob, 0, none⟩)] w fun e w' => e = .returned (.int .i64 (n : Nat)) ∧ w = w') := by
    have := mlen_any HM.out
    rw [hn] at this
    exact this
  rw [hn] at hn0 hn1 hn2 ⊢
  clear h hS hn
  go_enter Try.func43, Try.ntmps43
  go_wp2_with fail
  refine HLN.out.mono ?_
  rintro e w1 ⟨rfl, rfl⟩
  go_wp2_with fail
  go_loopw [14] (fun vi wr => ∃ i : Nat, i ≤ L.length ∧ vi = .int .i64 i ∧ (∀ j, j < i → hasE n (L.getD j 0) = true) ∧ wr = w) (fun vi _ => L.length - (Go.RowKit.intOf vi).toNat)
  case atStart => exact ⟨0, Nat.zero_le _, rfl, fun j hj => by omega, rfl⟩
  case round =>
    obtain ⟨i, hi, rfl, hall, rfl⟩ := hrel
    have HA : Hid (∀ j, j < i → hasE n (L.getD j 0) = true) := hall
    clear hall
    by_cases hlt : i < L.length
    · have hiI : (i : Int) < L.length := by omega
      obtain ⟨g, o, rfl, _, hc⟩ := HS.out.int hlt
      have HLT : Hid (i < L.length) := hlt
      obtain ⟨x, hx⟩ : ∃ x, L.getD i 0 = x := ⟨_, rfl⟩
      have HX : Hid (L.getD i 0 = x) := hx
      have hxm : x ∈ L := by
        rw [← hx, List.getD_eq_getElem?_getD, List.getElem?_eq_getElem hlt]
        exact List.getElem_mem hlt
      have HXM : Hid (x ∈ L) := hxm
      rw [hx] at hc
      clear hx hxm hlt
      by_cases h0 : 0 ≤ x
      · have h0d : decide (x < 0) = false := by simpa using h0
        by_cases h1 : x < n
        · have h1d : decide ((n : Int) ≤ x) = false := by simpa using h1
          have h1' : ¬ (n : Int) ≤ x := by omega
          have HH : Hid (hasE n x = true) := decide_eq_true ⟨h0, h1⟩
          go_wp2_with fail
          go_roundw
          case rel =>
            refine ⟨i + 1, HLT.out, by go_num, fun j hj => ?_, trivial⟩
            by_cases e : j = i
            · rw [e, HX.out]; exact HH.out
            · exact HA.out j (by omega)
          case measure => have := HLT.out; simp [Go.RowKit.intOf]; omega
        · have h1d : decide ((n : Int) ≤ x) = true := by simpa using h1
          have h1' : (n : Int) ≤ x := by omega
          have HE : Hid (ick n L = 11) := by
            show _ = _
            unfold ick
            rw [if_neg (fun q => ?_)]
            have := of_decide_eq_true (List.all_eq_true.1 q x HXM.out)
            omega
          go_wp2_with fail
          go_ret
          exact ⟨by rw [HE.out]; rfl, rfl⟩
      · have h0d : decide (x < 0) = true := by simpa using h0
        have h0' : x < 0 := by omega
        have HE : Hid (ick n L = 11) := by
          show _ = _
          unfold ick
          rw [if_neg (fun q => ?_)]
          have := of_decide_eq_true (List.all_eq_true.1 q x HXM.out)
          omega
        go_wp2_with fail
        go_ret
        exact ⟨by rw [HE.out]; rfl, rfl⟩
    · have hiI : ¬ (i : Int) < L.length := by omega
      have HE : Hid (ick n L = 0) := by
        show _ = _
        unfold ick
        rw [if_pos]
        rw [List.all_eq_true]
        intro x hx
        obtain ⟨j, hj, rfl⟩ := List.mem_iff_getElem.1 hx
        have := HA.out j (by omega)
        rw [List.getD_eq_getElem?_getD, List.getElem?_eq_getElem hj] at this
        exact this
      go_wp2_with fail
      go_ret
      exact ⟨by rw [HE.out]; rfl, rfl⟩

theorem sr_newZ (w : World) (cs : List Int) (t : Nat) : SR (w.alloc (.cells (zC cs).toArray t)) (some ⟨w.heap.size, 0, none⟩) (zC cs) := by
  intro i u hu
  refine ⟨_, _, rfl, by simp, ?_⟩
  rw [Nat.zero_add, cell_of_row _ _ _ _ _ _ (heap_last w _)]
  simpa using hu

theorem icheck_one {w : World} {ob : Nat} {A : Aut} {M : List (List Nat)} {N : List Nat} (h : MO w ob A M N) (i : Int) :
    Calls Try.prog 43 #[.pointer (some ⟨ob, 0, none⟩), .slice (some ⟨w.heap.size, 0, none⟩) 1 1] (w.alloc (.cells #[.int .i64 i] 3)) fun e w' => e = .returned (.int .i64 (if hasE M.length i = true then 0 else 11)) ∧ w' = w.alloc (.cells #[.int .i64 i] 3) := by
  have q := icheck_any (h.below (below_new _ _)) _ 1 [i] (sr_newZ w [i] 3) (by simp)
  refine q.mono ?_
  rintro e w1 ⟨rfl, rfl⟩
  refine ⟨?_, rfl⟩
  congr 2
  simp [ick]

theorem icheck_none {w : World} {ob : Nat} {A : Aut} {M : List (List Nat)} {N : List Nat} (h : MO w ob A M N) :
    Calls Try.prog 43 #[.pointer (some ⟨ob, 0, none⟩), .slice none 0 0] w fun e w' => e = .returned (.int .i64 0) ∧ w = w' := by
  have q := icheck_any h none 0 [] (SR.nil _ _) (by simp)
  exact q
end Go.Proofs.Ytafcejipoioigaa

namespace Go.Proofs.Ytafcejipoioigaa
open Go Go.RowKit Go.Lib Go.Maps
set_option linter.unusedVariables false
attribute [-instance] List.instBEq instBEqProd

/-- The elements of which something is so. -/
def thL (n : Nat) (P : Nat → Bool) : List Nat := (List.range n).filter P

theorem thL_succ (n : Nat) (P : Nat → Bool) : thL (n + 1) P = if P n = true then thL n P ++ [n] else thL n P := by
  unfold thL
  rw [List.range_succ, List.filter_append]
  split <;> simp_all

theorem thL_len (n : Nat) (P : Nat → Bool) : (thL n P).length ≤ n := by
  have := List.length_filter_le P (List.range n)
  simpa [thL] using this

theorem mem_thL {n i : Nat} {P : Nat → Bool} : i ∈ thL n P ↔ i < n ∧ P i = true := by simp [thL]

/-- A list of elements that is the caller's own. -/
def OwnN (w : World) (base : Nat) (v : Value) (L : List Nat) : Prop := w.ownsRow base 3 1 v L.length (nC L)

set_option maxHeartbeats 2000000 in
set_option maxRecDepth 100000 in
theorem those_any {w : World} {ob : Nat} {A : Aut} {M : List (List Nat)} {N : List Nat} (h : MO w ob A M N) (nf : Nat) (fc : Array Value) (P : Nat → Bool)
    (eN : ∀ args w, (callFunc nf args).run Try.prog w = .ok (.enter nf args) w)
    (hN : ∀ y i, Below w.heap.size w y → i < M.length → Calls Try.prog nf (#[.int .i64 (i : Nat)] ++ fc) y fun e y' => e = .returned (.bool (P i)) ∧ Below y.heap.size y y') :
    Calls Try.prog 47 #[.pointer (some ⟨ob, 0, none⟩), .func (.func nf) #[] fc] w fun e w' => ∃ v, e = .returned v ∧ OwnN w' w.heap.size v (thL M.length P) ∧ Below w.heap.size w w' := by
  have HM : Hid (MO w ob A M N) := h
  have HN : Hid (∀ y i, Below w.heap.size w y → i < M.length → Calls Try.prog nf (#[.int .i64 (i : Nat)] ++ fc) y fun e y' => e = .returned (.bool (P i)) ∧ Below y.heap.size y y') := hN
  have hn5 := h.mon.most
  obtain ⟨i0, hi0, hz0, hz1, hz2⟩ := info_parts Try.info_int
  clear h hN
  go_enter Try.func47, Try.ntmps47
  go_wp2_with fail
  refine (mlen_any HM.out).mono ?_
  rintro e w1 ⟨rfl, rfl⟩
  go_wp2_with fail
  go_loopw [5, 9] (fun vo vi wr => ∃ (i : Nat) (oa : Option Addr) (oc : Nat), i ≤ M.length ∧ vi = .int .i64 i ∧ vo = .slice oa (thL i P).length oc ∧ OwnN wr w.heap.size (.slice oa (thL i P).length oc) (thL i P) ∧ Below w.heap.size w wr) (fun _ vi _ => M.length - (Go.RowKit.intOf vi).toNat)
  case atStart => exact ⟨0, none, 0, Nat.zero_le _, rfl, rfl, World.ownsRow_nil _ _ _ _, Below.refl _ _⟩
  case round =>
    obtain ⟨i, oa, oc, hi, rfl, rfl, ho, hb⟩ := hrel
    have HO : Hid (OwnN wr w.heap.size (.slice oa (thL i P).length oc) (thL i P)) := ho
    have HB : Hid (Below w.heap.size w wr) := hb
    have hll := thL_len i P
    clear hb ho
    by_cases hlt : i < M.length
    · have hiI : (i : Int) < M.length := by omega
      have HLT : Hid (i < M.length) := hlt
      clear hlt
      go_wp2_with fail
      refine (HN.out wr i HB.out HLT.out).mono ?_
      rintro e w2 ⟨rfl, hb2⟩
      have HB2 : Hid (Below w.heap.size w w2) := go_on HB.out hb2
      have HO2 : Hid (OwnN w2 w.heap.size (.slice oa (thL i P).length oc) (thL i P)) := own_below HO.out hb2
      have hs2 := HB2.out.size
      clear hb2
      cases hP : P i with
      | false =>
        have HT : Hid (thL (i + 1) P = thL i P) := by show _ = _; rw [thL_succ, hP]; rfl
        clear hP
        go_wp2_with fail
        go_roundw
        case rel => exact ⟨i + 1, oa, oc, HLT.out, by go_num, by rw [HT.out], by rw [HT.out]; exact HO2.out, HB2.out⟩
        case measure => have := HLT.out; simp [Go.RowKit.intOf]; omega
      | true =>
        have HT : Hid (thL (i + 1) P = thL i P ++ [i]) := by show _ = _; rw [thL_succ, hP]; rfl
        clear hP
        go_wp2_with (first
          | (at_builtin; refine wpList_append_own_at _ rfl _ _ 23 rfl w.heap.size 3 i0 (.int .i64 0) 1 8 Try.underlying23 hi0 hz0 hz1 hz2 rfl (by decide) _ _ _ rfl (World.ownsRow.alloc HO2.out _) ⟨w2.heap.size, 0, none⟩ 1 1 [.int .i64 (i : Int)] rfl rfl (cell_one_new _ _ _) (by intro u hu; simp at hu; subst hu; rfl) (by unfold maxLen; omega) (by omega) (by simp; omega) ?_; intro v' w4 hown' hgrow _ hloc))
        have HB4 : Hid (Below w.heap.size w w4) := (go_on HB2.out (below_new _ _)).grown hgrow (by simp; omega) (fun k hk => (own_blk HO2.out hk).1)
        obtain ⟨oa4, oc4, hsh⟩ := own_shape hown'
        have HO4 : Hid (OwnN w4 w.heap.size v' (thL (i + 1) P)) := by
          show OwnN _ _ _ _
          rw [HT.out]
          unfold OwnN
          rw [nC_append, List.length_append]
          exact hown'
        have HSH : Hid (v' = .slice oa4 (thL (i + 1) P).length oc4) := by show _ = _; rw [HT.out, List.length_append]; exact hsh
        clear hown' hgrow hloc hsh
        go_roundw
        case rel => exact ⟨i + 1, oa4, oc4, HLT.out, by go_num, HSH.out, by have q := HO4.out; rw [HSH.out] at q; exact q, HB4.out⟩
        case measure => have := HLT.out; simp [Go.RowKit.intOf]; omega
    · have hiI : ¬ (i : Int) < M.length := by omega
      have e : i = M.length := by omega
      have HE : Hid (i = M.length) := e
      clear e
      go_wp2_with fail
      go_ret
      exact ⟨_, rfl, by rw [← HE.out]; exact HO.out, HB.out⟩

set_option maxHeartbeats 1000000 in
set_option maxRecDepth 100000 in
theorem list1_any {w : World} {ob : Nat} {A : Aut} {M : List (List Nat)} {N : List Nat} (h : MO w ob A M N) (b : Nat) (hc : w.cell? ⟨b, 0, none⟩ = some (.pointer (some ⟨ob, 0, none⟩))) (i : Nat) (hi : i < M.length) :
    Calls Try.prog 48 #[.int .i64 (i : Nat), .pointer (some ⟨b, 0, none⟩)] w fun e w' => e = .returned (.bool (idE A.k.toNat N i)) ∧ Below w.heap.size w w' := by
  have HI : Hid _ := isIdem_any h i hi
  clear h
  go_enter Try.func48, Try.ntmps48
  go_wp2_with fail
  refine Calls.mono HI.out ?_
  rintro e w1 ⟨rfl, hb⟩
  have HB : Hid (Below w.heap.size w w1) := hb
  clear hb
  go_wp2_with fail
  go_ret
  exact ⟨rfl, HB.out⟩

/-- What List answers. -/
def LsQ (L : List Nat) (w : World) (e : Ending) (w' : World) : Prop := ∃ v, e = .returned (.tuple #[v, .int .i64 0]) ∧ OwnN w' w.heap.size v L ∧ Below w.heap.size w w'

set_option maxHeartbeats 1000000 in
set_option maxRecDepth 100000 in
theorem iList_any {w : World} {ob : Nat} {A : Aut} {M : List (List Nat)} {N : List Nat} (h : MO w ob A M N) :
    Calls Try.prog 14 #[.pointer (some ⟨ob, 0, none⟩)] w (LsQ (thL M.length (idE A.k.toNat N)) w) := by
  obtain ⟨w0, hw0⟩ : ∃ w0, w0 = w.alloc (.cells #[.pointer (some ⟨ob, 0, none⟩)] 22) := ⟨_, rfl⟩
  have HB0 : Hid (Below w.heap.size w w0) := by show Below _ _ _; rw [hw0]; exact below_new _ _
  have HM : Hid (MO w0 ob A M N) := h.below HB0.out
  have hc0 : w0.cell? ⟨w.heap.size, 0, none⟩ = some (.pointer (some ⟨ob, 0, none⟩)) := by rw [hw0, cell_of_row _ _ _ _ _ _ (heap_last w _)]; rfl
  have HC0 : Hid (w0.cell? ⟨w.heap.size, 0, none⟩ = some (.pointer (some ⟨ob, 0, none⟩))) := hc0
  have HW0 : Hid (w0 = w.alloc (.cells #[.pointer (some ⟨ob, 0, none⟩)] 22)) := hw0
  have hlt0 : w.heap.size < w0.heap.size := by rw [hw0]; simp
  have HT : Hid (Calls Try.prog 47 #[.pointer (some ⟨ob, 0, none⟩), .func (.func 48) #[] #[.pointer (some ⟨w.heap.size, 0, none⟩)]] w0 fun e w' => ∃ v, e = .returned v ∧ OwnN w' w0.heap.size v (thL M.length (idE A.k.toNat N)) ∧ Below w0.heap.size w0 w') :=
    those_any HM.out 48 _ _ (enters_of Try.func48 (by kernel_rfl) rfl) (fun y i hy hi => list1_any (HM.out.below hy) w.heap.size (by rw [below_cellJ hy hlt0]; exact HC0.out) i hi)
  clear h hw0 hc0
  go_enter Try.func14, Try.ntmps14
  go_wp2_with fail
  rw [← HW0.out]
  have hc0 := HC0.out
  go_wp2_with fail
  refine (icheck_none HM.out).mono ?_
  rintro e w1 ⟨rfl, rfl⟩
  go_wp2_with fail
  refine HT.out.mono ?_
  rintro e w1 ⟨v, rfl, ho, hb⟩
  have HO : Hid (OwnN w1 w.heap.size v (thL M.length (idE A.k.toNat N))) := own_mono ho (by omega)
  have HB : Hid (Below w.heap.size w w1) := go_on HB0.out hb
  clear ho hb hc0
  go_wp2_with fail
  go_ret2
  exact ⟨_, rfl, HO.out, HB.out⟩

/-- What Idempotent answers. -/
def ipV (K n : Nat) (N : List Nat) (i : Int) : Value := if hasE n i = true then .tuple #[.bool (idE K N i.toNat), .int .i64 0] else .tuple #[.bool false, .int .i64 11]

set_option maxHeartbeats 1000000 in
set_option maxRecDepth 100000 in
theorem iIdem_any {w : World} {ob : Nat} {A : Aut} {M : List (List Nat)} {N : List Nat} (h : MO w ob A M N) (i : Int) :
    Calls Try.prog 12 #[.pointer (some ⟨ob, 0, none⟩), .int .i64 i] w fun e w' => e = .returned (ipV A.k.toNat M.length N i) ∧ Below w.heap.size w w' := by
  have HM : Hid (MO w ob A M N) := h
  have HC : Hid _ := icheck_one h i
  have HB1 : Hid (Below w.heap.size w (w.alloc (.cells #[.int .i64 i] 3))) := below_new _ _
  unfold ipV
  by_cases hh : hasE M.length i = true
  · obtain ⟨j, rfl⟩ : ∃ j : Nat, i = (j : Int) := ⟨i.toNat, by have := of_decide_eq_true hh; omega⟩
    have hj : j < M.length := by have := of_decide_eq_true hh; omega
    have HI : Hid _ := isIdem_any (h.below (below_new w (.cells #[.int .i64 (j : Int)] 3))) j hj
    rw [if_pos hh] at HC ⊢
    rw [show ((j : Int)).toNat = j by omega]
    clear h hh
    go_enter Try.func12, Try.ntmps12
    go_wp2_with fail
    refine Calls.mono HC.out ?_
    rintro e w1 ⟨rfl, rfl⟩
    go_wp2_with fail
    refine Calls.mono HI.out ?_
    rintro e w2 ⟨rfl, hb⟩
    have HB : Hid (Below w.heap.size w w2) := go_on HB1.out hb
    clear hb
    go_wp2_with fail
    go_ret2
    exact ⟨rfl, HB.out⟩
  · rw [if_neg hh] at HC ⊢
    clear h hh
    go_enter Try.func12, Try.ntmps12
    go_wp2_with fail
    refine Calls.mono HC.out ?_
    rintro e w1 ⟨rfl, rfl⟩
    go_wp2_with fail
    go_ret2
    exact ⟨rfl, HB1.out⟩
end Go.Proofs.Ytafcejipoioigaa

namespace Go.Proofs.Ytafcejipoioigaa
open Go Go.RowKit Go.Lib Go.Maps
set_option linter.unusedVariables false
attribute [-instance] List.instBEq instBEqProd

theorem RF.mon {w : World} {rb : Nat} {A : Aut} {M : List (List Nat)} {N : List Nat} (h : RF w rb A M N) : Mon A M N := by
  obtain ⟨an, cn, aa, ca, gi, ci, gw, cw, gn, cg, h⟩ := h
  exact h.mon

set_option maxHeartbeats 1000000 in
set_option maxRecDepth 100000 in
theorem ris_any {w : World} {rb : Nat} {A : Aut} {M : List (List Nat)} {N : List Nat} (h : RF w rb A M N) (i : Nat) (hi : i < M.length) :
    Calls Try.prog 46 #[.pointer (some ⟨rb, 0, none⟩), .int .i64 (i : Nat)] w fun e w' => e = .returned (.bool (idE A.k.toNat N i)) ∧ Below w.heap.size w w' := by
  have HT : Hid _ := rtimes_any h i i hi hi
  have HE : Hid (idE A.k.toNat N i = (((pr A.k.toNat N i i : Nat) : Int) == (i : Int))) := by
    show _ = _
    unfold idE
    by_cases e : pr A.k.toNat N i i = i
    · rw [decide_eq_true e, e]; simp
    · rw [decide_eq_false e, Eq.comm, beq_eq_false_iff_ne]; omega
  obtain ⟨p, hp⟩ : ∃ p, pr A.k.toNat N i i = p := ⟨_, rfl⟩
  rw [hp] at HE HT
  clear h hp
  go_enter Try.func46, Try.ntmps46
  go_wp2_with fail
  refine Calls.mono HT.out ?_
  rintro e w1 ⟨rfl, hb⟩
  go_wp2_with fail
  go_ret
  exact ⟨by rw [HE.out]; rfl, hb⟩

theorem hasE_yes {n i : Nat} (h : i < n) : hasE n (i : Int) = true := decide_eq_true ⟨by omega, by omega⟩

set_option maxHeartbeats 1000000 in
set_option maxRecDepth 100000 in
theorem ridem_any {w : World} {rb : Nat} {A : Aut} {M : List (List Nat)} {N : List Nat} (h : RF w rb A M N) (i : Int) :
    Calls Try.prog 13 #[.pointer (some ⟨rb, 0, none⟩), .int .i64 i] w fun e w' => e = .returned (ipV A.k.toNat M.length N i) ∧ Below w.heap.size w w' := by
  by_cases h0 : hasE M.length i = true
  · have C0 : Hid (Calls Try.prog 45 #[.pointer (some ⟨rb, 0, none⟩), .int .i64 i] w fun e w' => e = .returned (.bool true) ∧ w = w') := by have := rhas_any h i; rw [h0] at this; exact this
    have HV : Hid (ipV A.k.toNat M.length N i = .tuple #[.bool (idE A.k.toNat N i.toNat), .int .i64 0]) := by show _ = _; unfold ipV; rw [if_pos h0]
    obtain ⟨k, rfl, hk⟩ := hasE_of h0
    rw [Int.toNat_natCast] at HV
    have HI : Hid _ := ris_any h k hk
    obtain ⟨b, hb⟩ : ∃ b, idE A.k.toNat N k = b := ⟨_, rfl⟩
    rw [hb] at HV HI
    clear h h0 hb
    go_enter Try.func13, Try.ntmps13
    go_wp2_with fail
    refine C0.out.mono ?_
    rintro e w1 ⟨rfl, rfl⟩
    go_wp2_with fail
    refine Calls.mono HI.out ?_
    rintro e w2 ⟨rfl, hb⟩
    go_wp2_with fail
    go_ret2
    exact ⟨by rw [HV.out]; rfl, hb⟩
  · have C0 : Hid (Calls Try.prog 45 #[.pointer (some ⟨rb, 0, none⟩), .int .i64 i] w fun e w' => e = .returned (.bool false) ∧ w = w') := by have := rhas_any h i; rw [Bool.eq_false_iff.2 h0] at this; exact this
    have HV : Hid (ipV A.k.toNat M.length N i = .tuple #[.bool false, .int .i64 11]) := by show _ = _; unfold ipV; rw [if_neg h0]
    clear h h0
    go_enter Try.func13, Try.ntmps13
    go_wp2_with fail
    refine C0.out.mono ?_
    rintro e w1 ⟨rfl, rfl⟩
    go_wp2_with fail
    go_ret2
    exact ⟨by rw [HV.out]; rfl, Below.refl _ _⟩

set_option maxHeartbeats 2000000 in
set_option maxRecDepth 100000 in
theorem rlist_any {w : World} {rb : Nat} {A : Aut} {M : List (List Nat)} {N : List Nat} (h : RF w rb A M N) :
    Calls Try.prog 20 #[.pointer (some ⟨rb, 0, none⟩)] w fun e w' => ∃ v, e = .returned v ∧ OwnN w' w.heap.size v (thL M.length (idE A.k.toNat N)) ∧ Below w.heap.size w w' := by
  obtain ⟨P, hP⟩ : ∃ P, P = idE A.k.toNat N := ⟨_, rfl⟩
  have HM : Hid (∀ y, Below w.heap.size w y → RF y rb A M N) := fun y hy => h.below hy
  have HN : Hid (∀ y i, Below w.heap.size w y → i < M.length → Calls Try.prog 46 #[.pointer (some ⟨rb, 0, none⟩), .int .i64 (i : Nat)] y fun e y' => e = .returned (.bool (P i)) ∧ Below y.heap.size y y') := fun y i hy hi => by rw [hP]; exact ris_any (h.below hy) i hi
  have hn5 := h.mon.most
  obtain ⟨i0, hi0, hz0, hz1, hz2⟩ := info_parts Try.info_int
  rw [← hP]
  clear h hP
  go_enter Try.func20, Try.ntmps20
  go_wp2_with fail
  go_loopw [3, 4] (fun vo vi wr => ∃ (i : Nat) (oa : Option Addr) (oc : Nat), i ≤ M.length ∧ vi = .int .i64 i ∧ vo = .slice oa (thL i P).length oc ∧ OwnN wr w.heap.size (.slice oa (thL i P).length oc) (thL i P) ∧ Below w.heap.size w wr) (fun _ vi _ => M.length - (Go.RowKit.intOf vi).toNat)
  case atStart => exact ⟨0, none, 0, Nat.zero_le _, rfl, rfl, World.ownsRow_nil _ _ _ _, Below.refl _ _⟩
  case round =>
    obtain ⟨i, oa, oc, hi, rfl, rfl, ho, hb⟩ := hrel
    have HO : Hid (OwnN wr w.heap.size (.slice oa (thL i P).length oc) (thL i P)) := ho
    have HB : Hid (Below w.heap.size w wr) := hb
    have hll := thL_len i P
    clear hb ho
    by_cases hlt : i < M.length
    · have hiI : (i : Int) < M.length := by omega
      have HLT : Hid (i < M.length) := hlt
      clear hlt
      go_wp2_with fail
      refine (rlen_any (HM.out _ HB.out)).mono ?_
      rintro e w1 ⟨rfl, rfl⟩
      go_wp2_with fail
      refine (HN.out wr i HB.out HLT.out).mono ?_
      rintro e w2 ⟨rfl, hb2⟩
      have HB2 : Hid (Below w.heap.size w w2) := go_on HB.out hb2
      have HO2 : Hid (OwnN w2 w.heap.size (.slice oa (thL i P).length oc) (thL i P)) := own_below HO.out hb2
      have hs2 := HB2.out.size
      clear hb2
      cases hP : P i with
      | false =>
        have HT : Hid (thL (i + 1) P = thL i P) := by show _ = _; rw [thL_succ, hP]; rfl
        clear hP
        go_wp2_with fail
        go_roundw
        case rel => exact ⟨i + 1, oa, oc, HLT.out, by go_num, by rw [HT.out], by rw [HT.out]; exact HO2.out, HB2.out⟩
        case measure => have := HLT.out; simp [Go.RowKit.intOf]; omega
      | true =>
        have HT : Hid (thL (i + 1) P = thL i P ++ [i]) := by show _ = _; rw [thL_succ, hP]; rfl
        clear hP
        go_wp2_with (first
          | (at_builtin; refine wpList_append_own_at _ rfl _ _ 23 rfl w.heap.size 3 i0 (.int .i64 0) 1 8 Try.underlying23 hi0 hz0 hz1 hz2 rfl (by decide) _ _ _ rfl (World.ownsRow.alloc HO2.out _) ⟨w2.heap.size, 0, none⟩ 1 1 [.int .i64 (i : Int)] rfl rfl (cell_one_new _ _ _) (by intro u hu; simp at hu; subst hu; rfl) (by unfold maxLen; omega) (by omega) (by simp; omega) ?_; intro v' w4 hown' hgrow _ hloc))
        have HB4 : Hid (Below w.heap.size w w4) := (go_on HB2.out (below_new _ _)).grown hgrow (by simp; omega) (fun k hk => (own_blk HO2.out hk).1)
        obtain ⟨oa4, oc4, hsh⟩ := own_shape hown'
        have HO4 : Hid (OwnN w4 w.heap.size v' (thL (i + 1) P)) := by
          show OwnN _ _ _ _
          rw [HT.out]
          unfold OwnN
          rw [nC_append, List.length_append]
          exact hown'
        have HSH : Hid (v' = .slice oa4 (thL (i + 1) P).length oc4) := by show _ = _; rw [HT.out, List.length_append]; exact hsh
        clear hown' hgrow hloc hsh
        go_roundw
        case rel => exact ⟨i + 1, oa4, oc4, HLT.out, by go_num, HSH.out, by have q := HO4.out; rw [HSH.out] at q; exact q, HB4.out⟩
        case measure => have := HLT.out; simp [Go.RowKit.intOf]; omega
    · have hiI : ¬ (i : Int) < M.length := by omega
      have e : i = M.length := by omega
      have HE : Hid (i = M.length) := e
      clear e
      go_wp2_with fail
      refine (rlen_any (HM.out _ HB.out)).mono ?_
      rintro e w1 ⟨rfl, rfl⟩
      go_wp2_with fail
      go_ret
      exact ⟨_, rfl, by rw [← HE.out]; exact HO.out, HB.out⟩

set_option maxHeartbeats 2000000 in
set_option maxRecDepth 100000 in
theorem rpower_any {w : World} {rb : Nat} {A : Aut} {M : List (List Nat)} {N : List Nat} (h : RF w rb A M N) (i : Nat) (hi : i < M.length) :
    Calls Try.prog 50 #[.pointer (some ⟨rb, 0, none⟩), .int .i64 (i : Nat)] w fun e w' => (∃ x, e = .returned (.int .i64 (x : Nat)) ∧ OmQ A.k.toNat N i x) ∧ Below w.heap.size w w' := by
  have HM : Hid (∀ y, Below w.heap.size w y → RF y rb A M N) := fun y hy => h.below hy
  have HMon : Hid (Mon A M N) := h.mon
  obtain ⟨E, hE1, _, hE⟩ := h.mon.om_ex hi
  have HE : Hid (pr A.k.toNat N (pwN A.k.toNat N i E) (pwN A.k.toNat N i E) = pwN A.k.toNat N i E) := hE
  have HI : Hid (i < M.length) := hi
  have HP1 : Hid (pwN A.k.toNat N i 1 = i) := h.mon.pw_one hi
  clear h hE hi
  go_enter Try.func50, Try.ntmps50
  go_wp2_with fail
  go_loopg [5] (E) (fun k vx wr => ∃ n x : Nat, 1 ≤ n ∧ n ≤ E ∧ E ≤ n + k ∧ vx = .int .i64 (x : Nat) ∧ pwN A.k.toNat N i n = x ∧ Below w.heap.size w wr)
  case atStart => exact ⟨1, i, Nat.le_refl _, hE1, by omega, rfl, HP1.out, Below.refl _ _⟩
  case round =>
    obtain ⟨n, x, hn1, hnE, hk, rfl, hx, hb⟩ := hrel
    have HX : Hid (pwN A.k.toNat N i n = x) := hx
    have HB : Hid (Below w.heap.size w wr) := hb
    have hxl : x < M.length := by rw [← hx]; exact HMon.out.pw_lt HI.out n
    clear hb hx
    have HIS : Hid _ := ris_any (HM.out _ HB.out) x hxl
    have HTM : Hid (∀ y, Below w.heap.size w y → Calls Try.prog 52 #[.pointer (some ⟨rb, 0, none⟩), .int .i64 (x : Nat), .int .i64 (i : Nat)] y fun e w' => e = .returned (.int .i64 (pr A.k.toNat N x i : Nat)) ∧ Below y.heap.size y w') := fun y hy => rtimes_any (HM.out y hy) x i hxl HI.out
    by_cases hid : pr A.k.toNat N x x = x
    · have HY : Hid (idE A.k.toNat N x = true) := decide_eq_true hid
      have HO : Hid (OmQ A.k.toNat N i x) := ⟨n, hn1, HX.out, hid⟩
      rw [HY.out] at HIS
      clear hid hn1 hnE hk hxl
      go_wp2_with fail
      refine Calls.mono HIS.out ?_
      rintro e w2 ⟨rfl, hb⟩
      have HB2 : Hid (Below w.heap.size w w2) := go_on HB.out hb
      clear hb
      go_wp2_with fail
      go_ret
      exact ⟨⟨x, rfl, HO.out⟩, HB2.out⟩
    · have HN : Hid (idE A.k.toNat N x = false) := decide_eq_false hid
      have HNE : Hid (n ≠ E) := fun e => hid (by rw [← HX.out, e]; exact HE.out)
      have HS : Hid (pwN A.k.toNat N i (n + 1) = pr A.k.toNat N x i) := by show _ = _; rw [pwN_succ, HX.out]
      have HNN : Hid (1 ≤ n ∧ n ≤ E ∧ E ≤ n + gk) := ⟨hn1, hnE, hk⟩
      rw [HN.out] at HIS
      clear hid hn1 hnE hk hxl
      go_wp2_with fail
      refine Calls.mono HIS.out ?_
      rintro e w2 ⟨rfl, hb⟩
      have HB2 : Hid (Below w.heap.size w w2) := go_on HB.out hb
      clear hb
      go_wp2_with fail
      refine (HTM.out _ HB2.out).mono ?_
      rintro e w3 ⟨rfl, hb⟩
      have HB3 : Hid (Below w.heap.size w w3) := go_on HB2.out hb
      clear hb
      go_wp2_with fail
      go_roundg (gk - 1)
      case measure => have := HNN.out; have := HNE.out; omega
      case rel => exact ⟨n + 1, _, by omega, by have := HNN.out; have := HNE.out; omega, by have := HNN.out; have := HNE.out; omega, rfl, HS.out, HB3.out⟩

set_option maxHeartbeats 1000000 in
set_option maxRecDepth 100000 in
theorem romega_any {w : World} {rb : Nat} {A : Aut} {M : List (List Nat)} {N : List Nat} (h : RF w rb A M N) (i : Nat) (hi : i < M.length) :
    Calls Try.prog 16 #[.pointer (some ⟨rb, 0, none⟩), .int .i64 (i : Nat)] w fun e w' => (∃ x, e = .returned (.tuple #[.int .i64 (x : Nat), .int .i64 0]) ∧ OmQ A.k.toNat N i x) ∧ Below w.heap.size w w' := by
  have C0 : Hid (Calls Try.prog 45 #[.pointer (some ⟨rb, 0, none⟩), .int .i64 (i : Nat)] w fun e w' => e = .returned (.bool true) ∧ w = w') := by have := rhas_any h i; rw [hasE_yes hi] at this; exact this
  have HP : Hid _ := rpower_any h i hi
  clear h
  go_enter Try.func16, Try.ntmps16
  go_wp2_with fail
  refine C0.out.mono ?_
  rintro e w1 ⟨rfl, rfl⟩
  go_wp2_with fail
  refine Calls.mono HP.out ?_
  rintro e w2 ⟨⟨x, rfl, hx⟩, hb⟩
  have HO : Hid (OmQ A.k.toNat N i x) := hx
  clear hx
  go_wp2_with fail
  go_ret2
  exact ⟨⟨x, rfl, HO.out⟩, hb⟩

set_option maxHeartbeats 1000000 in
set_option maxRecDepth 100000 in
theorem romega_not {w : World} {rb : Nat} {A : Aut} {M : List (List Nat)} {N : List Nat} (h : RF w rb A M N) (i : Int) (hi : ¬ hasE M.length i = true) :
    Calls Try.prog 16 #[.pointer (some ⟨rb, 0, none⟩), .int .i64 i] w fun e w' => e = .returned (.tuple #[.int .i64 0, .int .i64 11]) ∧ Below w.heap.size w w' := by
  have C0 : Hid (Calls Try.prog 45 #[.pointer (some ⟨rb, 0, none⟩), .int .i64 i] w fun e w' => e = .returned (.bool false) ∧ w = w') := by have := rhas_any h i; rw [Bool.eq_false_iff.2 hi] at this; exact this
  clear h hi
  go_enter Try.func16, Try.ntmps16
  go_wp2_with fail
  refine C0.out.mono ?_
  rintro e w1 ⟨rfl, rfl⟩
  go_wp2_with fail
  go_ret2
  exact ⟨rfl, Below.refl _ _⟩

end Go.Proofs.Ytafcejipoioigaa

namespace Go.Proofs.Ytafcejipoioigaa
open Go Go.RowKit Go.Shelf Go.Lib
set_option linter.unusedVariables false
attribute [-instance] List.instBEq instBEqProd

attribute [local go_sem] Oper.semAt_some

/-- The values of round j. -/
def pwV (K : Nat) (N : List Nat) (i j : Nat) : Array Value := #[.int .i64 (j : Nat), .int .i64 (pwN K N i j : Nat)]

theorem powers_any (ob : Nat) (i : Int) (w : World) : Calls Try.prog 49 #[.pointer (some ⟨ob, 0, none⟩), .int .i64 i] w fun e w' => e = .returned (.func (.func 73) #[] #[.pointer (some ⟨w.heap.size, 0, none⟩), .pointer (some ⟨w.heap.size + 1, 0, none⟩)]) ∧ w' = (w.alloc (.cells #[.pointer (some ⟨ob, 0, none⟩)] 22)).alloc (.cells #[.int .i64 i] 3) := by
  go_enter Try.func49, Try.ntmps49
  go_wp2_with fail
  go_ret
  exact ⟨rfl, rfl⟩

set_option maxRecDepth 100000 in
set_option maxHeartbeats 2000000 in
theorem powers_at (n : Nat) (hn : 1 ≤ n) (b1 b2 ob i : Nat) (A : Aut) (M : List (List Nat)) (N : List Nat) (S : Nat → Prop) (w : World) (hMO : ∀ W, KS S w W → MO W ob A M N) (hi : i < M.length) (h1 : w.cell? ⟨b1, 0, none⟩ = some (.pointer (some ⟨ob, 0, none⟩))) (h2 : w.cell? ⟨b2, 0, none⟩ = some (.int .i64 (i : Nat))) (s1 : S b1) (s2 : S b2) (hS : ∀ b, S b → b < w.heap.size) :
    IterS Fence.wide n Try.prog 73 #[.pointer (some ⟨b1, 0, none⟩), .pointer (some ⟨b2, 0, none⟩)] (pwV A.k.toNat N i) S (M.length + 1) w := by
  intro l J Jx W hW hY hJ h0
  have HM : Hid (∀ W, KS S w W → MO W ob A M N) := hMO
  have hmon := (hMO w (KS.refl _ _)).mon
  have hms := hmon.most
  have HMon : Hid (Mon A M N) := hmon
  have HS : Hid (∀ b, S b → b < w.heap.size) := hS
  have HC : Hid (∀ W', KS S w W' → W'.cell? ⟨b1, 0, none⟩ = some (.pointer (some ⟨ob, 0, none⟩)) ∧ W'.cell? ⟨b2, 0, none⟩ = some (.int .i64 (i : Nat))) := fun W' hk => by
    exact ⟨by rw [World.cell?_of_block (a := ⟨b1, 0, none⟩) (hk.block b1 s1)]; exact h1, by rw [World.cell?_of_block (a := ⟨b2, 0, none⟩) (hk.block b2 s2)]; exact h2⟩
  have HY : Hid _ := hY
  have HJ : Hid (∀ j W1 W', J j W1 → Below W1.heap.size W1 W' → J j W') := hJ
  have H0 : Hid (J 0 W) := h0
  have HW : Hid (KS S w W) := hW
  have hx0 := (HC.out W hW).1
  clear hY h0 h1 h2 hW hJ hMO hmon hS s1 s2
  refine callsIn_of_wp Try.func73 rfl trivial ?_ rfl
  simp only [Try.ntmps73, List.size_toArray, List.length_cons, List.length_nil, Nat.reduceAdd, Nat.reduceSub, Array.replicate_succ, Array.replicate_zero, List.push_toArray, List.append_toArray, List.nil_append, List.cons_append]
  gi_wp2
  refine ⟨trivial, ?_⟩
  refine (callsIn_wide.2 (mlen_any (HM.out W HW.out))).mono ?_
  rintro e w1 ⟨rfl, rfl⟩
  have hwr : IntKind.i64.wrap ((M.length : Int) + 1) = (M.length : Int) + 1 := by rw [IntKind.wrap_i64]; omega
  clear hx0
  gi_wp2
  gi_loopw [4, 9] (fun vp vi wr => ∃ j : Nat, j ≤ M.length + 1 ∧ vi = .int .i64 (j : Nat) ∧ vp = .int .i64 (pwN A.k.toNat N i j : Nat) ∧ J j wr ∧ KS S w wr) (fun _ vi _ => M.length + 1 - (Go.RowKit.intOf vi).toNat)
  case atStart => exact ⟨0, Nat.zero_le _, rfl, rfl, H0.out, HW.out⟩
  case round =>
    obtain ⟨j, hj, rfl, rfl, hJj, hK⟩ := hrel
    have HJj : Hid (J j wr) := hJj
    have HK : Hid (KS S w wr) := hK
    clear hJj hK
    by_cases hlt : j < M.length + 1
    · have hjI : (j : Int) < (M.length : Int) + 1 := by omega
      obtain ⟨fn, tmps, assign, body, hy, hR⟩ := HY.out j wr hlt HJj.out HK.out
      unfold pwV at hy
      obtain ⟨p, hp⟩ : ∃ p, pwN A.k.toNat N i j = p := ⟨_, rfl⟩
      have HP : Hid (pr A.k.toNat N p i = pwN A.k.toNat N i (j + 1)) := by show _ = _; rw [pwN_succ, hp]
      have hpl : p < M.length := by rw [← hp]; exact HMon.out.pw_lt hi j
      rw [hp] at hy ⊢
      have HR : Hid (RoundIn Fence.wide (n - 1) Try.prog l fn tmps assign body wr _) := hR
      have HLT : Hid (j < M.length + 1) := hlt
      clear hR hp hlt
      gi_wp2
      refine HR.out.mono ?_
      clear HR hy
      rintro e W3 (⟨rfl, hJ3, hk3⟩ | ⟨rfl, hJx3⟩)
      · have HJ3 : Hid (J (j + 1) W3) := hJ3
        have HK3 : Hid (KS S w W3) := HK.out.trans hk3
        have hc := HC.out W3 HK3.out
        have hc1 := hc.1
        have hc2 := hc.2
        clear hJ3 hk3 hc
        gi_wp2
        refine ⟨trivial, ?_⟩
        refine (callsIn_wide.2 (iprod_two (HM.out W3 HK3.out) p i hpl hi)).mono ?_
        rintro e W4 ⟨rfl, hb4⟩
        rw [HP.out]
        have HJ4 : Hid (J (j + 1) W4) := HJ.out _ _ _ HJ3.out hb4
        have HK4 : Hid (KS S w W4) := HK3.out.trans (KS.below (fun b hb => Nat.lt_of_lt_of_le (HS.out b hb) HK3.out.size) hb4)
        clear hb4 hc1 hc2
        gi_wp2
        go_roundw
        case rel => exact ⟨j + 1, HLT.out, by go_num, rfl, HJ4.out, HK4.out⟩
        case measure => have := HLT.out; simp [Go.RowKit.intOf]; omega
      · have HJx3 : Hid _ := hJx3
        clear hJx3
        gi_wp2
        refine bodyPost_ret (results_none rfl _ _ _) rfl ?_
        exact ⟨⟨_, rfl⟩, .inr HJx3.out⟩
    · have hjI : ¬ (j : Int) < (M.length : Int) + 1 := by omega
      have HE : Hid (j = M.length + 1) := by show _ = _; omega
      gi_wp2
      go_end0
      refine ⟨⟨_, rfl⟩, .inl ?_⟩
      rw [← HE.out]
      exact HJj.out
end Go.Proofs.Ytafcejipoioigaa

namespace Go.Proofs.Ytafcejipoioigaa
open Go Go.RowKit Go.Shelf Go.Lib
set_option linter.unusedVariables false
attribute [-instance] List.instBEq instBEqProd

attribute [local go_sem] Oper.semAt_some

set_option maxHeartbeats 1000000 in
set_option maxRecDepth 100000 in
theorem omega_not {w : World} {ob : Nat} {A : Aut} {M : List (List Nat)} {N : List Nat} (h : MO w ob A M N) (i : Int) (hi : ¬ hasE M.length i = true) :
    Calls Try.prog 15 #[.pointer (some ⟨ob, 0, none⟩), .int .i64 i] w fun e w' => e = .returned (.tuple #[.int .i64 0, .int .i64 11]) ∧ Below w.heap.size w w' := by
  obtain ⟨w0, hw0⟩ : ∃ w0, w0 = w.alloc (.cells #[.pointer (some ⟨ob, 0, none⟩)] 22) := ⟨_, rfl⟩
  have HB0 : Hid (Below w.heap.size w w0) := by show Below _ _ _; rw [hw0]; exact below_new _ _
  have HM : Hid (MO w0 ob A M N) := h.below HB0.out
  have HW0 : Hid (w0 = w.alloc (.cells #[.pointer (some ⟨ob, 0, none⟩)] 22)) := hw0
  have HC0 : Hid (w0.cell? ⟨w.heap.size, 0, none⟩ = some (.pointer (some ⟨ob, 0, none⟩))) := by show _ = _; rw [hw0, cell_of_row _ _ _ _ _ _ (heap_last w _)]; rfl
  have HZ0 : Hid (w0.heap.size = w.heap.size + 1) := by show _ = _; rw [hw0]; simp
  have HC : Hid _ := icheck_one HM.out i
  rw [if_neg hi, HZ0.out] at HC
  have HB1 : Hid (Below w.heap.size w (w0.alloc (.cells #[.int .i64 i] 3))) := go_on HB0.out (below_new _ _)
  clear h hw0 hi
  go_enter Try.func15, Try.ntmps15
  go_wp2_with fail
  rw [← HW0.out]
  refine Calls.mono HC.out ?_
  rintro e w1 ⟨rfl, rfl⟩
  go_wp2_with fail
  go_ret2
  exact ⟨rfl, HB1.out⟩

theorem frz_at {w : World} {b o : Nat} {cs : Array Value} {t : TypeId} (h : w.heap[b]? = some (.cells cs t (0, 0))) : w.frozen? ⟨b, o, none⟩ = false := by
  simp [World.frozen?, h]

theorem KS.grown {S : Nat → Prop} {W W1 W2 : World} {row : Option Nat} (h : KS S W W1) (hg : W1.grownBy W2 row) (hr : ∀ k, row = some k → ¬ S k) (hl : ∀ b, S b → b < W1.heap.size) : KS S W W2 :=
  ⟨hg.os.trans h.os, hg.tape.trans h.tape, hg.output.trans h.output, Nat.le_trans h.size hg.size, fun b hb => (hg.block b (hl b hb) (fun e => hr b e.symm hb)).trans (h.block b hb)⟩

theorem KS.set {S : Nat → Prop} {W W1 : World} {m o : Nat} {v : Value} (h : KS S W W1) (hp : ¬ S m) : KS S W (W1.setCell ⟨m, o, none⟩ v) :=
  ⟨h.os, h.tape, h.output, by simpa [World.setCell] using h.size, fun b hb => (heap_set_other (fun e => by subst e; exact hp hb)).trans (h.block b hb)⟩

theorem KS.base {S : Nat → Prop} {w U W : World} (h : KS S U W) (hb : Below w.heap.size w U) (hS : ∀ b, b < w.heap.size → S b) : Below w.heap.size w W :=
  ⟨h.os.trans hb.os, h.tape.trans hb.tape, h.output.trans hb.output, Nat.le_trans hb.size h.size, fun b hlt => (h.block b (hS b hlt)).trans (hb.block b hlt)⟩

set_option maxRecDepth 100000 in
set_option maxHeartbeats 4000000 in
theorem omega_in (n : Nat) (hn : 3 ≤ n) {w : World} {ob : Nat} {A : Aut} {M : List (List Nat)} {N : List Nat} (h : MO w ob A M N) (i : Nat) (hi : i < M.length) :
    CallsIn Fence.wide n Try.prog 15 #[.pointer (some ⟨ob, 0, none⟩), .int .i64 i] w fun e w' => (∃ x, e = .returned (.tuple #[.int .i64 (x : Nat), .int .i64 0]) ∧ OmQ A.k.toNat N i x) ∧ Below w.heap.size w w' := by
  have h1 : 1 ≤ n := by omega
  obtain ⟨w0, hw0⟩ : ∃ w0, w0 = w.alloc (.cells #[.pointer (some ⟨ob, 0, none⟩)] 22) := ⟨_, rfl⟩
  have HB0 : Hid (Below w.heap.size w w0) := by show Below _ _ _; rw [hw0]; exact below_new _ _
  have HM0 : Hid (MO w ob A M N) := h
  have HM : Hid (MO w0 ob A M N) := h.below HB0.out
  have HMon : Hid (Mon A M N) := h.mon
  have HW0 : Hid (w0 = w.alloc (.cells #[.pointer (some ⟨ob, 0, none⟩)] 22)) := hw0
  have HC0 : Hid (w0.cell? ⟨w.heap.size, 0, none⟩ = some (.pointer (some ⟨ob, 0, none⟩))) := by show _ = _; rw [hw0, cell_of_row _ _ _ _ _ _ (heap_last w _)]; rfl
  have HZ0 : Hid (w0.heap.size = w.heap.size + 1) := by show _ = _; rw [hw0]; simp
  have HC : Hid _ := icheck_one HM.out i
  rw [if_pos (show hasE M.length (i : Int) = true from decide_eq_true ⟨by omega, by omega⟩), HZ0.out] at HC
  have HB1 : Hid (Below w.heap.size w (w0.alloc (.cells #[.int .i64 i] 3))) := go_on HB0.out (below_new _ _)
  clear h hw0
  refine callsIn_of_wp_marks Try.func15 rfl trivial ?_ rfl
  simp only [Try.ntmps15, List.size_toArray, List.length_cons, List.length_nil, Nat.reduceAdd, Nat.reduceSub, Array.replicate_succ, Array.replicate_zero, List.push_toArray, List.append_toArray, List.nil_append, List.cons_append]
  gi_wp2
  rw [← HW0.out]
  refine ⟨trivial, ?_⟩
  refine (callsIn_wide.2 HC.out).mono ?_
  rintro e w1 ⟨rfl, rfl⟩
  obtain ⟨w1, hw1⟩ : ∃ w1, w1 = w0.alloc (.cells #[.int .i64 (i : Int)] 3) := ⟨_, rfl⟩
  rw [← hw1] at HB1 ⊢
  have hz1 : w1.heap.size = w.heap.size + 2 := by rw [hw1, World.size_alloc, HZ0.out]
  have hc1 : w1.cell? ⟨w.heap.size, 0, none⟩ = some (.pointer (some ⟨ob, 0, none⟩)) := by rw [hw1, below_cellJ (below_new w0 _) (by rw [HZ0.out]; omega)]; exact HC0.out
  have hcA : (w1.alloc (.cells #[.int .i64 0] 3)).cell? ⟨w.heap.size, 0, none⟩ = some (.pointer (some ⟨ob, 0, none⟩)) := by rw [below_cellJ (below_new w1 _) (by rw [hz1]; omega)]; exact hc1
  have HZ1 : Hid (w1.heap.size = w.heap.size + 2) := hz1
  have HC1 : Hid (w1.cell? ⟨w.heap.size, 0, none⟩ = some (.pointer (some ⟨ob, 0, none⟩))) := hc1
  clear hw1 hz1 hc1
  gi_wp2
  refine ⟨trivial, ?_⟩
  refine (callsIn_wide.2 (powers_any _ _ _)).mono ?_
  rintro e w3 ⟨rfl, rfl⟩
  clear hcA
  gi_wp2
  obtain ⟨q, hq⟩ : ∃ q, w1.heap.size = q := ⟨_, rfl⟩
  have hz1 := HZ1.out
  obtain ⟨U, hU⟩ : ∃ U, U = ((w1.alloc (.cells #[.int .i64 0] 3)).alloc (.cells #[.pointer (some ⟨ob, 0, none⟩)] 22)).alloc (.cells #[.int .i64 (i : Int)] 3) := ⟨_, rfl⟩
  have hUs : U.heap.size = q + 3 := by rw [hU]; simp [hq]
  have hBU : Below w.heap.size w U := by
    rw [hU]
    exact go_on (go_on (go_on HB1.out (below_new _ _)) (below_new _ _)) (below_new _ _)
  have HU0 : Hid (U.heap[q]? = some (.cells #[.int .i64 0] 3 (0, 0))) := by
    show _ = _
    rw [hU, heap_allo (by simp; omega), heap_allo (by simp; omega), ← hq]
    exact heap_last _ _
  have HU1 : Hid (U.cell? ⟨q + 1, 0, none⟩ = some (.pointer (some ⟨ob, 0, none⟩))) := by
    show _ = _
    have e : U.heap[q + 1]? = some (.cells #[.pointer (some ⟨ob, 0, none⟩)] 22 (0, 0)) := by
      rw [hU, heap_allo (by simp; omega)]
      have := heap_last (w1.alloc (.cells #[.int .i64 0] 3)) (.cells #[.pointer (some ⟨ob, 0, none⟩)] 22)
      rwa [World.size_alloc, hq] at this
    exact cell_at e rfl
  have HU2 : Hid (U.cell? ⟨q + 2, 0, none⟩ = some (.int .i64 (i : Nat))) := by
    show _ = _
    have e : U.heap[q + 2]? = some (.cells #[.int .i64 (i : Nat)] 3 (0, 0)) := by
      rw [hU]
      have := heap_last ((w1.alloc (.cells #[.int .i64 0] 3)).alloc (.cells #[.pointer (some ⟨ob, 0, none⟩)] 22)) (.cells #[.int .i64 (i : Int)] 3)
      rwa [World.size_alloc, World.size_alloc, hq] at this
    exact cell_at e rfl
  have HU3 : Hid (U.cell? ⟨w.heap.size, 0, none⟩ = some (.pointer (some ⟨ob, 0, none⟩))) := by
    show _ = _
    have hb : Below w1.heap.size w1 U := by rw [hU]; exact go_on (go_on (below_new _ _) (below_new _ _)) (below_new _ _)
    rw [below_cellJ hb (by omega)]
    exact HC1.out
  have HBU : Hid (Below w.heap.size w U) := hBU
  rw [← hU]
  rw [hq]
  have hwq : w.heap.size + 2 = q := by omega
  clear hU hBU hz1 hq HZ1 HC1 HB1 HC HC0 HW0 HM HZ0
  refine rangeFunc_brk rfl h1 (gf := 73) (lb := #[.pointer (some ⟨q + 1, 0, none⟩), .pointer (some ⟨q + 2, 0, none⟩)]) rfl trivial (enters_of Try.func73 (by kernel_rfl) rfl)
    (val := pwV A.k.toNat N i) (S := fun b => b < q + 3 ∧ b ≠ q) (N := M.length + 1) (w0 := U) (fun b hb => by omega)
    (powers_at (n - 1) (by omega) (q + 1) (q + 2) ob i A M N _ U (fun W hk => HM0.out.below (hk.base HBU.out (fun b hb => ⟨by omega, by omega⟩))) hi HU1.out HU2.out ⟨by omega, by omega⟩ ⟨by omega, by omega⟩ (fun b hb => by omega)) (KS.refl _ _) (fun _ => rfl) 0
    (fun j W => KS (fun b => b < q + 3 ∧ b ≠ q) U W ∧ W.heap[q]? = some (.cells #[.int .i64 0] 3 (0, 0)) ∧ ∀ k, 1 ≤ k → k < j → ¬ pr A.k.toNat N (pwN A.k.toNat N i k) (pwN A.k.toNat N i k) = pwN A.k.toNat N i k)
    (fun _ W => KS (fun b => b < q + 3 ∧ b ≠ q) U W ∧ ∃ x : Nat, W.heap[q]? = some (.cells #[.int .i64 (x : Int)] 3 (0, 0)) ∧ OmQ A.k.toNat N i x)
    ?own1 ?own2 ?bel ?start (fun j a' W => (KS (fun b => b < q + 3 ∧ b ≠ q) U W ∧ W.heap[q]? = some (.cells #[.int .i64 0] 3 (0, 0)) ∧ ∀ k, 1 ≤ k → k < j → ¬ pr A.k.toNat N (pwN A.k.toNat N i k) (pwN A.k.toNat N i k) = pwN A.k.toNat N i k) ∧ a' = { tmps := #[.pointer (some ⟨ob, 0, none⟩), .int .i64 (i : Nat), .pointer (some ⟨w.heap.size, 0, none⟩), undef, .int .i64 0, .int .i64 0, .int .i64 0, .pointer (some ⟨q, 0, none⟩), .int .i64 (j : Nat), .int .i64 (pwN A.k.toNat N i j : Nat), .pointer (some ⟨ob, 0, none⟩), .int .i64 (i : Nat), .slice (some ⟨w.heap.size + 1, 0, none⟩) 1 1, .int .i64 0, .int .i64 0, .bool false, undef, .pointer (some ⟨ob, 0, none⟩), .int .i64 (i : Nat), .func (.func 73) #[] #[.pointer (some ⟨q + 1, 0, none⟩), .pointer (some ⟨q + 1 + 1, 0, none⟩)], .int .i64 (j : Nat), .int .i64 (pwN A.k.toNat N i j : Nat), undef, undef, undef, undef, undef, undef, undef, undef, undef], defers := [] }) ?own3 ?assign ?body ?done ?stop
  case own1 =>
    rintro j W W' row ⟨hk, hb, hno⟩ hg hr
    have hz := hk.size
    refine ⟨hk.grown hg (fun k e => by have := (hr k e).1; omega) (fun b hb => by omega), ?_, hno⟩
    rw [hg.block q (by omega) (fun e => by have := (hr q e.symm).1; omega)]
    exact hb
  case own2 =>
    rintro j W W' row ⟨hk, x, hb, hx⟩ hg hr
    have hz := hk.size
    refine ⟨hk.grown hg (fun k e => by have := (hr k e).1; omega) (fun b hb => by omega), x, ?_, hx⟩
    rw [hg.block q (by omega) (fun e => by have := (hr q e.symm).1; omega)]
    exact hb
  case bel =>
    rintro j W1 W' hz ⟨hk, hb, hno⟩ hbl
    refine ⟨hk.trans (KS.below (fun b hb => by omega) hbl), ?_, hno⟩
    rw [hbl.block q (by omega)]
    exact hb
  case start => exact ⟨KS.refl _ _, HU0.out, fun k h1 h2 => by omega⟩
  case own3 =>
    rintro j a' _ W W' row ⟨⟨hk, hb, hno⟩, e⟩ hg hr
    have hz := hk.size
    refine ⟨⟨hk.grown hg (fun k e => by have := (hr k e).1; omega) (fun b hb => by omega), ?_, hno⟩, e⟩
    rw [hg.block q (by omega) (fun e => by have := (hr q e.symm).1; omega)]
    exact hb
  case assign =>
    intro l j W K hj hI hks hK
    have HK : Hid _ := hK
    have HI : Hid _ := hI
    unfold pwV
    clear hK hI hks hj
    gi_wp2
    exact HK.out _ _ ⟨Nat.le_refl _, fun k o _ hk ho => hk⟩ (KS.refl _ _) ⟨HI.out, rfl⟩
  case body =>
    rintro l j a' W hj ⟨⟨hk, hb, hno⟩, rfl⟩ hks
    have hz := hk.size
    have HK : Hid (KS (fun b => b < q + 3 ∧ b ≠ q) U W) := hk
    have HBX : Hid (W.heap[q]? = some (.cells #[.int .i64 0] 3 (0, 0))) := hb
    have HNO : Hid (∀ k, 1 ≤ k → k < j → ¬ pr A.k.toNat N (pwN A.k.toNat N i k) (pwN A.k.toNat N i k) = pwN A.k.toNat N i k) := hno
    have HMW : Hid (MO W ob A M N) := HM0.out.below (hk.base HBU.out (fun b hb => ⟨by omega, by omega⟩))
    have hc : W.cell? ⟨w.heap.size, 0, none⟩ = some (.pointer (some ⟨ob, 0, none⟩)) := by
      rw [World.cell?_of_block (a := ⟨w.heap.size, 0, none⟩) (hk.block w.heap.size ⟨by omega, by omega⟩)]; exact HU3.out
    have HLT : Hid (j < M.length + 1) := hj
    clear hk hb hno hks
    by_cases hj0 : j = 0
    · subst hj0
      gi_wp2
      refine ⟨trivial, ?_⟩
      gi_wp2
      refine ⟨⟨Nat.le_refl _, fun k o _ hk ho => hk⟩, KS.refl _ _, HK.out, HBX.out, fun k h1 h2 => by omega⟩
    · have hjI : (0 : Int) < (j : Int) := by omega
      have hjd : decide ((0 : Int) < (j : Int)) = true := decide_eq_true hjI
      obtain ⟨p, hp⟩ : ∃ p, pwN A.k.toNat N i j = p := ⟨_, rfl⟩
      have HP : Hid (pwN A.k.toNat N i j = p) := hp
      have hpl : p < M.length := by rw [← hp]; exact HMon.out.pw_lt hi j
      have HJ1 : Hid (1 ≤ j) := by show 1 ≤ j; omega
      rw [hp]
      clear hp
      gi_wp2
      refine ⟨trivial, fun _ => by omega, ?_⟩
      refine (CallsIn.inRound l (callsIn_wide.2 (isIdem_any HMW.out p hpl))).mono ?_
      rintro e W3 ⟨rfl, hb3⟩
      have HK3 : Hid (KS (fun b => b < q + 3 ∧ b ≠ q) W W3) := KS.below (fun b hb => by omega) hb3
      have HKF : Hid (KeepsFrom U.heap.size W W3) := ⟨hb3.size, fun k o _ hk ho => (hb3.block k (Array.getElem?_eq_some_iff.1 hk).1).trans hk⟩
      have HBX3 : Hid (W3.heap[q]? = some (.cells #[.int .i64 0] 3 (0, 0))) := by show _ = _; rw [hb3.block q (by omega)]; exact HBX.out
      clear hb3 hc
      by_cases hid : pr A.k.toNat N p p = p
      · have hE : idE A.k.toNat N p = true := decide_eq_true hid
        have HOM : Hid (OmQ A.k.toNat N i p) := ⟨j, HJ1.out, HP.out, hid⟩
        rw [hE]
        have hcq : W3.cell? ⟨q, 0, none⟩ = some (.int .i64 0) := cell_at HBX3.out rfl
        have hfq : W3.frozen? ⟨q, 0, none⟩ = false := frz_at HBX3.out
        clear hid hE
        gi_wp2
        refine ⟨rfl, ?_, ?_⟩
        · refine ⟨Nat.le_trans HKF.out.1 (by simp [World.setCell]), fun k o hk1 hk ho => ?_⟩
          rw [heap_set_other (fun e => by omega)]
          exact HKF.out.2 k o hk1 hk ho
        · exact ⟨(HK.out.trans HK3.out).set (by omega), p, heap_set HBX3.out, HOM.out⟩
      · have hE : idE A.k.toNat N p = false := decide_eq_false hid
        have HNI : Hid (¬ pr A.k.toNat N p p = p) := hid
        rw [hE]
        clear hid hE
        gi_wp2
        refine ⟨HKF.out, HK3.out, HK.out.trans HK3.out, HBX3.out, fun k h1 h2 => ?_⟩
        by_cases e : k = j
        · rw [e, HP.out]; exact HNI.out
        · exact HNO.out k h1 (by omega)
  case done =>
    rintro D W hD ⟨hk, hb, hno⟩ hK
    exfalso
    obtain ⟨m, m1, m2, m3⟩ := HMon.out.om_ex hi
    exact hno m m1 (by omega) m3
  case stop =>
    rintro D W hD ⟨hk, x, hb, hx⟩ hKD
    have hz := hk.size
    have HK : Hid (KS (fun b => b < q + 3 ∧ b ≠ q) U W) := hk
    have HX : Hid (OmQ A.k.toNat N i x) := hx
    have HKD : Hid (W.heap[D]? = some (.deferred (some []))) := hKD
    have hcq : W.cell? ⟨q, 0, none⟩ = some (.int .i64 (x : Int)) := cell_at hb rfl
    clear hk hb hx hKD
    gi_wp2
    refine ⟨by simp, .inl ⟨_, _, rfl, run_takeDeferred HKD.out, ?_⟩⟩
    refine ⟨_, results_tmp2 rfl _ _ _, ⟨x, rfl, HX.out⟩, ?_⟩
    exact (HK.out.base HBU.out (fun b hb => ⟨by omega, by omega⟩)).grown (grownBy_putObj' W D _) (by omega) (fun k e => by cases e; omega)

theorem omega_any {w : World} {ob : Nat} {A : Aut} {M : List (List Nat)} {N : List Nat} (h : MO w ob A M N) (i : Nat) (hi : i < M.length) :
    Calls Try.prog 15 #[.pointer (some ⟨ob, 0, none⟩), .int .i64 i] w fun e w' => (∃ x, e = .returned (.tuple #[.int .i64 (x : Nat), .int .i64 0]) ∧ OmQ A.k.toNat N i x) ∧ Below w.heap.size w w' :=
  callsIn_wide.1 (omega_in 3 (by omega) h i hi)
end Go.Proofs.Ytafcejipoioigaa

namespace Go.Proofs.Ytafcejipoioigaa
open Go Go.RowKit Go.Shelf Go.Lib
set_option linter.unusedVariables false
attribute [-instance] List.instBEq instBEqProd

attribute [local go_sem] Oper.semAt_some

/-- What met knows when j powers were gone through. -/
structure Met (K : Nat) (N : List Nat) (i n j : Nat) (cs : List Nat) : Prop where
  len : cs.length = n
  old : ∀ k, k < j → cs[pwN K N i k]? = some (k + 1)
  new : ∀ x v : Nat, cs[x]? = some v → v ≠ 0 → ∃ k, k < j ∧ pwN K N i k = x ∧ v = k + 1
  apart : ∀ a b, a < b → b < j → pwN K N i a ≠ pwN K N i b

theorem Met.start (K : Nat) (N : List Nat) (i n : Nat) : Met K N i n 0 (List.replicate n 0) :=
  ⟨by simp, fun k h => by omega, fun x v hx hv => (by
    rw [List.getElem?_replicate] at hx
    split at hx
    · injection hx with hx
      exact absurd hx.symm hv
    · exact absurd hx (by simp)), fun a b h1 h2 => by omega⟩

theorem Met.next {K : Nat} {N : List Nat} {i n j : Nat} {cs : List Nat} (h : Met K N i n j cs) (hp : pwN K N i j < n) (h0 : cs[pwN K N i j]? = some 0) : Met K N i n (j + 1) (cs.set (pwN K N i j) (j + 1)) := by
  have hne : ∀ k, k < j → pwN K N i k ≠ pwN K N i j := fun k hk e => by
    have := h.old k hk
    rw [e, h0] at this
    cases this
  refine ⟨by rw [List.length_set]; exact h.len, fun k hk => ?_, fun x v hx hv => ?_, fun a b hab hb => ?_⟩
  · rw [List.getElem?_set]
    by_cases e : k = j
    · subst e
      rw [if_pos rfl, if_pos (by rw [h.len]; exact hp)]
    · rw [if_neg (fun q => hne k (by omega) q.symm)]
      exact h.old k (by omega)
  · rw [List.getElem?_set] at hx
    split at hx
    · rename_i e
      split at hx
      · cases hx
        exact ⟨j, by omega, e, rfl⟩
      · cases hx
    · obtain ⟨k, k1, k2, k3⟩ := h.new x v hx hv
      exact ⟨k, by omega, k2, k3⟩
  · by_cases e : b = j
    · subst e
      exact hne a hab
    · exact h.apart a b hab (by omega)

theorem Met.found {K : Nat} {N : List Nat} {i n j : Nat} {cs : List Nat} (h : Met K N i n j cs) {v : Nat} (h0 : cs[pwN K N i j]? = some v) (hv : v ≠ 0) : v ≤ j ∧ 1 ≤ v ∧ TR (rm K N i) 0 (v - 1) (j - (v - 1)) := by
  obtain ⟨k, k1, k2, k3⟩ := h.new _ _ h0 hv
  subst k3
  refine ⟨by omega, by omega, ?_, ?_, by omega⟩
  · intro a b hab hb
    exact h.apart a b hab (by omega)
  · show pwN K N i _ = pwN K N i _
    rw [show k + 1 - 1 + (j - (k + 1 - 1)) = j by omega, show k + 1 - 1 = k by omega, k2]

theorem Met.done {A : Aut} {M : List (List Nat)} {N : List Nat} (hm : Mon A M N) {i : Nat} (hi : i < M.length) {cs : List Nat} (h : Met A.k.toNat N i M.length (M.length + 1) cs) : False := by
  have := nodup_le M.length ((List.range (M.length + 1)).map (pwN A.k.toNat N i)) (map_nodup (fun a b hab hb => h.apart a b hab hb)) (fun x hx => by
    obtain ⟨k, _, rfl⟩ := List.mem_map.1 hx
    exact hm.pw_lt hi k)
  simp at this
  omega

theorem made_nC (n : Nat) : madeCells #[Value.int .i64 0] n = (nC (List.replicate n 0)).toArray := by
  apply Array.ext'
  apply List.ext_getElem?
  intro j
  by_cases hj : j < n
  · simp [madeCells, nC, hj, Nat.mod_one]
  · simp [madeCells, nC, hj]

theorem results_int2 {fn : Func} {p r : Tmp} (h : fn.results = #[.cell p 3, .cell r 3]) {tmps : Array Value} {b c : Nat} {x y : Int} {w : World} (hp : tmps.getD p undef = .pointer (some ⟨b, 0, none⟩)) (hr : tmps.getD r undef = .pointer (some ⟨c, 0, none⟩)) (hb : w.cell? ⟨b, 0, none⟩ = some (.int .i64 x)) (hc : w.cell? ⟨c, 0, none⟩ = some (.int .i64 y)) :
    (results fn tmps).run Try.prog w = .ok (.tuple #[.int .i64 x, .int .i64 y]) w := by
  have hp' : tmps[p]?.getD undef = .pointer (some ⟨b, 0, none⟩) := by simpa using hp
  have hr' : tmps[r]?.getD undef = .pointer (some ⟨c, 0, none⟩) := by simpa using hr
  simp [results, h, go_sem, hp', hr', hb, hc, Result.andThen]

set_option maxRecDepth 100000 in
set_option maxHeartbeats 4000000 in
theorem cycle_in (n : Nat) (hn : 3 ≤ n) {w : World} {ob : Nat} {A : Aut} {M : List (List Nat)} {N : List Nat} (h : MO w ob A M N) (i : Nat) (hi : i < M.length) :
    CallsIn Fence.wide n Try.prog 51 #[.pointer (some ⟨ob, 0, none⟩), .int .i64 i] w fun e w' => (∃ t r : Nat, e = .returned (.tuple #[.int .i64 (t : Nat), .int .i64 (r : Nat)]) ∧ TR (rm A.k.toNat N i) 0 t r) ∧ Below w.heap.size w w' := by
  have h1 : 1 ≤ n := by omega
  have HM0 : Hid (MO w ob A M N) := h
  have HMon : Hid (Mon A M N) := h.mon
  obtain ⟨i0, hi0, hz0, hz1, hz2⟩ := info_parts Try.info_int
  have hms := h.mon.most
  obtain ⟨m, hm⟩ : ∃ m, M.length = m := ⟨_, rfl⟩
  rw [hm] at hms hi
  have hmk := fun w0 => run_make (P := Try.prog) w0 23 3 i0 (.int .i64 0) Try.underlying23 hi0 hz0 .i64 .i64 (m : Int) (m : Int) (by omega) (by omega) (by rw [hz2]; omega) (by omega)
  rw [hz1] at hmk
  simp only [Nat.mul_one] at hmk
  have HMM : Hid (M.length = m) := hm
  obtain ⟨w2, hw2⟩ : ∃ w2, w2 = (w.alloc (.cells #[.int .i64 0] 3)).alloc (.cells #[.int .i64 0] 3) := ⟨_, rfl⟩
  have HB2 : Hid (Below w.heap.size w w2) := by show Below _ _ _; rw [hw2]; exact go_on (below_new _ _) (below_new _ _)
  have HW2 : Hid (w2 = (w.alloc (.cells #[.int .i64 0] 3)).alloc (.cells #[.int .i64 0] 3)) := hw2
  have HLN : Hid (Calls Try.prog 34 #[.pointer (some ⟨ob, 0, none⟩)] w2 fun e w' => e = .returned (.int .i64 (m : Nat)) ∧ w2 = w') := by
    have := mlen_any (h.below HB2.out)
    rw [hm] at this
    exact this
  clear h hw2 hm
  refine callsIn_of_wp_marks Try.func51 rfl trivial ?_ rfl
  simp only [Try.ntmps51, List.size_toArray, List.length_cons, List.length_nil, Nat.reduceAdd, Nat.reduceSub, Array.replicate_succ, Array.replicate_zero, List.push_toArray, List.append_toArray, List.nil_append, List.cons_append]
  gi_wp2
  rw [← HW2.out]
  refine ⟨trivial, ?_⟩
  refine (callsIn_wide.2 HLN.out).mono ?_
  rintro e w1 ⟨rfl, rfl⟩
  gi_wp2
  refine ⟨trivial, ?_⟩
  refine (callsIn_wide.2 (powers_any _ _ _)).mono ?_
  rintro e w3 ⟨rfl, rfl⟩
  clear hmk
  gi_wp2
  obtain ⟨q, hq⟩ : ∃ q, w2.heap.size = q := ⟨_, rfl⟩
  have hqw1 : q ≤ w.heap.size + 2 := by rw [← hq, HW2.out]; simp
  have hqw2 : w.heap.size + 2 ≤ q := by rw [← hq, HW2.out]; simp
  obtain ⟨U, hU⟩ : ∃ U, U = (((w2.alloc (.cells (madeCells #[.int .i64 0] m) 3)).alloc (.cells #[.slice (some ⟨w2.heap.size, 0, none⟩) m m] 23)).alloc (.cells #[.pointer (some ⟨ob, 0, none⟩)] 22)).alloc (.cells #[.int .i64 (i : Int)] 3) := ⟨_, rfl⟩
  have hUs : U.heap.size = q + 4 := by rw [hU]; simp [hq]
  have hB2U : Below w2.heap.size w2 U := by
    rw [hU]
    exact go_on (go_on (go_on (below_new _ _) (below_new _ _)) (below_new _ _)) (below_new _ _)
  have HBU : Hid (Below w.heap.size w U) := go_on HB2.out hB2U
  have HUa : Hid (U.heap[w.heap.size]? = some (.cells #[.int .i64 0] 3 (0, 0))) := by
    show _ = _
    rw [hB2U.block _ (by omega), HW2.out, heap_allo (by simp)]
    exact heap_last _ _
  have HUb : Hid (U.heap[w.heap.size + 1]? = some (.cells #[.int .i64 0] 3 (0, 0))) := by
    show _ = _
    rw [hB2U.block _ (by omega), HW2.out]
    have := heap_last (w.alloc (.cells #[.int .i64 0] 3)) (.cells #[.int .i64 0] 3)
    rwa [World.size_alloc] at this
  have HU0 : Hid (U.heap[q]? = some (.cells (nC (List.replicate m 0)).toArray 3 (0, 0))) := by
    show _ = _
    rw [hU, heap_allo (by simp <;> omega), heap_allo (by simp <;> omega), heap_allo (by simp <;> omega), ← hq, ← made_nC]
    exact heap_last _ _
  have HU1 : Hid (U.cell? ⟨q + 1, 0, none⟩ = some (.slice (some ⟨q, 0, none⟩) m m)) := by
    show _ = _
    have e : U.heap[q + 1]? = some (.cells #[.slice (some ⟨q, 0, none⟩) m m] 23 (0, 0)) := by
      subst hq
      rw [hU, heap_allo (by simp <;> omega), heap_allo (by simp <;> omega)]
      have := heap_last (w2.alloc (.cells (madeCells #[.int .i64 0] m) 3)) (.cells #[.slice (some ⟨w2.heap.size, 0, none⟩) m m] 23)
      rwa [World.size_alloc] at this
    exact cell_at e rfl
  have HU2 : Hid (U.cell? ⟨q + 1 + 1, 0, none⟩ = some (.pointer (some ⟨ob, 0, none⟩))) := by
    show _ = _
    have e : U.heap[q + 1 + 1]? = some (.cells #[.pointer (some ⟨ob, 0, none⟩)] 22 (0, 0)) := by
      subst hq
      rw [hU, heap_allo (by simp <;> omega)]
      have := heap_last ((w2.alloc (.cells (madeCells #[.int .i64 0] m) 3)).alloc (.cells #[.slice (some ⟨w2.heap.size, 0, none⟩) m m] 23)) (.cells #[.pointer (some ⟨ob, 0, none⟩)] 22)
      rwa [World.size_alloc, World.size_alloc] at this
    exact cell_at e rfl
  have HU3 : Hid (U.cell? ⟨q + 1 + 1 + 1, 0, none⟩ = some (.int .i64 (i : Nat))) := by
    show _ = _
    have e : U.heap[q + 1 + 1 + 1]? = some (.cells #[.int .i64 (i : Nat)] 3 (0, 0)) := by
      subst hq
      rw [hU]
      have := heap_last (((w2.alloc (.cells (madeCells #[.int .i64 0] m) 3)).alloc (.cells #[.slice (some ⟨w2.heap.size, 0, none⟩) m m] 23)).alloc (.cells #[.pointer (some ⟨ob, 0, none⟩)] 22)) (.cells #[.int .i64 (i : Int)] 3)
      rwa [World.size_alloc, World.size_alloc, World.size_alloc] at this
    exact cell_at e rfl
  rw [← hU]
  rw [hq]
  have hML := HMM.out
  have HHI : Hid (i < M.length) := by show _ < _; rw [hML]; exact hi
  clear hU hB2U hq HLN HW2 HB2
  refine rangeFunc_brk rfl h1 (gf := 73) (lb := #[.pointer (some ⟨q + 1 + 1, 0, none⟩), .pointer (some ⟨q + 1 + 1 + 1, 0, none⟩)]) rfl trivial (enters_of Try.func73 (by kernel_rfl) rfl)
    (val := pwV A.k.toNat N i) (S := (fun b => b < q + 4 ∧ b ≠ q ∧ b ≠ w.heap.size ∧ b ≠ w.heap.size + 1)) (N := M.length + 1) (w0 := U) (fun b hb => by omega)
    (powers_at (n - 1) (by omega) (q + 1 + 1) (q + 1 + 1 + 1) ob i A M N _ U (fun W hk => HM0.out.below (hk.base HBU.out (fun b hb => ⟨by omega, by omega, by omega, by omega⟩))) HHI.out HU2.out HU3.out ⟨by omega, by omega, by omega, by omega⟩ ⟨by omega, by omega, by omega, by omega⟩ (fun b hb => by omega)) (KS.refl _ _) (fun _ => rfl) 0
    (fun j W => KS (fun b => b < q + 4 ∧ b ≠ q ∧ b ≠ w.heap.size ∧ b ≠ w.heap.size + 1) U W ∧ W.heap[w.heap.size]? = some (.cells #[.int .i64 0] 3 (0, 0)) ∧ W.heap[w.heap.size + 1]? = some (.cells #[.int .i64 0] 3 (0, 0)) ∧ ∃ cs : List Nat, W.heap[q]? = some (.cells (nC cs).toArray 3 (0, 0)) ∧ Met A.k.toNat N i m j cs)
    (fun _ W => KS (fun b => b < q + 4 ∧ b ≠ q ∧ b ≠ w.heap.size ∧ b ≠ w.heap.size + 1) U W ∧ ∃ t r : Nat, W.heap[w.heap.size]? = some (.cells #[.int .i64 (t : Int)] 3 (0, 0)) ∧ W.heap[w.heap.size + 1]? = some (.cells #[.int .i64 (r : Int)] 3 (0, 0)) ∧ TR (rm A.k.toNat N i) 0 t r ∧ t < 1000 ∧ r < 1000)
    ?own1 ?own2 ?bel ?start (fun j a' W => (KS (fun b => b < q + 4 ∧ b ≠ q ∧ b ≠ w.heap.size ∧ b ≠ w.heap.size + 1) U W ∧ W.heap[w.heap.size]? = some (.cells #[.int .i64 0] 3 (0, 0)) ∧ W.heap[w.heap.size + 1]? = some (.cells #[.int .i64 0] 3 (0, 0)) ∧ ∃ cs : List Nat, W.heap[q]? = some (.cells (nC cs).toArray 3 (0, 0)) ∧ Met A.k.toNat N i m j cs) ∧ a' = { tmps := #[.pointer (some ⟨ob, 0, none⟩), .int .i64 (i : Nat), undef, undef, .pointer (some ⟨w.heap.size, 0, none⟩), .pointer (some ⟨w.heap.size + 1, 0, none⟩), .pointer (some ⟨q + 1, 0, none⟩), .int .i64 (j : Nat), .int .i64 (pwN A.k.toNat N i j : Nat), .pointer (some ⟨ob, 0, none⟩), .int .i64 (m : Nat), .slice (some ⟨q, 0, none⟩) m m, .pointer (some ⟨ob, 0, none⟩), .int .i64 (i : Nat), .func (.func 73) #[] #[.pointer (some ⟨q + 1 + 1, 0, none⟩), .pointer (some ⟨q + 1 + 1 + 1, 0, none⟩)], .int .i64 (j : Nat), .int .i64 (pwN A.k.toNat N i j : Nat), undef, undef, undef, undef, undef, undef, undef, undef, undef, undef, undef, undef, undef, undef, undef, undef, undef, undef, undef, undef], defers := [] }) ?own3 ?assign ?body ?done ?stop
  case own1 =>
    rintro j W W' row ⟨hk, hb1, hb2, cs, hcs, hm⟩ hg hr
    have hz := hk.size
    have hg' : ∀ b, b < q + 2 → W'.heap[b]? = W.heap[b]? := fun b hb => hg.block b (by omega) (fun e => by have := (hr b e.symm).1; omega)
    exact ⟨hk.grown hg (fun k e => by have := (hr k e).1; omega) (fun b hb => by omega), (hg' _ (by omega)).trans hb1, (hg' _ (by omega)).trans hb2, cs, (hg' _ (by omega)).trans hcs, hm⟩
  case own2 =>
    rintro j W W' row ⟨hk, t, r, hb1, hb2, hR⟩ hg hr
    have hz := hk.size
    have hg' : ∀ b, b < q + 2 → W'.heap[b]? = W.heap[b]? := fun b hb => hg.block b (by omega) (fun e => by have := (hr b e.symm).1; omega)
    exact ⟨hk.grown hg (fun k e => by have := (hr k e).1; omega) (fun b hb => by omega), t, r, (hg' _ (by omega)).trans hb1, (hg' _ (by omega)).trans hb2, hR⟩
  case bel =>
    rintro j W1 W' hz ⟨hk, hb1, hb2, cs, hcs, hm⟩ hbl
    exact ⟨hk.trans (KS.below (fun b hb => by omega) hbl), (hbl.block _ (by omega)).trans hb1, (hbl.block _ (by omega)).trans hb2, cs, (hbl.block _ (by omega)).trans hcs, hm⟩
  case start => exact ⟨KS.refl _ _, HUa.out, HUb.out, _, HU0.out, Met.start _ _ _ _⟩
  case own3 =>
    rintro j a' _ W W' row ⟨⟨hk, hb1, hb2, cs, hcs, hm⟩, e⟩ hg hr
    have hz := hk.size
    have hg' : ∀ b, b < q + 2 → W'.heap[b]? = W.heap[b]? := fun b hb => hg.block b (by omega) (fun e => by have := (hr b e.symm).1; omega)
    exact ⟨⟨hk.grown hg (fun k e => by have := (hr k e).1; omega) (fun b hb => by omega), (hg' _ (by omega)).trans hb1, (hg' _ (by omega)).trans hb2, cs, (hg' _ (by omega)).trans hcs, hm⟩, e⟩
  case assign =>
    intro l j W K hj hI hks hK
    have HK : Hid _ := hK
    have HI : Hid _ := hI
    unfold pwV
    clear hK hI hks hj
    gi_wp2
    exact HK.out _ _ ⟨Nat.le_refl _, fun k o _ hk ho => hk⟩ (KS.refl _ _) ⟨HI.out, rfl⟩
  case body =>
    rintro l j a' W hj ⟨⟨hk, hb1, hb2, cs, hcs, hmet⟩, rfl⟩ hks
    have hz := hk.size
    have HK : Hid (KS (fun b => b < q + 4 ∧ b ≠ q ∧ b ≠ w.heap.size ∧ b ≠ w.heap.size + 1) U W) := hk
    have HA : Hid (W.heap[w.heap.size]? = some (.cells #[.int .i64 0] 3 (0, 0))) := hb1
    have HB : Hid (W.heap[w.heap.size + 1]? = some (.cells #[.int .i64 0] 3 (0, 0))) := hb2
    have HCS : Hid (W.heap[q]? = some (.cells (nC cs).toArray 3 (0, 0))) := hcs
    have HMT : Hid (Met A.k.toNat N i m j cs) := hmet
    have hc6 : W.cell? ⟨q + 1, 0, none⟩ = some (.slice (some ⟨q, 0, none⟩) m m) := by
      rw [World.cell?_of_block (a := ⟨q + 1, 0, none⟩) (hk.block (q + 1) ⟨by omega, by omega, by omega, by omega⟩)]; exact HU1.out
    have HLT : Hid (j < M.length + 1) := hj
    obtain ⟨p, hp⟩ : ∃ p, pwN A.k.toNat N i j = p := ⟨_, rfl⟩
    have HP : Hid (pwN A.k.toNat N i j = p) := hp
    have hpl : p < m := by rw [← hp, ← hML]; exact HMon.out.pw_lt HHI.out j
    have hpI : (p : Int) < (m : Int) := by omega
    have hjm : j ≤ 512 := by omega
    obtain ⟨v, hv⟩ : ∃ v, cs[p]? = some v := ⟨_, List.getElem?_eq_getElem (by rw [hmet.len]; exact hpl)⟩
    have hcv : W.cell? ⟨q, p, none⟩ = some (.int .i64 (v : Nat)) := by
      rw [cell_of_row _ _ _ _ _ _ hcs]
      simp [nC, hv]
    have HV : Hid (cs[p]? = some v) := hv
    rw [hp]
    clear hk hb1 hb2 hcs hks hv hp hmet
    by_cases hv0 : v = 0
    · subst hv0
      have hwj : IntKind.i64.wrap ((j : Int) + 1) = ((j + 1 : Nat) : Int) := by rw [IntKind.wrap_i64]; omega
      have hfq : W.frozen? ⟨q, p, none⟩ = false := frz_at HCS.out
      have HST : Hid ((W.setCell ⟨q, p, none⟩ (.int .i64 ((j + 1 : Nat) : Int))).heap[q]? = some (.cells (nC (cs.set p (j + 1))).toArray 3 (0, 0))) := by
        show _ = _
        have e : (nC (cs.set p (j + 1))).toArray = (nC cs).toArray.setIfInBounds p (.int .i64 ((j + 1 : Nat) : Int)) := by
          apply Array.ext'
          simp [nC, List.map_set]
        rw [e]
        exact heap_set HCS.out
      obtain ⟨j1, hj1⟩ : ∃ j1, j + 1 = j1 := ⟨_, rfl⟩
      have HJ1 : Hid (j + 1 = j1) := hj1
      rw [hj1] at hwj HST
      clear hj1
      gi_wp2
      refine ⟨⟨by simp [World.setCell], fun k o hk1 hk ho => ?_⟩, (KS.refl _ _).set (by omega), HK.out.set (by omega), ?_, ?_, _, HST.out, ?_⟩
      · rw [heap_set_other (fun e => by omega)]
        exact hk
      · rw [heap_set_other (fun e => by omega)]; exact HA.out
      · rw [heap_set_other (fun e => by omega)]; exact HB.out
      · have q1 := HMT.out
        have q2 := q1.next (by rw [HP.out]; exact hpl) (by rw [HP.out]; exact HV.out)
        rw [HP.out, HJ1.out] at q2
        rw [HJ1.out]
        exact q2
    · have F := HMT.out.found (v := v) (by rw [HP.out]; exact HV.out) hv0
      have HTR : Hid (TR (rm A.k.toNat N i) 0 (v - 1) (j - (v - 1))) := F.2.2
      have hvj := F.1
      have hv1 := F.2.1
      have hvI : (0 : Int) < (v : Int) := by omega
      have hvd : decide ((0 : Int) < (v : Int)) = true := decide_eq_true hvI
      obtain ⟨t, ht⟩ : ∃ t, v - 1 = t := ⟨_, rfl⟩
      obtain ⟨r, hr⟩ : ∃ r, j - t = r := ⟨_, rfl⟩
      rw [ht, hr] at HTR
      have hw1 : IntKind.i64.wrap ((v : Int) - 1) = (t : Int) := by rw [IntKind.wrap_i64]; omega
      have hw2 : IntKind.i64.wrap ((j : Int) - (t : Int)) = (r : Int) := by rw [IntKind.wrap_i64]; omega
      have hca : W.cell? ⟨w.heap.size, 0, none⟩ = some (.int .i64 0) := cell_at HA.out rfl
      have hfa : W.frozen? ⟨w.heap.size, 0, none⟩ = false := frz_at HA.out
      have HA1 : Hid ((W.setCell ⟨w.heap.size, 0, none⟩ (.int .i64 (t : Int))).heap[w.heap.size]? = some (.cells #[.int .i64 (t : Int)] 3 (0, 0))) := heap_set HA.out
      have HB1 : Hid ((W.setCell ⟨w.heap.size, 0, none⟩ (.int .i64 (t : Int))).heap[w.heap.size + 1]? = some (.cells #[.int .i64 0] 3 (0, 0))) := by show _ = _; rw [heap_set_other (fun e => by omega)]; exact HB.out
      have hcb : (W.setCell ⟨w.heap.size, 0, none⟩ (.int .i64 (t : Int))).cell? ⟨w.heap.size + 1, 0, none⟩ = some (.int .i64 0) := cell_at HB1.out rfl
      have hfb : (W.setCell ⟨w.heap.size, 0, none⟩ (.int .i64 (t : Int))).frozen? ⟨w.heap.size + 1, 0, none⟩ = false := frz_at HB1.out
      have hca1 : (W.setCell ⟨w.heap.size, 0, none⟩ (.int .i64 (t : Int))).cell? ⟨w.heap.size, 0, none⟩ = some (.int .i64 (t : Int)) := cell_at HA1.out rfl
      have HTR2 : Hid (t < 1000 ∧ r < 1000) := by show _ ∧ _; omega
      clear F ht hr
      gi_wp2
      refine ⟨rfl, ⟨by simp [World.setCell], fun k o hk1 hk ho => ?_⟩, (HK.out.set (by omega)).set (by omega), t, r, ?_, heap_set HB1.out, HTR.out, HTR2.out⟩
      · rw [heap_set_other (fun e => by omega), heap_set_other (fun e => by omega)]
        exact hk
      · rw [heap_set_other (fun e => by omega)]; exact HA1.out
  case done =>
    rintro D W hD ⟨hk, hb1, hb2, cs, hcs, hmet⟩ hK
    rw [← hML] at hmet
    exact (hmet.done HMon.out HHI.out).elim
  case stop =>
    rintro D W hD ⟨hk, t, r, hb1, hb2, hR, hsm⟩ hKD
    have hz := hk.size
    have HK : Hid (KS (fun b => b < q + 4 ∧ b ≠ q ∧ b ≠ w.heap.size ∧ b ≠ w.heap.size + 1) U W) := hk
    have HX : Hid (TR (rm A.k.toNat N i) 0 t r) := hR
    have HKD : Hid (W.heap[D]? = some (.deferred (some []))) := hKD
    have HA : Hid (W.heap[w.heap.size]? = some (.cells #[.int .i64 (t : Int)] 3 (0, 0))) := hb1
    have HB : Hid (W.heap[w.heap.size + 1]? = some (.cells #[.int .i64 (r : Int)] 3 (0, 0))) := hb2
    have hca : W.cell? ⟨w.heap.size, 0, none⟩ = some (.int .i64 (t : Int)) := cell_at hb1 rfl
    have hcb : W.cell? ⟨w.heap.size + 1, 0, none⟩ = some (.int .i64 (r : Int)) := cell_at hb2 rfl
    have HA1 : Hid ((W.setCell ⟨w.heap.size, 0, none⟩ (.int .i64 (t : Int))).drew.heap[w.heap.size]? = some (.cells #[.int .i64 (t : Int)] 3 (0, 0))) := heap_set HA.out
    have HB1 : Hid ((W.setCell ⟨w.heap.size, 0, none⟩ (.int .i64 (t : Int))).drew.heap[w.heap.size + 1]? = some (.cells #[.int .i64 (r : Int)] 3 (0, 0))) := by show (W.setCell ⟨w.heap.size, 0, none⟩ (.int .i64 (t : Int))).heap[w.heap.size + 1]? = _; rw [heap_set_other (fun e => by omega)]; exact HB.out
    have d1 : W.drew.cell? ⟨w.heap.size, 0, none⟩ = some (.int .i64 (t : Int)) := hca
    have d2 : W.drew.cell? ⟨w.heap.size + 1, 0, none⟩ = some (.int .i64 (r : Int)) := hcb
    have d3 : W.drew.frozen? ⟨w.heap.size, 0, none⟩ = false := frz_at (w := W.drew) HA.out
    have d4 : (W.setCell ⟨w.heap.size, 0, none⟩ (.int .i64 (t : Int))).drew.cell? ⟨w.heap.size + 1, 0, none⟩ = some (.int .i64 (r : Int)) := cell_at HB1.out rfl
    have d5 : (W.setCell ⟨w.heap.size, 0, none⟩ (.int .i64 (t : Int))).drew.frozen? ⟨w.heap.size + 1, 0, none⟩ = false := frz_at HB1.out
    clear hk hb1 hb2 hR hKD hca hcb
    gi_wp2
    gi_region
    gi_wp2
    obtain ⟨Z, hZ⟩ : ∃ Z, ((W.setCell ⟨w.heap.size, 0, none⟩ (.int .i64 (t : Int))).setCell ⟨w.heap.size + 1, 0, none⟩ (.int .i64 (r : Int))).drew = Z := ⟨_, rfl⟩
    have hZD : Z.heap[D]? = some (.deferred (some [])) := by
      rw [← hZ]
      show ((W.setCell ⟨w.heap.size, 0, none⟩ (.int .i64 (t : Int))).setCell ⟨w.heap.size + 1, 0, none⟩ (.int .i64 (r : Int))).heap[D]? = _
      rw [heap_set_other (fun e => by omega), heap_set_other (fun e => by omega)]
      exact HKD.out
    have hZa : Z.cell? ⟨w.heap.size, 0, none⟩ = some (.int .i64 (t : Int)) := by
      rw [← hZ]
      have e : ((W.setCell ⟨w.heap.size, 0, none⟩ (.int .i64 (t : Int))).setCell ⟨w.heap.size + 1, 0, none⟩ (.int .i64 (r : Int))).drew.heap[w.heap.size]? = some (.cells #[.int .i64 (t : Int)] 3 (0, 0)) := by
        show ((W.setCell ⟨w.heap.size, 0, none⟩ (.int .i64 (t : Int))).setCell ⟨w.heap.size + 1, 0, none⟩ (.int .i64 (r : Int))).heap[w.heap.size]? = _
        rw [heap_set_other (fun e => by omega)]
        exact HA1.out
      exact cell_at e rfl
    have hZb : Z.cell? ⟨w.heap.size + 1, 0, none⟩ = some (.int .i64 (r : Int)) := by
      rw [← hZ]
      have e : ((W.setCell ⟨w.heap.size, 0, none⟩ (.int .i64 (t : Int))).setCell ⟨w.heap.size + 1, 0, none⟩ (.int .i64 (r : Int))).drew.heap[w.heap.size + 1]? = some (.cells #[.int .i64 (r : Int)] 3 (0, 0)) := heap_set (w := W.setCell ⟨w.heap.size, 0, none⟩ (.int .i64 (t : Int))) HB1.out
      exact cell_at e rfl
    have hBZ : Below w.heap.size w Z := by
      have b0 := HK.out.base HBU.out (fun b hb => ⟨by omega, by omega, by omega, by omega⟩)
      have b1 := (b0.setCell (p := ⟨w.heap.size, 0, none⟩) (Nat.le_refl _) (.int .i64 (t : Int))).setCell (p := ⟨w.heap.size + 1, 0, none⟩) (by show w.heap.size ≤ w.heap.size + 1; omega) (.int .i64 (r : Int))
      rw [← hZ]
      exact b1.drew
    rw [hZ]
    refine ⟨by simp, .inl ⟨_, _, rfl, run_takeDeferred hZD, ?_⟩⟩
    have hP : ∀ b, b ≠ D → (Z.putObj D (.deferred none)).heap[b]? = Z.heap[b]? := fun b hb => World.putObj_heap_other hb
    refine ⟨_, results_int2 rfl rfl rfl (by rw [World.cell?_of_block (hP _ (by show w.heap.size ≠ D; omega))]; exact hZa) (by rw [World.cell?_of_block (hP _ (by show w.heap.size + 1 ≠ D; omega))]; exact hZb), ⟨t, r, rfl, HX.out⟩, ?_⟩
    exact hBZ.grown (grownBy_putObj' Z D _) (by have := hBZ.size; omega) (fun k e => by cases e; omega)

theorem cycle_any {w : World} {ob : Nat} {A : Aut} {M : List (List Nat)} {N : List Nat} (h : MO w ob A M N) (i : Nat) (hi : i < M.length) :
    Calls Try.prog 51 #[.pointer (some ⟨ob, 0, none⟩), .int .i64 i] w fun e w' => (∃ t r : Nat, e = .returned (.tuple #[.int .i64 (t : Nat), .int .i64 (r : Nat)]) ∧ TR (rm A.k.toNat N i) 0 t r) ∧ Below w.heap.size w w' :=
  callsIn_wide.1 (cycle_in 3 (by omega) h i hi)

set_option maxHeartbeats 1000000 in
set_option maxRecDepth 100000 in
theorem iCycle_any {w : World} {ob : Nat} {A : Aut} {M : List (List Nat)} {N : List Nat} (h : MO w ob A M N) (i : Nat) (hi : i < M.length) :
    Calls Try.prog 17 #[.pointer (some ⟨ob, 0, none⟩), .int .i64 i] w fun e w' => (∃ t r : Nat, e = .returned (.tuple #[.int .i64 (t : Nat), .int .i64 (r : Nat), .int .i64 0]) ∧ TR (rm A.k.toNat N i) 0 t r) ∧ Below w.heap.size w w' := by
  have HC : Hid _ := icheck_one h i
  rw [if_pos (show hasE M.length (i : Int) = true from decide_eq_true ⟨by omega, by omega⟩)] at HC
  have HB1 : Hid (Below w.heap.size w (w.alloc (.cells #[.int .i64 (i : Int)] 3))) := below_new _ _
  have HY : Hid _ := cycle_any (h.below HB1.out) i hi
  clear h
  go_enter Try.func17, Try.ntmps17
  go_wp2_with fail
  refine Calls.mono HC.out ?_
  rintro e w1 ⟨rfl, rfl⟩
  go_wp2_with fail
  refine Calls.mono HY.out ?_
  rintro e w2 ⟨⟨t, r, rfl, hR⟩, hb⟩
  have HR : Hid (TR (rm A.k.toNat N i) 0 t r) := hR
  have HB : Hid (Below w.heap.size w w2) := go_on HB1.out hb
  clear hb hR
  go_wp2_with fail
  go_ret3
  exact ⟨⟨t, r, rfl, HR.out⟩, HB.out⟩

set_option maxHeartbeats 1000000 in
set_option maxRecDepth 100000 in
theorem iCycle_not {w : World} {ob : Nat} {A : Aut} {M : List (List Nat)} {N : List Nat} (h : MO w ob A M N) (i : Int) (hi : ¬ hasE M.length i = true) :
    Calls Try.prog 17 #[.pointer (some ⟨ob, 0, none⟩), .int .i64 i] w fun e w' => e = .returned (.tuple #[.int .i64 0, .int .i64 0, .int .i64 11]) ∧ Below w.heap.size w w' := by
  have HC : Hid _ := icheck_one h i
  rw [if_neg hi] at HC
  have HB1 : Hid (Below w.heap.size w (w.alloc (.cells #[.int .i64 i] 3))) := below_new _ _
  clear h
  go_enter Try.func17, Try.ntmps17
  go_wp2_with fail
  refine Calls.mono HC.out ?_
  rintro e w1 ⟨rfl, rfl⟩
  go_wp2_with fail
  go_ret3
  exact ⟨rfl, HB1.out⟩
end Go.Proofs.Ytafcejipoioigaa

namespace Go.Proofs.Ytafcejipoioigaa
set_option linter.unusedVariables false

/-- The primes from 23 to 61. -/
def bigP : List Nat := [23, 29, 31, 37, 41, 43, 47, 53, 59, 61]
theorem bigP_dvd : ∀ q ∈ bigP, ∀ r, r ∣ q → r = 1 ∨ r = q := by
  have k : ∀ q ∈ bigP, ∀ r ∈ List.range 62, r ∣ q → r = 1 ∨ r = q := by decide +kernel
  have k2 : ∀ q ∈ bigP, 0 < q ∧ q ≤ 61 := by decide
  intro q hq r hr
  have := Nat.le_of_dvd (k2 q hq).1 hr
  exact k q hq r (List.mem_range.2 (by have := (k2 q hq).2; omega)) hr
theorem bigP_le : ∀ q ∈ bigP, 23 ≤ q ∧ q ≤ 61 := by decide
theorem bigP_two : ∀ p ∈ bigP, ∀ q ∈ bigP, p ≠ q → 512 < p * q := by decide +kernel
theorem bigP_three : ∀ p ∈ bigP, ∀ q ∈ bigP, ∀ r ∈ bigP, p ≠ q → p ≠ r → q ≠ r → 83 ≤ p + q + r := by decide +kernel
theorem ring_big : ∀ r ∈ List.range 65, 1 ≤ r → r ∣ 97772875200 ∨ ∃ q ∈ bigP, q ∣ r ∧ r ∣ 97772875200 * q := by decide +kernel
theorem bigP_cop {p e : Nat} (hp : p ∈ bigP) (h : ¬ p ∣ e) : Nat.gcd e p = 1 := by
  rcases bigP_dvd p hp _ (Nat.gcd_dvd_right e p) with c | c
  · exact c
  · exact absurd (c ▸ Nat.gcd_dvd_left e p) h
/-- Periods of a sequence: their greatest common divisor is one. -/
theorem per_gcd {α : Type} (f : Nat → α) : ∀ (a b : Nat), (∀ k, f (k + a) = f k) → (∀ k, f (k + b) = f k) → ∀ k, f (k + Nat.gcd a b) = f k := by
  intro a b
  induction a, b using Nat.gcd.induction with
  | H0 n => intro _ h k; rw [Nat.gcd_zero_left]; exact h k
  | H1 m n hm ih =>
    intro h1 h2 k
    have hmul : ∀ c k, f (k + m * c) = f k := by
      intro c
      induction c with
      | zero => intro k; rfl
      | succ c ihc => intro k; rw [Nat.mul_succ, ← Nat.add_assoc, h1, ihc]
    rw [Nat.gcd_rec]
    refine ih (fun k => ?_) h1 k
    have e := Nat.mod_add_div n m
    have := hmul (n / m) (k + n % m)
    rw [Nat.add_assoc, e, h2] at this
    exact this.symm
theorem per_one {α : Type} (f : Nat → α) (h : ∀ k, f (k + 1) = f k) : ∀ k, f k = f 0
  | 0 => rfl
  | k + 1 => by rw [h, per_one f h k]
theorem orb_comm (f : Nat → Nat) (i a b : Nat) : orb f (orb f i a) b = orb f (orb f i b) a := by
  rw [← orb_add, ← orb_add, Nat.add_comm]
theorem TR.ring {f : Nat → Nat} {s p : Nat} (h : TR f s 0 p) (k m : Nat) : orb f s (k + p * m) = orb f s k := h.shifts (Nat.zero_le _) m
/-- Two rings of unlike prime lengths that share two points: products of powers are unlike. -/
theorem two_rings {f g : Nat → Nat} {s t p q : Nat} (hp : p ∈ bigP) (hq : q ∈ bigP) (hne : p ≠ q) (F : TR f s 0 p) (G : TR g t 0 q) {a1 a2 b1 b2 : Nat} (e1 : orb f s a1 = orb g t b1) (e2 : orb f s a2 = orb g t b2) (hu : orb f s a1 ≠ orb f s a2)
    {i i' j j' : Nat} (hi : i < p) (hi' : i' < p) (hj : j < q) (hj' : j' < q) (H : ∀ k, orb g (orb f (orb f s k) i) j = orb g (orb f (orb f s k) i') j') : i = i' ∧ j = j' := by
  obtain ⟨e, he⟩ : ∃ e, e = p - i + i' := ⟨_, rfl⟩
  have S : ∀ k, orb g (orb f s k) j = orb g (orb f s (k + e)) j' := fun k => by
    have := H (k + (p - i))
    rw [← orb_add, ← orb_add] at this
    rw [show k + (p - i) + i = k + p * 1 by omega, F.ring, show k + (p - i) + i' = k + e by omega] at this
    exact this
  have I : ∀ m k, orb g (orb f s k) (m * j) = orb g (orb f s (k + m * e)) (m * j') := by
    intro m
    induction m with
    | zero => intro k; simp
    | succ m ih =>
      intro k
      rw [Nat.succ_mul, orb_add, ih k, orb_comm, S, orb_comm, ← orb_add, Nat.succ_mul, Nat.succ_mul, Nat.add_assoc]
  have hcop : Nat.gcd q p = 1 := bigP_cop hp (fun hd => by
    rcases bigP_dvd q hq p hd with c | c
    · have := bigP_le p hp; omega
    · exact hne c)
  have hjj : j = j' := by
    have h1 := I p a1
    rw [F.ring, e1, ← orb_add, ← orb_add] at h1
    have key : ∀ x y, x < q → y < q → x ≤ y → orb g t (b1 + p * x) = orb g t (b1 + p * y) → x = y := fun x y hx hy hxy hh => by
      by_cases c : x = y
      · exact c
      · have h2 : p * x + p * (y - x) = p * y := by rw [← Nat.mul_add]; congr 1; omega
        have hpp := (bigP_le p hp).1
        have h3 : 1 ≤ p * (y - x) := Nat.mul_pos (by omega) (by omega)
        have h4 := (G.iff (b1 + p * x) (p * (y - x)) h3).1 (by rw [Nat.add_assoc, h2, hh])
        have h5 : q ∣ y - x := Nat.Coprime.dvd_of_dvd_mul_left (k := q) (m := p) (n := y - x) hcop h4.2
        have := Nat.le_of_dvd (by omega) h5
        omega
    rcases Nat.le_total j j' with c | c
    · exact key j j' hj hj' c h1
    · exact (key j' j hj' hj c h1.symm).symm
  subst hjj
  refine ⟨?_, rfl⟩
  apply Classical.byContradiction
  intro hii
  have hnd : ¬ p ∣ e := fun hd => by
    have h2 : e < p + p := by omega
    obtain ⟨c, hc⟩ := hd
    have : c = 1 := by
      rcases Nat.lt_or_ge c 2 with k | k
      · have : c ≠ 0 := fun c0 => by rw [c0] at hc; omega
        omega
      · have := Nat.mul_le_mul_left p k
        omega
    rw [this] at hc
    omega
  have hg := bigP_cop hp hnd
  have P1 := per_gcd (fun k => orb g (orb f s k) j) e p (fun k => (S k).symm) (fun k => by
    have := F.ring k 1
    rw [Nat.mul_one] at this
    rw [this])
  rw [hg] at P1
  have hc := (per_one (fun k => orb g (orb f s k) j) P1 a1).trans (per_one (fun k => orb g (orb f s k) j) P1 a2).symm
  replace hc : orb g (orb f s a1) j = orb g (orb f s a2) j := hc
  rw [e1, e2, ← orb_add, ← orb_add] at hc
  have hb : b1 % q ≠ b2 % q := fun hb => by
    apply hu
    rw [e1, e2]
    have k1 := G.ring (b1 % q) (b1 / q)
    have k2 := G.ring (b2 % q) (b2 / q)
    rw [Nat.mod_add_div] at k1 k2
    rw [k1, k2, hb]
  have key : ∀ x y, x ≤ y → orb g t (x + j) = orb g t (y + j) → x % q = y % q := fun x y hxy hh => by
    by_cases c : x = y
    · rw [c]
    · have h4 := (G.iff (x + j) (y - x) (by omega)).1 (by rw [show x + j + (y - x) = y + j by omega, hh])
      obtain ⟨z, hz⟩ := h4.2
      rw [show y = x + q * z by omega, Nat.add_mul_mod_self_left]
  rcases Nat.le_total b1 b2 with c | c
  · exact hb (key _ _ c hc)
  · exact hb (key _ _ c hc.symm).symm
theorem filter_one {l : List Nat} {P : Nat → Bool} (hn : l.Nodup) (h : ∀ u ∈ l, ∀ v ∈ l, P u = true → P v = true → u = v) : l.length ≤ (l.filter (fun x => !P x)).length + 1 := by
  induction l with
  | nil => simp
  | cons y l ih =>
    rw [List.nodup_cons] at hn
    by_cases hy : P y = true
    · have e : l.filter (fun x => !P x) = l := by
        rw [List.filter_eq_self]
        intro x hx
        cases hP : P x with
        | false => rfl
        | true => exact absurd (h y (by simp) x (by simp [hx]) hy hP ▸ hx) hn.1
      rw [List.filter_cons, if_neg (by simp [hy]), e, List.length_cons]
      exact Nat.le_refl _
    · have := ih hn.2 (fun u hu v hv => h u (by simp [hu]) v (by simp [hv]))
      rw [List.filter_cons, if_pos (by simp [hy]), List.length_cons, List.length_cons]
      omega
/-- The points of a ring. -/
def rgL (f : Nat → Nat) (s p : Nat) : List Nat := (List.range p).map (orb f s)
theorem TR.nodup {f : Nat → Nat} {s p : Nat} (h : TR f s 0 p) : (rgL f s p).Nodup := map_nodup (fun a b hab hb => h.apart a b hab (by omega))
theorem mem_rgL {f : Nat → Nat} {s p x : Nat} (h : x ∈ rgL f s p) : ∃ k, k < p ∧ orb f s k = x := by
  obtain ⟨k, hk, rfl⟩ := List.mem_map.1 h
  exact ⟨k, List.mem_range.1 hk, rfl⟩
/-- Three rings that share at most one point each two. -/
theorem three_rings {L1 L2 L3 : List Nat} {n : Nat} (d1 : L1.Nodup) (d2 : L2.Nodup) (d3 : L3.Nodup) (n1 : ∀ x ∈ L1, x < n) (n2 : ∀ x ∈ L2, x < n) (n3 : ∀ x ∈ L3, x < n)
    (h12 : ∀ u ∈ L2, ∀ v ∈ L2, u ∈ L1 → v ∈ L1 → u = v) (h13 : ∀ u ∈ L3, ∀ v ∈ L3, u ∈ L1 → v ∈ L1 → u = v) (h23 : ∀ u ∈ L3, ∀ v ∈ L3, u ∈ L2 → v ∈ L2 → u = v) : L1.length + L2.length + L3.length ≤ n + 3 := by
  have c2 := filter_one (l := L2) (P := fun x => decide (x ∈ L1)) d2 (fun u hu v hv a b => h12 u hu v hv (of_decide_eq_true a) (of_decide_eq_true b))
  have c3 := filter_one (l := L3) (P := fun x => decide (x ∈ L1)) d3 (fun u hu v hv a b => h13 u hu v hv (of_decide_eq_true a) (of_decide_eq_true b))
  have d3' := d3.filter (fun x => !decide (x ∈ L1))
  have c4 := filter_one (l := L3.filter (fun x => !decide (x ∈ L1))) (P := fun x => decide (x ∈ L2)) d3' (fun u hu v hv a b => h23 u (List.mem_filter.1 hu).1 v (List.mem_filter.1 hv).1 (of_decide_eq_true a) (of_decide_eq_true b))
  have := nodup_le n (L1 ++ (L2.filter (fun x => !decide (x ∈ L1)) ++ (L3.filter (fun x => !decide (x ∈ L1))).filter (fun x => !decide (x ∈ L2)))) (by
    rw [List.nodup_append]
    refine ⟨d1, ?_, ?_⟩
    · rw [List.nodup_append]
      refine ⟨d2.filter _, d3'.filter _, ?_⟩
      intro a ha b hb e
      subst e
      simp only [List.mem_filter, Bool.not_eq_true', decide_eq_false_iff_not] at ha hb
      exact hb.2 ha.1
    · intro a ha b hb e
      subst e
      simp only [List.mem_append, List.mem_filter, Bool.not_eq_true', decide_eq_false_iff_not] at hb
      rcases hb with hb | hb
      · exact hb.2 ha
      · exact hb.1.2 ha) (fun x hx => by
    simp only [List.mem_append, List.mem_filter] at hx
    rcases hx with hx | hx | hx
    · exact n1 x hx
    · exact n2 x hx.1
    · exact n3 x hx.1.1)
  simp only [List.length_append] at this
  omega
/-- The transformation of a power. -/
theorem Mon.pw_at {A : Aut} {M : List (List Nat)} {N : List Nat} (h : Mon A M N) {i : Nat} {l : List Nat} (hi : M[i]? = some l) : ∀ n, M[pwN A.k.toNat N i n]? = some (pwr l n)
  | 0 => by rw [pwN_zero, h.bi.first, ← (h.tf hi).2]; rfl
  | n + 1 => by rw [pwN_succ, h.pr (h.pw_at hi n) hi]; rfl
/-- A ring of prime length q is met. -/
def Ring (A : Aut) (M : List (List Nat)) (q : Nat) : Prop := ∃ (i : Nat) (l : List Nat) (s : Nat), M[i]? = some l ∧ s < A.ac.length ∧ TR (im l) s 0 q
theorem Mon.im_lt {A : Aut} {M : List (List Nat)} {N : List Nat} (h : Mon A M N) {i : Nat} {l : List Nat} (hi : M[i]? = some l) : ∀ s, s < A.ac.length → im l s < A.ac.length := fun s hs => by
  have := (h.tf hi).1.lt s (by rw [(h.tf hi).2]; exact hs)
  rwa [(h.tf hi).2] at this
theorem pwr_orb {l : List Nat} (hl : ∀ s, s < l.length → im l s < l.length) (c : Nat) {s : Nat} (hs : s < l.length) : ∀ k, orb (im (pwr l c)) s k = orb (im l) s (c * k)
  | 0 => rfl
  | k + 1 => by
    show im (pwr l c) (orb (im (pwr l c)) s k) = _
    rw [pwr_orb hl c hs k, im_pwr (orb_lt hl hs _), ← orb_add, Nat.mul_succ]
theorem Mon.ring_of {A : Aut} {M : List (List Nat)} {N : List Nat} (h : Mon A M N) {i : Nat} {l : List Nat} (hi : M[i]? = some l) {s t r : Nat} (hs : s < A.ac.length) (R : TR (im l) s t r) {q : Nat} (hq : q ∈ bigP) (hd : q ∣ r) : Ring A M q := by
  obtain ⟨c, rfl⟩ := hd
  have hlen := (h.tf hi).2
  have hlt : ∀ s, s < l.length → im l s < l.length := (h.tf hi).1.lt
  have hs0 : orb (im l) s t < l.length := orb_lt hlt (by rw [hlen]; exact hs) t
  have hq1 := (bigP_le q hq).1
  have hc1 : 1 ≤ c := by
    rcases Nat.eq_zero_or_pos c with e | e
    · have := R.pos; rw [e] at this; omega
    · exact e
  refine ⟨pwN A.k.toNat N i c, pwr l c, orb (im l) s t, h.pw_at hi c, by rw [← hlen]; exact hs0, ?_⟩
  obtain ⟨t', r', R'⟩ := tr_ex (h.im_lt (h.pw_at hi c)) (by rw [← hlen]; exact hs0)
  have e1 : orb (im (pwr l c)) (orb (im l) s t) (0 + q) = orb (im (pwr l c)) (orb (im l) s t) 0 := by
    rw [pwr_orb hlt c hs0, pwr_orb hlt c hs0, ← orb_add, ← orb_add]
    have := R.shifts (Nat.le_refl t) 1
    rw [Nat.mul_one] at this
    rw [show t + c * (0 + q) = t + q * c by rw [Nat.zero_add, Nat.mul_comm], this]
    rfl
  have k1 := (R'.iff 0 q (by omega)).1 e1
  have ht : t' = 0 := by omega
  subst ht
  rcases bigP_dvd q hq r' k1.2 with e | e
  · exfalso
    rw [e] at R'
    have e2 : orb (im (pwr l c)) (orb (im l) s t) (0 + 1) = orb (im (pwr l c)) (orb (im l) s t) 0 := R'.back
    rw [pwr_orb hlt c hs0, pwr_orb hlt c hs0, ← orb_add, ← orb_add] at e2
    have k2 := (R.iff t c hc1).1 (by
      rw [show t + c * (0 + 1) = t + c by omega] at e2
      exact e2)
    have k3 := Nat.le_of_dvd hc1 k2.2
    have k4 := Nat.mul_le_mul_right c hq1
    omega
  · rw [e] at R'
    exact R'
theorem Mon.ring_two {A : Aut} {M : List (List Nat)} {N : List Nat} (h : Mon A M N) {p q i j s t : Nat} {l m : List Nat} (hp : p ∈ bigP) (hq : q ∈ bigP) (hne : p ≠ q) (hi : M[i]? = some l) (hj : M[j]? = some m) (hs : s < A.ac.length) (ht : t < A.ac.length) (F : TR (im l) s 0 p) (G : TR (im m) t 0 q) :
    ∀ u ∈ rgL (im m) t q, ∀ v ∈ rgL (im m) t q, u ∈ rgL (im l) s p → v ∈ rgL (im l) s p → u = v := by
  intro u hu v hv hu' hv'
  obtain ⟨b1, _, e1⟩ := mem_rgL hu
  obtain ⟨b2, _, e2⟩ := mem_rgL hv
  obtain ⟨a1, _, f1⟩ := mem_rgL hu'
  obtain ⟨a2, _, f2⟩ := mem_rgL hv'
  apply Classical.byContradiction
  intro huv
  have hll := (h.tf hi).2
  have hml := (h.tf hj).2
  have hil := (List.getElem?_eq_some_iff.1 hi).1
  have hjl := (List.getElem?_eq_some_iff.1 hj).1
  have hq0 : 0 < q := by have := bigP_le q hq; omega
  have hz : ∀ a b, M[Go.Proofs.Ytafcejipoioigaa.pr A.k.toNat N (pwN A.k.toNat N i a) (pwN A.k.toNat N j b)]? = some (cmp (pwr l a) (pwr m b)) := fun a b => h.pr (h.pw_at hi a) (h.pw_at hj b)
  have := nodup_le M.length ((List.range (p * q)).map fun k => Go.Proofs.Ytafcejipoioigaa.pr A.k.toNat N (pwN A.k.toNat N i (k / q)) (pwN A.k.toNat N j (k % q))) (map_nodup (fun a b hab hb e => by
      have ha : a / q < p := by rw [Nat.div_lt_iff_lt_mul hq0]; omega
      have hb' : b / q < p := by rw [Nat.div_lt_iff_lt_mul hq0]; omega
      have k1 := hz (a / q) (a % q)
      rw [e, hz, Option.some.injEq] at k1
      have k2 := two_rings hp hq hne F G (f1.trans e1.symm) (f2.trans e2.symm) (by rw [f1, f2]; exact huv) ha hb' (Nat.mod_lt a hq0) (Nat.mod_lt b hq0) (fun k => by
        have hk : orb (im l) s k < A.ac.length := orb_lt (h.im_lt hi) hs k
        have w1 : ∀ x y, im (cmp (pwr l x) (pwr m y)) (orb (im l) s k) = orb (im m) (orb (im l) (orb (im l) s k) x) y := fun x y => by
          rw [cmp_im _ _ (by rw [pwr_len, hll]; exact hk), im_pwr (l := l) (by rw [hll]; exact hk), im_pwr (l := m) (by rw [hml]; exact orb_lt (h.im_lt hi) hk x)]
        rw [← w1, ← w1, k1])
      have m1 := Nat.mod_add_div a q
      have m2 := Nat.mod_add_div b q
      rw [k2.1, k2.2] at m1
      omega)) (fun x hx => by
    obtain ⟨k, _, rfl⟩ := List.mem_map.1 hx
    exact h.pr_lt (h.pw_lt hil _) (h.pw_lt hjl _))
  rw [List.length_map, List.length_range] at this
  have := bigP_two p hp q hq hne
  have := h.most
  omega
theorem Mon.ring_three {A : Aut} {M : List (List Nat)} {N : List Nat} (h : Mon A M N) {p q r : Nat} (hp : p ∈ bigP) (hq : q ∈ bigP) (hr : r ∈ bigP) (Rp : Ring A M p) (Rq : Ring A M q) (Rr : Ring A M r) : p = q ∨ p = r ∨ q = r := by
  apply Classical.byContradiction
  intro hc
  have n1 : p ≠ q := fun e => hc (.inl e)
  have n2 : p ≠ r := fun e => hc (.inr (.inl e))
  have n3 : q ≠ r := fun e => hc (.inr (.inr e))
  obtain ⟨i, l, s, hi, hs, F⟩ := Rp
  obtain ⟨j, m, t, hj, ht, G⟩ := Rq
  obtain ⟨k, n, u, hk, hu, H⟩ := Rr
  have lt : ∀ {i l s p}, M[i]? = some l → s < A.ac.length → ∀ x ∈ rgL (im l) s p, x < A.ac.length := fun {i l s p} hi hs x hx => by
    obtain ⟨k, _, rfl⟩ := mem_rgL hx
    exact orb_lt (h.im_lt hi) hs k
  have := three_rings F.nodup G.nodup H.nodup (lt hi hs) (lt hj ht) (lt hk hu) (h.ring_two hp hq n1 hi hj hs ht F G) (h.ring_two hp hr n2 hi hk hs hu F H) (h.ring_two hq hr n3 hj hk ht hu G H)
  simp only [rgL, List.length_map, List.length_range] at this
  have := bigP_three p hp q hq r hr n1 n2 n3
  have := h.n64
  omega
/-- All periods divide one number that is not great. -/
theorem Mon.per_all {A : Aut} {M : List (List Nat)} {N : List Nat} (h : Mon A M N) : ∃ D, 1 ≤ D ∧ D ≤ 363812868619200 ∧ ∀ i t r, i < M.length → TR (rm A.k.toNat N i) 0 t r → r ∣ D := by
  obtain ⟨a, b, ha, hb, hab⟩ : ∃ a b, a ∈ bigP ∧ b ∈ bigP ∧ ∀ q ∈ bigP, Ring A M q → q = a ∨ q = b := by
    by_cases c : ∃ a, a ∈ bigP ∧ Ring A M a
    · obtain ⟨a, ha, Ra⟩ := c
      by_cases c2 : ∃ b, b ∈ bigP ∧ Ring A M b ∧ a ≠ b
      · obtain ⟨b, hb, Rb, hne⟩ := c2
        refine ⟨a, b, ha, hb, fun q hq Rq => ?_⟩
        rcases h.ring_three ha hb hq Ra Rb Rq with e | e | e
        · exact absurd e hne
        · exact .inl e.symm
        · exact .inr e.symm
      · refine ⟨a, a, ha, ha, fun q hq Rq => .inl ?_⟩
        apply Classical.byContradiction
        intro hne
        exact c2 ⟨q, hq, Rq, fun e => hne e.symm⟩
    · exact ⟨23, 23, by decide, by decide, fun q hq Rq => absurd ⟨q, hq, Rq⟩ c⟩
  have la := bigP_le a ha
  have lb := bigP_le b hb
  have hab2 : 1 * 1 ≤ a * b := Nat.mul_le_mul (by omega) (by omega)
  have hab3 : a * b ≤ 61 * 61 := Nat.mul_le_mul (by omega) (by omega)
  obtain ⟨D, hD⟩ : ∃ D, D = 97772875200 * (a * b) := ⟨_, rfl⟩
  have hDq : ∀ r' ∈ List.range 65, 1 ≤ r' → r' ∣ D ∨ ∃ q ∈ bigP, q ∣ r' ∧ (q = a ∨ q = b → r' ∣ D) := fun r' hr' h1 => by
    rcases ring_big r' hr' h1 with c | ⟨q, hq, hd, c⟩
    · exact .inl (by rw [hD]; exact Nat.dvd_trans c (Nat.dvd_mul_right _ _))
    · refine .inr ⟨q, hq, hd, fun e => ?_⟩
      rw [hD]
      refine Nat.dvd_trans c (Nat.mul_dvd_mul_left _ ?_)
      rcases e with e | e
      · rw [e]; exact Nat.dvd_mul_right _ _
      · rw [e]; exact Nat.dvd_mul_left _ _
  have hD1 : 1 ≤ D := by omega
  refine ⟨D, hD1, by omega, ?_⟩
  clear hD hab2 hab3
  intro i t r hi R
  have hl := List.getElem?_eq_getElem hi
  obtain ⟨l, hle⟩ : ∃ l, M[i] = l := ⟨_, rfl⟩
  rw [hle] at hl
  have hlen := (h.tf hl).2
  obtain ⟨X, hX⟩ : ∃ X, X = 64 := ⟨_, rfl⟩
  have kp : pwr l (X + D) = pwr l X := by
    rw [pwr_eq_iff]
    intro s hs
    obtain ⟨t', r', R'⟩ := tr_ex (f := im l) (n := A.ac.length) (h.im_lt hl) (i := s) (by rw [← hlen]; exact hs)
    have hle := R'.le (h.im_lt hl) (by rw [← hlen]; exact hs)
    have h64 := h.n64
    have hr1 := R'.pos
    refine (R'.iff X D hD1).2 ⟨by omega, ?_⟩
    rcases hDq r' (List.mem_range.2 (by omega)) hr1 with c | ⟨q, hq, hd, c⟩
    · exact c
    · exact c (hab q hq (h.ring_of hl (by rw [← hlen]; exact hs) R' hq hd))
  have key : pwN A.k.toNat N i (X + D) = pwN A.k.toNat N i X := by
    refine h.inj (h.pw_at hl _) ?_
    rw [h.pw_at hl, kp]
  exact ((R.iff X D hD1).1 key).2
end Go.Proofs.Ytafcejipoioigaa

namespace Go.Proofs.Ytafcejipoioigaa
open Go Go.RowKit Go.Lib
set_option linter.unusedVariables false
attribute [-instance] List.instBEq instBEqProd

set_option maxHeartbeats 1000000 in
set_option maxRecDepth 100000 in
theorem idivisor_any (a b : Nat) (w : World) (ha : a ≤ 9223372036854775807) (hb : b ≤ 9223372036854775807) :
    Calls Try.prog 75 #[.int .i64 a, .int .i64 b] w fun e w' => e = .returned (.int .i64 (Nat.gcd a b : Nat)) ∧ Below w.heap.size w w' := by
  go_enter Try.func75, Try.ntmps75
  go_wp2
  go_loopw [0, 1] (fun x y wr => ∃ p q : Nat, x = .int .i64 p ∧ y = .int .i64 q ∧ p ≤ 9223372036854775807 ∧ q ≤ 9223372036854775807 ∧ Nat.gcd p q = Nat.gcd a b ∧ Below w.heap.size w wr) (fun _ y _ => (Go.Lib.intOf y).toNat)
  case atStart => exact ⟨a, b, rfl, rfl, ha, hb, rfl, Below.refl _ _⟩
  case round =>
    obtain ⟨p, q, rfl, rfl, hp, hq, hg, hB⟩ := hrel
    have HG : Hid (Nat.gcd p q = Nat.gcd a b) := hg
    have HB : Hid (Below w.heap.size w wr) := hB
    have HB2 : Hid (Below w.heap.size w wr.drew) := hB.drew
    clear hg hB
    by_cases h : 0 < q
    · have hm : p % q < q := Nat.mod_lt _ h
      have hq0 : ((q : Int) == 0) = false := by rw [beq_eq_false_iff_ne]; omega
      have hq1 : ((q : Int) != 0) = true := by rw [bne_iff_ne]; omega
      have hq2 : ¬ (q : Int) = 0 := by omega
      have hq3 : (0 : Int) < (q : Int) := by omega
      have htm : (p : Int).tmod q = ((p % q : Nat) : Int) := by rw [Int.tmod_eq_emod_of_nonneg (by omega)]; omega
      have hwm : IntKind.i64.wrap ((p % q : Nat) : Int) = ((p % q : Nat) : Int) := by rw [IntKind.wrap_i64]; omega
      obtain ⟨z, hzE⟩ : ∃ z, p % q = z := ⟨_, rfl⟩
      have HZE : Hid (p % q = z) := hzE
      rw [hzE] at htm hwm hm
      clear hzE
      go_wp2_with fail
      go_region
      all_goals go_wp2_with fail
      all_goals go_roundw
      all_goals first
        | exact ⟨q, z, rfl, rfl, hq, by omega, by rw [← HG.out, ← HZE.out, Nat.gcd_comm p q, Nat.gcd_rec q p, Nat.gcd_comm], HB2.out⟩
        | (simp [Go.Lib.intOf]; omega)
    · have : q = 0 := by omega
      subst this
      go_wp2
      go_ret
      exact ⟨by have := HG.out; rw [Nat.gcd_zero_right] at this; rw [this]; rfl, HB.out⟩

set_option maxHeartbeats 1000000 in
set_option maxRecDepth 100000 in
theorem imultiple_any (a b : Nat) (w : World) (ha : 1 ≤ a) (ha2 : a ≤ 9223372036854775807) (hb : b ≤ 9223372036854775807) (hl : Nat.lcm a b ≤ 9223372036854775807) :
    Calls Try.prog 53 #[.int .i64 a, .int .i64 b] w fun e w' => e = .returned (.int .i64 (Nat.lcm a b : Nat)) ∧ Below w.heap.size w w' := by
  have HD : Hid _ := idivisor_any a b w ha2 hb
  have hg1 : 1 ≤ Nat.gcd a b := Nat.gcd_pos_of_pos_left b ha
  have hle := lcm_eq a b
  obtain ⟨g, hg⟩ : ∃ g, Nat.gcd a b = g := ⟨_, rfl⟩
  rw [hg] at HD hg1 hle
  obtain ⟨m, hm⟩ : ∃ m, Nat.lcm a b = m := ⟨_, rfl⟩
  rw [hm] at hle hl ⊢
  obtain ⟨d, hd⟩ : ∃ d, a / g = d := ⟨_, rfl⟩
  rw [hd] at hle
  have hda : d ≤ a := by rw [← hd]; exact Nat.div_le_self _ _
  have hg2 : ¬ (g : Int) = 0 := by omega
  have hg0 : ((g : Int) == 0) = false := by rw [beq_eq_false_iff_ne]; omega
  have hq : (a : Int).tdiv g = (d : Int) := by rw [Int.tdiv_eq_ediv_of_nonneg (by omega), ← hd]; rfl
  have hwd : IntKind.i64.wrap (d : Int) = (d : Int) := by rw [IntKind.wrap_i64]; omega
  have hmu : (d : Int) * (b : Int) = (m : Int) := by rw [← hle]; push_cast; rfl
  have hwm : IntKind.i64.wrap (m : Int) = (m : Int) := by rw [IntKind.wrap_i64]; omega
  clear hg hm hd hle
  go_enter Try.func53, Try.ntmps53
  go_wp2_with fail
  refine Calls.mono HD.out ?_
  rintro e w1 ⟨rfl, hb1⟩
  have HB : Hid (Below w.heap.size w w1) := hb1
  clear hb1
  go_wp2_with fail
  go_ret
  exact ⟨rfl, HB.out⟩

/-- The least common multiple of the first i elements' periods, and their greatest index (at least 1). -/
structure ExI (K : Nat) (N : List Nat) (i s l : Nat) : Prop where
  dvd : ∀ E, s ∣ E ↔ ∀ k, k < i → ∀ t r, TR (rm K N k) 0 t r → r ∣ E
  max : ∀ b, l ≤ b ↔ 1 ≤ b ∧ ∀ k, k < i → ∀ t r, TR (rm K N k) 0 t r → t ≤ b

theorem ExI.start (K : Nat) (N : List Nat) : ExI K N 0 1 1 := ⟨fun E => ⟨fun _ k h => by omega, fun _ => Nat.one_dvd _⟩, fun b => ⟨fun h => ⟨h, fun k h => by omega⟩, fun h => h.1⟩⟩

theorem ExI.next {K : Nat} {N : List Nat} {i s l t r : Nat} (h : ExI K N i s l) (R : TR (rm K N i) 0 t r) : ExI K N (i + 1) (Nat.lcm s r) (Nat.max l t) := by
  refine ⟨fun E => ?_, fun b => ?_⟩
  · rw [lcm_dvd_iff, h.dvd]
    constructor
    · rintro ⟨h1, h2⟩ k hk t' r' R'
      by_cases e : k = i
      · subst e
        rw [(R'.uniq R).2]; exact h2
      · exact h1 k (by omega) t' r' R'
    · intro H
      exact ⟨fun k hk => H k (by omega), H i (by omega) t r R⟩
  · have e : Nat.max l t ≤ b ↔ l ≤ b ∧ t ≤ b := Nat.max_le
    rw [e, h.max]
    constructor
    · rintro ⟨⟨h0, h1⟩, h2⟩
      refine ⟨h0, fun k hk t' r' R' => ?_⟩
      by_cases e : k = i
      · subst e
        rw [(R'.uniq R).1]; exact h2
      · exact h1 k (by omega) t' r' R'
    · rintro ⟨h0, H⟩
      exact ⟨⟨h0, fun k hk => H k (by omega)⟩, H i (by omega) t r R⟩

theorem ExI.uniq {K : Nat} {N : List Nat} {i s l s' l' : Nat} (h : ExI K N i s l) (g : ExI K N i s' l') : s = s' ∧ l = l' :=
  ⟨Nat.dvd_antisymm ((h.dvd _).2 ((g.dvd _).1 (Nat.dvd_refl _))) ((g.dvd _).2 ((h.dvd _).1 (Nat.dvd_refl _))), Nat.le_antisymm ((h.max _).2 ((g.max _).1 (Nat.le_refl _))) ((g.max _).2 ((h.max _).1 (Nat.le_refl _)))⟩

theorem ExI.small {A : Aut} {M : List (List Nat)} {N : List Nat} (hm : Mon A M N) {i s l : Nat} (h : ExI A.k.toNat N i s l) (hi : i ≤ M.length) : 1 ≤ s ∧ s ≤ 363812868619200 ∧ 1 ≤ l ∧ l ≤ 512 := by
  obtain ⟨D, d1, d2, d3⟩ := hm.per_all
  have hd := (h.dvd D).2 (fun k hk t r R => d3 k t r (by omega) R)
  have hs := Nat.le_of_dvd (by omega) hd
  refine ⟨Nat.pos_of_dvd_of_pos hd (by omega), by omega, ((h.max l).1 (Nat.le_refl _)).1, (h.max 512).2 ⟨by omega, fun k hk t r R => ?_⟩⟩
  have := R.le (hm.rm_lt (by omega)) hm.pos
  have := hm.most
  omega

/-- The least multiple of s that is no less than l. -/
def exV (s l : Nat) : Nat := (l + s - 1) / s * s

theorem exV_facts {s l : Nat} (hs : 1 ≤ s) (hl : 1 ≤ l) : l ≤ exV s l ∧ 1 ≤ exV s l ∧ exV s l ≤ l + s ∧ s ∣ exV s l := by
  unfold exV
  have h1 := Nat.mod_add_div (l + s - 1) s
  have h2 := Nat.mod_lt (l + s - 1) hs
  rw [Nat.mul_comm] at h1
  exact ⟨by omega, by omega, by omega, Nat.dvd_mul_left _ _⟩

set_option maxHeartbeats 4000000 in
set_option maxRecDepth 100000 in
theorem iExponent_any {w : World} {ob : Nat} {A : Aut} {M : List (List Nat)} {N : List Nat} (h : MO w ob A M N) :
    Calls Try.prog 19 #[.pointer (some ⟨ob, 0, none⟩)] w fun e w' => (∃ s l, ExI A.k.toNat N M.length s l ∧ e = .returned (.tuple #[.int .i64 (exV s l : Nat), .int .i64 0])) ∧ Below w.heap.size w w' := by
  have HM : Hid (MO w ob A M N) := h
  have HMon : Hid (Mon A M N) := h.mon
  have hms := h.mon.most
  clear h
  go_enter Try.func19, Try.ntmps19
  go_wp2_with fail
  refine (icheck_none HM.out).mono ?_
  rintro e w1 ⟨rfl, rfl⟩
  go_wp2_with fail
  refine (mlen_any HM.out).mono ?_
  rintro e w1 ⟨rfl, rfl⟩
  go_wp2_with fail
  go_loopw [5, 6, 17] (fun vs vl vi wr => ∃ i s l : Nat, i ≤ M.length ∧ vi = .int .i64 (i : Nat) ∧ vs = .int .i64 (s : Nat) ∧ vl = .int .i64 (l : Nat) ∧ ExI A.k.toNat N i s l ∧ Below w.heap.size w wr) (fun _ _ vi _ => M.length - (Go.Lib.intOf vi).toNat)
  case atStart => exact ⟨0, 1, 1, Nat.zero_le _, rfl, rfl, rfl, ExI.start _ _, Below.refl _ _⟩
  case round =>
    obtain ⟨i, s, l, hi, rfl, rfl, rfl, hx, hb⟩ := hrel
    have HX : Hid (ExI A.k.toNat N i s l) := hx
    have HB : Hid (Below w.heap.size w wr) := hb
    have hsm := hx.small HMon.out hi
    clear hx hb
    by_cases hlt : i < M.length
    · have hiI : (i : Int) < M.length := by omega
      have HLT : Hid (i < M.length) := hlt
      go_wp2_with fail
      refine (cycle_any (HM.out.below HB.out) i HLT.out).mono ?_
      rintro e w2 ⟨⟨t, r, rfl, hR⟩, hb⟩
      have HB2 : Hid (Below w.heap.size w w2) := go_on HB.out hb
      have hX2 := HX.out.next hR
      have hsm2 := hX2.small HMon.out (show i + 1 ≤ M.length from hlt)
      have hle := hR.le (HMon.out.rm_lt hlt) HMon.out.pos
      have HX2 : Hid (ExI A.k.toNat N (i + 1) (Nat.lcm s r) (Nat.max l t)) := hX2
      have HMU : Hid (Calls Try.prog 53 #[.int .i64 (s : Nat), .int .i64 (r : Nat)] w2 fun e w' => e = .returned (.int .i64 (Nat.lcm s r : Nat)) ∧ Below w2.heap.size w2 w') := imultiple_any s r w2 (by omega) (by omega) (by omega) (by omega)
      have hmx : max (l : Int) (t : Int) = ((Nat.max l t : Nat) : Int) := by show _ = ((max l t : Nat) : Int); omega
      obtain ⟨l2, hl2⟩ : ∃ l2, Nat.max l t = l2 := ⟨_, rfl⟩
      obtain ⟨s2, hs2⟩ : ∃ s2, Nat.lcm s r = s2 := ⟨_, rfl⟩
      rw [hl2] at HX2 hmx
      rw [hs2] at HX2 HMU
      clear hb hR hX2 hsm2 hle hlt hl2 hs2 hsm
      go_wp2_with fail
      refine HMU.out.mono ?_
      rintro e w3 ⟨rfl, hb⟩
      have HB3 : Hid (Below w.heap.size w w3) := go_on HB2.out hb
      clear hb
      go_wp2_with fail
      go_roundw
      case rel => exact ⟨i + 1, s2, l2, HLT.out, by go_num, rfl, rfl, HX2.out, HB3.out⟩
      case measure => have := HLT.out; simp [Go.Lib.intOf]; omega
    · have hiI : ¬ (i : Int) < M.length := by omega
      have e : i = M.length := by omega
      have HX' : Hid (ExI A.k.toNat N M.length s l) := by show ExI _ _ _ _ _; rw [← e]; exact HX.out
      have hf := exV_facts hsm.1 hsm.2.2.1
      have hw1 : IntKind.i64.wrap ((l : Int) + (s : Int)) = ((l + s : Nat) : Int) := by rw [IntKind.wrap_i64]; omega
      have hw2 : IntKind.i64.wrap (((l + s : Nat) : Int) - 1) = ((l + s - 1 : Nat) : Int) := by rw [IntKind.wrap_i64]; omega
      obtain ⟨a, ha⟩ : ∃ a, l + s - 1 = a := ⟨_, rfl⟩
      obtain ⟨b, hb2⟩ : ∃ b, l + s = b := ⟨_, rfl⟩
      obtain ⟨c, hc⟩ : ∃ c, a / s = c := ⟨_, rfl⟩
      obtain ⟨d, hd⟩ : ∃ d, exV s l = d := ⟨_, rfl⟩
      have HD : Hid (exV s l = d) := hd
      have hcs : c * s = d := by rw [← hd, ← hc, ← ha]; rfl
      have hca : c ≤ a := by rw [← hc]; exact Nat.div_le_self _ _
      rw [hd] at hf
      have hq : (a : Int).tdiv s = (c : Int) := by rw [Int.tdiv_eq_ediv_of_nonneg (by omega), ← hc]; rfl
      have hs0 : ¬ (s : Int) = 0 := by omega
      have hs1 : ((s : Int) == 0) = false := by rw [beq_eq_false_iff_ne]; omega
      have hwc : IntKind.i64.wrap (c : Int) = (c : Int) := by rw [IntKind.wrap_i64]; omega
      have hmu : (c : Int) * (s : Int) = (d : Int) := by rw [← hcs]; push_cast; rfl
      have hwd : IntKind.i64.wrap (d : Int) = (d : Int) := by rw [IntKind.wrap_i64]; omega
      rw [ha] at hw2
      rw [hb2] at hw1 hw2
      clear e hf ha hb2 hc hd hcs hca hsm
      go_wp2_with fail
      go_ret2
      exact ⟨⟨s, l, HX'.out, by rw [HD.out]; rfl⟩, HB.out⟩
end Go.Proofs.Ytafcejipoioigaa
