/- E60 E61 E62 Ju E2 E42 E44 E46 E63 E47, in one text. -/
import Derived.Test.YtafcejipoioigaaW1
import Derived.Test.YtafcejipoioigaaJt
import Derived.OpenShut
import Derived.ProofKit
import Derived.ShutString
import Derived.ChangeOld
import Derived.JoinedCond
import Derived.SizedLaws
import Derived.Carry
import Derived.Deep.Strs
import Derived.Deep.Grids
import Derived.Test.YtafcejipoioigaaE1
import Derived.Test.YtafcejipoioigaaAb
import Derived.Test.YtafcejipoioigaaJh
import Derived.Test.YtafcejipoioigaaJi
import Derived.Laws.EntriesVeiled
import Derived.Deep.LoopGhost
import Derived.Test.YtafcejipoioigaaRk
namespace Go.Proofs.Ytafcejipoioigaa
open Go Go.RowKit Go.Lib Go.Maps
set_option linter.unusedVariables false
attribute [-instance] List.instBEq instBEqProd

set_option maxHeartbeats 2000000 in
set_option maxRecDepth 100000 in
theorem rbuild_bad (v : Value) (A : Aut) (w : World) (h : AR w v A) (hm : A.nx.length ≤ 9223372036854775806) (hm2 : A.ac.length ≤ 9223372036854775806) (hE : owE A ByteArray.empty ≠ 0) : Calls Try.prog 40 #[v] w fun e w' => e = .returned (.tuple #[.pointer none, .int .i64 (owE A ByteArray.empty)]) ∧ Below w.heap.size w w' := by
  obtain ⟨an, cn, aa, ca, e, h1, h2⟩ := h.is
  have HCK : Hid (∀ y, Below w.heap.size w y → Calls Try.prog 69 #[v] y fun e w' => e = .returned (.int .i64 (chkA A)) ∧ Below y.heap.size y w') := fun y hy => racheck_any v A y (h.stay hy) hm hm2
  subst e
  obtain ⟨W, hW⟩ : ∃ W, W = w.alloc (.cells #[.int .i64 A.k, .slice an A.nx.length cn, .slice aa A.ac.length ca] 26) := ⟨_, rfl⟩
  have HB1 : Hid (Below w.heap.size w W) := by show Below _ _ _; rw [hW]; exact below_new _ _
  have HBX1 : Hid (W.heap[w.heap.size]? = some (.cells #[.int .i64 A.k, .slice an A.nx.length cn, .slice aa A.ac.length ca] 26 (0, 0))) := by show _ = _; rw [hW]; exact heap_last _ _
  have HW1 : Hid (W = w.alloc (.cells #[.int .i64 A.k, .slice an A.nx.length cn, .slice aa A.ac.length ca] 26)) := hW
  clear hW h h1 h2
  by_cases hc : chkA A = 0
  · have h64 : 64 < A.ac.length := by
      rcases Nat.lt_or_ge 64 A.ac.length with q | q
      · exact q
      · exact absurd (owE_good (chkA_good hc) q) hE
    have HE : Hid (owE A ByteArray.empty = 81) := by show _ = _; unfold owE; rw [if_pos hc, if_pos (by omega)]
    rw [hc] at HCK
    have h64I : (64 : Int) < (A.ac.length : Nat) := by omega
    have h64d : decide ((64 : Int) < (A.ac.length : Nat)) = true := decide_eq_true h64I
    have h64e : decide (64 < A.ac.length) = true := decide_eq_true h64
    clear hE hc
    go_enter Try.func40, Try.ntmps40
    go_wp2_with fail
    rw [← HW1.out]
    refine (HCK.out _ HB1.out).mono ?_
    rintro e w1 ⟨rfl, hb⟩
    have HB2 : Hid (Below w.heap.size w w1) := go_on HB1.out hb
    have cs2 : w1.cell? ⟨w.heap.size, 2, none⟩ = some (.slice aa A.ac.length ca) := cell_at ((hb.block _ (Array.getElem?_eq_some_iff.1 HBX1.out).1).trans HBX1.out) rfl
    clear hb
    go_wp2_with fail
    go_ret2
    exact ⟨by rw [HE.out]; rfl, HB2.out⟩
  · have hG : ¬ Good A := fun G => hc (chkA_ok G)
    have HE : Hid (owE A ByteArray.empty = 80) := by show _ = _; unfold owE; rw [if_neg hc]
    rw [chkA_no hG] at HCK
    clear hE hc hG
    go_enter Try.func40, Try.ntmps40
    go_wp2_with fail
    rw [← HW1.out]
    refine (HCK.out _ HB1.out).mono ?_
    rintro e w1 ⟨rfl, hb⟩
    have HB2 : Hid (Below w.heap.size w w1) := go_on HB1.out hb
    have cs2 : w1.cell? ⟨w.heap.size, 2, none⟩ = some (.slice aa A.ac.length ca) := cell_at ((hb.block _ (Array.getElem?_eq_some_iff.1 HBX1.out).1).trans HBX1.out) rfl
    clear hb
    go_wp2_with fail
    go_ret2
    exact ⟨by rw [HE.out]; rfl, HB2.out⟩

theorem rbuild_any (v : Value) (A : Aut) (w : World) (h : AR w v A) (hm : A.nx.length ≤ 9223372036854775806) (hm2 : A.ac.length ≤ 9223372036854775806) : Calls Try.prog 40 #[v] w (RbQ A w) := by
  by_cases hE : owE A ByteArray.empty = 0
  · obtain ⟨G, h64⟩ := owE_ok hE
    exact rbuild_ok v A w h G h64
  · refine (rbuild_bad v A w h hm hm2 hE).mono ?_
    rintro e w' ⟨rfl, hb⟩
    have e1 : bdE A = owE A ByteArray.empty := by unfold bdE; rw [if_neg hE]
    exact .inl ⟨by rw [e1]; exact hE, by rw [e1], hb⟩

end Go.Proofs.Ytafcejipoioigaa

namespace Go.Proofs.Ytafcejipoioigaa
open Go Go.RowKit Go.Lib Go.Maps
set_option linter.unusedVariables false
attribute [-instance] List.instBEq instBEqProd

/-- A monoid that Build made, of whose automaton's lists nothing lies below lo. -/
def MOb (lo : Nat) (w : World) (ob : Nat) (A : Aut) (M : List (List Nat)) (N : List Nat) : Prop := ∃ base bt b mb gw ga R n a c d vl D an cn aa ca, lo ≤ base ∧ MP w ob A M N base bt b mb gw ga R n a c d vl D an cn aa ca (.pointer (some ⟨ob, 0, none⟩))

theorem MOb.mo {lo : Nat} {w : World} {ob : Nat} {A : Aut} {M : List (List Nat)} {N : List Nat} (h : MOb lo w ob A M N) : MO w ob A M N := by
  obtain ⟨base, bt, b, mb, gw, ga, R, n, a, c, d, vl, D, an, cn, aa, ca, _, h⟩ := h
  exact ⟨base, bt, b, mb, gw, ga, R, n, a, c, d, vl, D, an, cn, aa, ca, h⟩

theorem MOb.below {lo : Nat} {w w' : World} {ob : Nat} {A : Aut} {M : List (List Nat)} {N : List Nat} (h : MOb lo w ob A M N) (hb : Below w.heap.size w w') : MOb lo w' ob A M N := by
  obtain ⟨base, bt, b, mb, gw, ga, R, n, a, c, d, vl, D, an, cn, aa, ca, l, h⟩ := h
  exact ⟨base, bt, b, mb, gw, ga, R, n, a, c, d, vl, D, an, cn, aa, ca, l, h.keep hb⟩

theorem MOb.set {lo : Nat} {w : World} {ob : Nat} {A : Aut} {M : List (List Nat)} {N : List Nat} (h : MOb lo w ob A M N) {g o : Nat} {v : Value} {cs : Array Value} (hg : g < lo) (hc : w.heap[g]? = some (.cells cs 3 (0, 0))) : MOb lo (w.setCell ⟨g, o, none⟩ v) ob A M N := by
  obtain ⟨base, bt, b, mb, gw, ga, R, n, a, c, d, vl, D, an, cn, aa, ca, l, h⟩ := h
  have kt : ∀ (j : Nat) (cur : Array Value) (ty : TypeId), w.heap[j]? = some (.cells cur ty (0, 0)) → ty ≠ 3 → (w.setCell ⟨g, o, none⟩ v).heap[j]? = w.heap[j]? := fun j cur ty hj hn => heap_set_other (blk_ne hj hc hn)
  obtain ⟨cw, hw, _⟩ := id h.wp
  obtain ⟨cb, hb, _⟩ := id h.bp
  obtain ⟨cr, hr, _⟩ := id h.rt
  refine ⟨base, bt, b, mb, gw, ga, R, n, a, c, d, vl, D, an, cn, aa, ca, l, ⟨(kt _ _ _ h.box (by decide)).trans h.box, own_keep h.nx (fun j cur hj _ => heap_set_other (by have := (h.nx.lt j hj).1; omega)), own_keep h.ac (fun j cur _ hc => kt j _ _ hc (by decide)), h.tb.keep (fun j hj _ => heap_set_other (fun e => by subst e; exact h.tb.not_ts hc (by decide) (by decide) hj)), h.wp.keep (kt _ _ _ hw (by decide)), h.bp.keep (kt _ _ _ hb (by decide)), h.rt.keep (kt _ _ _ hr (by decide)), h.mon, h.num⟩⟩

/-- What Build answers of an automaton of at most 64 states. -/
def BdL (A : Aut) (w : World) (e : Ending) (w' : World) : Prop :=
  (mEl A = none ∧ e = .returned (.tuple #[.pointer none, .int .i64 140]) ∧ Below w.heap.size w w') ∨
  ∃ ob M N, e = .returned (.tuple #[.pointer (some ⟨ob, 0, none⟩), .int .i64 0]) ∧ mEl A = some (M, N) ∧ MOb w.heap.size w' ob A M N ∧ Below w.heap.size w w'

set_option maxHeartbeats 4000000 in
set_option maxRecDepth 100000 in
theorem build_low (v : Value) (A : Aut) (w : World) (h : AR w v A) (G : Good A) (h64 : A.ac.length ≤ 64) :
    Calls Try.prog 33 #[v] w (BdL A w) := by
  have hks := G.ks
  have hn1 := G.n1
  have hln := G.len
  have hxl : 1 ≤ A.nx.length ∧ A.nx.length ≤ 40000 := by
    have h1 : (1 : Int) * 1 ≤ (A.ac.length : Int) * A.k := Int.mul_le_mul (by omega) G.k1 (by omega) (by omega)
    have h2 : (A.ac.length : Int) * A.k ≤ 64 * 8 := Int.mul_le_mul (by omega) G.k8 (by have := G.k1; omega) (by omega)
    omega
  obtain ⟨an, cn, aa, ca, e, h1, h2⟩ := h.is
  have HA : Hid (∀ w', Below w.heap.size w w' → AR w' v A) := fun w' hb => h.stay hb
  clear h h1 h2 hln
  subst e
  have HGd : Hid (Good A) := G
  obtain ⟨w0, hw0⟩ : ∃ w0, w0 = w.alloc (.cells #[.int .i64 A.k, .slice an A.nx.length cn, .slice aa A.ac.length ca] 26) := ⟨_, rfl⟩
  have HB0 : Hid (Below w.heap.size w w0) := by show Below _ _ _; rw [hw0]; exact below_new _ _
  have HR0 : Hid (RowAt w0 w.heap.size #[.int .i64 A.k, .slice an A.nx.length cn, .slice aa A.ac.length ca]) := by show RowAt _ _ _; rw [hw0]; exact RowAt.last _ _ _
  have HW0 : Hid (w0 = w.alloc (.cells #[.int .i64 A.k, .slice an A.nx.length cn, .slice aa A.ac.length ca] 26)) := hw0
  clear hw0 G
  go_enter Try.func33, Try.ntmps33
  go_wp2_with fail
  rw [← HW0.out]
  refine (find_any _ A w0 (HA.out _ HB0.out) HGd.out h64).mono ?_
  rintro e w1 (⟨hno, rfl, hB1⟩ | ⟨base, fb, b, mb, vl, vw, vr, M, W, N, D, rfl, hE, hWY, hF, hlo, hB1⟩)
  · have HNO : Hid (mEl A = none) := hno
    have HB1 : Hid (Below w.heap.size w w1) := go_on HB0.out hB1
    clear hno hB1
    go_wp2_with fail
    go_ret2
    exact .inl ⟨HNO.out, rfl, HB1.out⟩
  · have HMon : Hid (Mon A M N) := mon_of HGd.out h64 hE
    have HE : Hid (mEl A = some (M, N)) := hE
    have HWY : Hid (WyO A.k.toNat M W N) := hWY
    have HF : Hid (FN base w1 fb b mb A.k.toNat A.ac.length vl vw vr M W N D) := hF
    have HB1 : Hid (Below w.heap.size w w1) := go_on HB0.out hB1
    have HR1 : Hid (RowAt w1 w.heap.size #[.int .i64 A.k, .slice an A.nx.length cn, .slice aa A.ac.length ca]) := HR0.out.stay hB1
    have S0 : ((∀ o, (w1.drew).cell? ⟨w.heap.size, o, none⟩ = (#[.int .i64 A.k, .slice an A.nx.length cn, .slice aa A.ac.length ca] : Array Value)[o]?) ∧ (w1.drew).cell? ⟨fb, 1, none⟩ = some (.pointer (some ⟨b, 0, none⟩))) := ⟨HR1.out.cell, cell_at HF.out.box rfl⟩
    have HSK : Hid (∀ y y' : World, ((∀ o, y.cell? ⟨w.heap.size, o, none⟩ = (#[.int .i64 A.k, .slice an A.nx.length cn, .slice aa A.ac.length ca] : Array Value)[o]?) ∧ y.cell? ⟨fb, 1, none⟩ = some (.pointer (some ⟨b, 0, none⟩))) → Below y.heap.size y y' → ((∀ o, y'.cell? ⟨w.heap.size, o, none⟩ = (#[.int .i64 A.k, .slice an A.nx.length cn, .slice aa A.ac.length ca] : Array Value)[o]?) ∧ y'.cell? ⟨fb, 1, none⟩ = some (.pointer (some ⟨b, 0, none⟩)))) := fun y y' hy hb => by
      have k1 : w.heap.size < y.heap.size := World.block_lt_of_cell? y ⟨w.heap.size, 0, none⟩ (hy.1 0)
      have k2 : fb < y.heap.size := World.block_lt_of_cell? y ⟨fb, 1, none⟩ hy.2
      exact ⟨fun o => by rw [below_cellJ hb k1]; exact hy.1 o, by rw [below_cellJ hb k2]; exact hy.2⟩
    clear hE hWY hF hB1 HR0 HW0
    go_wp2_with fail
    go_region_held3 (fun y => ((∀ o, y.cell? ⟨w.heap.size, o, none⟩ = (#[.int .i64 A.k, .slice an A.nx.length cn, .slice aa A.ac.length ca] : Array Value)[o]?) ∧ y.cell? ⟨fb, 1, none⟩ = some (.pointer (some ⟨b, 0, none⟩)))) (first | assumption | exact S0 | exact HSK.out _ _ (by assumption) (by assumption) | exact HSK.out _ _ (by assumption) (below_new _ _)) (first
      | (go_at_call 60; refine (fresh_any _ A _ (HA.out _ HB1.out.drew) hxl.1 hn1 hxl.2 (by omega)).mono ?_; rintro e y1 ⟨v1, rfl, ⟨an1, cn1, aa1, ca1, rfl, hx1, hc1⟩, hy1⟩; have K1 : Hid (Below w1.heap.size w1 y1) := go_on (Below.refl _ _).drew hy1; have HX1 : Hid (y1.ownsRow w1.drew.heap.size 3 1 (.slice an1 A.nx.length cn1) A.nx.length (zC A.nx)) := hx1; have HC1 : Hid (y1.ownsRow w1.drew.heap.size 4 1 (.slice aa1 A.ac.length ca1) A.ac.length (bC A.ac)) := hc1; have HY2 : Hid (∀ z, Below y1.heap.size y1 z → Below y1.heap.size y1 z) := fun _ q => q; clear hx1 hc1)
      | (go_at_call 61; refine (words_any (HF.out.below K1.out) HWY.out HMon.out.fst ⟨hks.1, hks.2.1⟩ HMon.out.pos).mono ?_; rintro e y2 ⟨g2, rfl, hy2, hg2, hw2⟩; have K2 : Hid (Below w1.heap.size w1 y2) := go_on K1.out hy2; have HW2 : Hid (WP y2 g2 A.k.toNat M.length N M.length) := hw2; clear hw2 hg2)
      | (go_at_call 62; refine (accepted_any (HF.out.below K2.out) HWY.out.len _ (HA.out _ (go_on HB1.out K2.out)) hn1).mono ?_; rintro e y3 ⟨g3, rfl, hy3, hg3, hb3⟩; have K3 : Hid (Below w1.heap.size w1 y3) := go_on K2.out hy3; have HP3 : Hid (BP y3 g3 A M M.length) := hb3; have HY3 : Hid (Below y2.heap.size y2 y3) := hy3; clear hb3 hg3)
      | (go_at_call 63; refine (lay_any (HF.out.below K3.out) HWY.out HMon.out.fst ⟨hks.1, hks.2.1⟩ HMon.out.pos HMon.out.len (fun a b ha hb => HMon.out.pr_lt ha hb) (fun p hp => HMon.out.nl hp)).mono ?_; rintro e y4 ⟨R, n, a, c, d, hn, ha, hc, hd, rfl, hy4, hR, hRT⟩; have K4 : Hid (Below w1.heap.size w1 y4) := go_on K3.out hy4; have HRT : Hid (RT y4 R n A.k.toNat N (fun _ _ => True) (fun _ _ => True)) := hRT; have HNM : Hid (M.length = n ∧ n * A.k.toNat = a ∧ n * n = c ∧ a + a = d) := ⟨hn, ha, hc, hd⟩; have HY4 : Hid (Below y3.heap.size y3 y4) := hy4; clear hRT hn ha hc hd hR))
    have HMP : Hid (MP (y4.alloc (.cells #[.pointer (some ⟨y4.heap.size, 0, none⟩), .int .i64 A.k, .slice an1 A.nx.length cn1, .slice aa1 A.ac.length ca1, .pointer (some ⟨b, 0, none⟩), .slice (some ⟨g2, 0, none⟩) M.length M.length, .slice (some ⟨g3, 0, none⟩) M.length M.length, .int .i64 A.k, .slice (some ⟨R, 0, none⟩) a a, .int .i64 A.k, .slice (some ⟨R, a, none⟩) a a, .int .i64 (n : Int), .slice (some ⟨R, d, none⟩) c c] 35)) y4.heap.size A M N w1.drew.heap.size base b mb g2 g3 R n a c d vl D an1 cn1 aa1 ca1 (.pointer (some ⟨y4.heap.size, 0, none⟩))) := by
      have hY14 : Below y1.heap.size y1 y4 := go_on (go_on hy2 HY3.out) HY4.out
      have hb : Below y4.heap.size y4 (y4.alloc (.cells #[.pointer (some ⟨y4.heap.size, 0, none⟩), .int .i64 A.k, .slice an1 A.nx.length cn1, .slice aa1 A.ac.length ca1, .pointer (some ⟨b, 0, none⟩), .slice (some ⟨g2, 0, none⟩) M.length M.length, .slice (some ⟨g3, 0, none⟩) M.length M.length, .int .i64 A.k, .slice (some ⟨R, 0, none⟩) a a, .int .i64 A.k, .slice (some ⟨R, a, none⟩) a a, .int .i64 (n : Int), .slice (some ⟨R, d, none⟩) c c] 35)) := below_new _ _
      have hnm := HNM.out
      refine ⟨?_, own_below (own_below HX1.out hY14) hb, own_below (own_below HC1.out hY14) hb, (HF.out.tb.below K4.out).below hb, ?_, ?_, HRT.out.keep (hb.block _ HRT.out.lt), HMon.out, hnm⟩
      · rw [hks.2.2]
        have q0 := heap_last y4 (.cells #[.pointer (some ⟨y4.heap.size, 0, none⟩), .int .i64 A.k, .slice an1 A.nx.length cn1, .slice aa1 A.ac.length ca1, .pointer (some ⟨b, 0, none⟩), .slice (some ⟨g2, 0, none⟩) M.length M.length, .slice (some ⟨g3, 0, none⟩) M.length M.length, .int .i64 A.k, .slice (some ⟨R, 0, none⟩) a a, .int .i64 A.k, .slice (some ⟨R, a, none⟩) a a, .int .i64 (n : Int), .slice (some ⟨R, d, none⟩) c c] 35)
        have e := hnm.1
        rw [q0]
        congr 3
        rw [e]
      · have h24 : Below y2.heap.size y2 y4 := go_on HY3.out HY4.out
        have q0 := HW2.out
        rw [hnm.1] at q0
        exact (q0.keep (h24.block g2 HW2.out.lt)).keep (hb.block g2 (by have := HW2.out.lt; have := h24.size; omega))
      · have q0 := HP3.out
        rw [hnm.1] at q0
        exact (q0.keep (HY4.out.block g3 HP3.out.lt)).keep (hb.block g3 (by have := HP3.out.lt; have := HY4.out.size; omega))
    have HBF : Hid (Below w.heap.size w (y4.alloc (.cells #[.pointer (some ⟨y4.heap.size, 0, none⟩), .int .i64 A.k, .slice an1 A.nx.length cn1, .slice aa1 A.ac.length ca1, .pointer (some ⟨b, 0, none⟩), .slice (some ⟨g2, 0, none⟩) M.length M.length, .slice (some ⟨g3, 0, none⟩) M.length M.length, .int .i64 A.k, .slice (some ⟨R, 0, none⟩) a a, .int .i64 A.k, .slice (some ⟨R, a, none⟩) a a, .int .i64 (n : Int), .slice (some ⟨R, d, none⟩) c c] 35))) := by
      have q := go_on HB1.out K4.out
      exact go_on q (below_new _ _)
    clear S0 hy1 hy2 hy3 hy4
    go_wp2_with fail
    go_ret2
    exact .inr ⟨y4.heap.size, M, N, rfl, HE.out, ⟨_, _, _, _, _, _, _, _, _, _, _, _, _, _, _, _, _, HB1.out.size, HMP.out⟩, HBF.out⟩

/-- What Build answers. -/
def BdB (A : Aut) (w : World) (e : Ending) (w' : World) : Prop :=
  (bdE A ≠ 0 ∧ e = .returned (.tuple #[.pointer none, .int .i64 (bdE A)]) ∧ Below w.heap.size w w') ∨
  ∃ ob M N, e = .returned (.tuple #[.pointer (some ⟨ob, 0, none⟩), .int .i64 0]) ∧ Good A ∧ A.ac.length ≤ 64 ∧ mEl A = some (M, N) ∧ MOb w.heap.size w' ob A M N ∧ Below w.heap.size w w'

theorem build_lows (v : Value) (A : Aut) (w : World) (h : AR w v A) (hm : A.nx.length ≤ 9223372036854775806) (hm2 : A.ac.length ≤ 9223372036854775806) :
    Calls Try.prog 33 #[v] w (BdB A w) := by
  by_cases hE : owE A ByteArray.empty = 0
  · obtain ⟨G, h64⟩ := owE_ok hE
    refine (build_low v A w h G h64).mono ?_
    rintro e w' (⟨hn, rfl, hb⟩ | ⟨ob, M, N, rfl, he, hmo, hb⟩)
    · have e1 : bdE A = 140 := by unfold bdE; rw [if_pos hE, hn]; rfl
      exact .inl ⟨by rw [e1]; decide, by rw [e1], hb⟩
    · exact .inr ⟨ob, M, N, rfl, G, h64, he, hmo, hb⟩
  · refine (build_bad v A w h hm hm2 hE).mono ?_
    rintro e w' ⟨rfl, hb⟩
    have e1 : bdE A = owE A ByteArray.empty := by unfold bdE; rw [if_neg hE]
    exact .inl ⟨by rw [e1]; exact hE, by rw [e1], hb⟩

end Go.Proofs.Ytafcejipoioigaa

namespace Go.Proofs.Ytafcejipoioigaa
open Go Go.RowKit Go.Lib Go.Maps
set_option linter.unusedVariables false
attribute [-instance] List.instBEq instBEqProd

theorem bdE_ok {A : Aut} (G : Good A) (h64 : A.ac.length ≤ 64) {M : List (List Nat)} {N : List Nat} (he : mEl A = some (M, N)) : bdE A = 0 := by
  unfold bdE
  rw [if_pos (owE_good G h64), he]
  rfl

theorem results_tmp4 {fn : Func} {t u v x : Tmp} (h : fn.results = #[.tmp t, .tmp u, .tmp v, .tmp x]) (tmps : Array Value) (P : Program) (w : World) :
    (results fn tmps).run P w = .ok (.tuple #[tmps.getD t undef, tmps.getD u undef, tmps.getD v undef, tmps.getD x undef]) w := by
  simp [results, h]

/-- What Both answers. -/
def BoQ (A : Aut) (w : World) (e : Ending) (w' : World) : Prop :=
  (bdE A ≠ 0 ∧ e = .returned (.tuple #[.pointer none, .pointer none, .bool false, .bool true]) ∧ Below w.heap.size w w') ∨
  ∃ ob rb M N, e = .returned (.tuple #[.pointer (some ⟨ob, 0, none⟩), .pointer (some ⟨rb, 0, none⟩), .bool true, .bool true]) ∧ Good A ∧ A.ac.length ≤ 64 ∧ mEl A = some (M, N) ∧ MO w' ob A M N ∧ RF w' rb A M N ∧ Below w.heap.size w w'

set_option maxHeartbeats 4000000 in
set_option maxRecDepth 100000 in
theorem both14_any (v : Value) (A : Aut) (w : World) (h : AR w v A) (hn : NilOk v) (hm : (A.nx.length + 2) * 8 ≤ 140737488355328) (hm2 : A.ac.length ≤ 140737488355328) :
    Calls Try.prog 11 #[v] w (BoQ A w) := by
  obtain ⟨an, cn, aa, ca, e, h1, h2⟩ := h.is
  have HAR : Hid (∀ w', Below w.heap.size w w' → AR w' v A) := fun w' hb => h.stay hb
  have HLE : Hid (∀ w', Below w.heap.size w w' → Calls Try.prog 39 #[v] w' (LQ A w')) := fun w' hb => lentAuto_any v A w' (h.stay hb) hn hm hm2
  have HRB : Hid (∀ w', Below w.heap.size w w' → Calls Try.prog 40 #[v] w' (RbQ A w')) := fun w' hb => rbuild_any v A w' (h.stay hb) (by omega) (by omega)
  have HNL : Hid (A.nx.length ≤ 9223372036854775806) := by show _ ≤ _; omega
  clear h h1 h2 hn
  subst e
  have R1 : RowAt (w.alloc (.cells #[.int .i64 A.k, .slice an A.nx.length cn, .slice aa A.ac.length ca] 26)) w.heap.size #[.int .i64 A.k, .slice an A.nx.length cn, .slice aa A.ac.length ca] := RowAt.last _ _ _
  have HR1 : Hid (RowAt (w.alloc (.cells #[.int .i64 A.k, .slice an A.nx.length cn, .slice aa A.ac.length ca] 26)) w.heap.size #[.int .i64 A.k, .slice an A.nx.length cn, .slice aa A.ac.length ca]) := R1
  clear R1
  go_enter Try.func11, Try.ntmps11
  go_wp2_with fail
  refine (HLE.out _ (below_new _ _)).mono ?_
  rintro e w1 ⟨g, gc, ba, bc, rfl, hi1, hb1, hl1⟩
  have HI1 : Hid (w1.ownsRow (w.alloc (.cells #[.int .i64 A.k, .slice an A.nx.length cn, .slice aa A.ac.length ca] 26)).heap.size 3 1 (.slice (some ⟨g, 0, none⟩) (A.nx.length + 2) gc) (A.nx.length + 2) (zC (A.nx ++ [-77, -78]))) := hi1
  have HBO : Hid (w1.ownsRow (w.alloc (.cells #[.int .i64 A.k, .slice an A.nx.length cn, .slice aa A.ac.length ca] 26)).heap.size 4 1 (.slice ba A.ac.length bc) A.ac.length (bC A.ac)) := hb1
  have HB1 : Hid (Below w.heap.size w w1) := go_on (below_new _ _) hl1
  have HRA : Hid (RowAt w1 w.heap.size #[.int .i64 A.k, .slice an A.nx.length cn, .slice aa A.ac.length ca]) := HR1.out.stay hl1
  have HG1 : Hid (w.heap.size < g ∧ g < w1.heap.size) := by
    have := hi1.lt g rfl
    simp only [World.size_alloc] at this
    show _ ∧ _
    omega
  have HCS1 : Hid (∃ cs : Array Value, w1.heap[g]? = some (.cells cs 3 (0, 0)) ∧ A.nx.length ≤ cs.size) := by
    rcases hi1.2 with ⟨q, _⟩ | ⟨g', cap, cur, q, r1, r2, r3, r4, r5, r6⟩
    · cases q
    · simp only [Value.slice.injEq, Option.some.injEq, Addr.mk.injEq] at q
      obtain ⟨⟨rfl, _⟩, _, rfl⟩ := q
      exact ⟨cur, r2, by omega⟩
  clear hi1 hb1 hl1 HLE HR1
  obtain ⟨W, hW⟩ : ∃ W, W = w1.alloc (.cells #[.int .i64 A.k, .slice (some ⟨g, 0, none⟩) A.nx.length gc, .slice ba A.ac.length bc] 26) := ⟨_, rfl⟩
  have HWE : Hid (W = w1.alloc (.cells #[.int .i64 A.k, .slice (some ⟨g, 0, none⟩) A.nx.length gc, .slice ba A.ac.length bc] 26)) := hW
  have hWb : Below w1.heap.size w1 W := by rw [hW]; exact below_new _ _
  have HRX : Hid (RowAt W w1.heap.size #[.int .i64 A.k, .slice (some ⟨g, 0, none⟩) A.nx.length gc, .slice ba A.ac.length bc]) := by show RowAt _ _ _; rw [hW]; exact RowAt.last _ _ _
  have HRAW : Hid (RowAt W w.heap.size #[.int .i64 A.k, .slice an A.nx.length cn, .slice aa A.ac.length ca]) := HRA.out.stay hWb
  have HBW : Hid (Below w.heap.size w W) := go_on HB1.out hWb
  have HGL : Hid (g < W.heap.size) := by have := HG1.out; have := hWb.size; show _ < _; omega
  have HX : Hid (∀ y, Below W.heap.size W y → AR y (.agg #[.int .i64 A.k, .slice (some ⟨g, 0, none⟩) A.nx.length gc, .slice ba A.ac.length bc]) A) := fun y hy => ⟨_, _, _, _, rfl, (lent_sr HI1.out).stay (hWb.trans (hy.mono hWb.size)), (own_sr HBO.out).stay (hWb.trans (hy.mono hWb.size))⟩
  have HSTY : Hid (∀ y, Below W.heap.size W y → Calls Try.prog 42 #[.agg #[.int .i64 A.k, .slice (some ⟨g, 0, none⟩) A.nx.length gc, .slice ba A.ac.length bc], .agg #[.int .i64 A.k, .slice an A.nx.length cn, .slice aa A.ac.length ca]] y fun e w' => e = .returned (.bool true) ∧ Below y.heap.size y w') := fun y hy =>
    stay8_any A y _ (HAR.out y (go_on HBW.out hy)) _ g gc ba bc (by omega) (by omega) (own_below (own_below HI1.out hWb) hy) (((own_sr HBO.out).stay hWb).stay hy)
  have HCW : Hid (∀ y, Below W.heap.size W y → ∃ cs : Array Value, y.heap[g]? = some (.cells cs 3 (0, 0)) ∧ A.nx.length ≤ cs.size) := fun y hy => by
    obtain ⟨cs, hc, hs⟩ := HCS1.out
    exact ⟨cs, (hy.block g HGL.out).trans ((hWb.block g HG1.out.2).trans hc), hs⟩
  clear hW hWb HRA HCS1
  go_wp2_with fail
  rw [← HWE.out]
  refine (build_lows _ A _ (HX.out _ (Below.refl _ _)) (by omega) (by omega)).mono ?_
  rintro e w2 (⟨hne, rfl, hb2⟩ | ⟨ob, M, N, rfl, G, h64, hE, hmo, hb2⟩)
  · have HB2 : Hid (Below W.heap.size W w2) := hb2
    have HNE : Hid (bdE A ≠ 0) := hne
    obtain ⟨E, hEE⟩ : ∃ E, bdE A = E := ⟨_, rfl⟩
    have HEE : Hid (bdE A = E) := hEE
    have hE0 : E ≠ 0 := by rw [← hEE]; exact hne
    have cs2 := (HRAW.out.stay hb2).cell
    rw [hEE]
    clear hb2 hne hEE
    go_wp2_with fail
    refine (HRB.out _ (go_on HBW.out HB2.out)).mono ?_
    rintro e w3 (⟨_, rfl, hb3⟩ | ⟨rb, M, N, _, G, h64, hel, _⟩)
    · rw [HEE.out]
      have HB3 : Hid (Below W.heap.size W w3) := go_on HB2.out hb3
      have cs3 := (HRAW.out.stay HB3.out).cell
      have cx3 := (HRX.out.stay HB3.out).cell
      have hq0 : (E == 0) = false := by rw [beq_eq_false_iff_ne]; exact hE0
      have hqd : decide (E = 0) = false := decide_eq_false hE0
      have hqE : (E == E) = true := by simp
      have HNM : Hid (∀ y, Calls Try.prog 41 #[.int .i64 E] y fun e w' => e = .returned (.int .i64 E) ∧ y = w') := fun y => num14_any E y
      clear hb3 hE0 cs2
      go_wp2_with fail
      refine (HNM.out _).mono ?_
      rintro e y3 ⟨rfl, hy3⟩
      subst hy3
      go_wp2_with fail
      refine (HSTY.out _ HB3.out).mono ?_
      rintro e w4 ⟨rfl, hb4⟩
      have HRX4 : Hid (RowAt w4 w1.heap.size #[.int .i64 A.k, .slice (some ⟨g, 0, none⟩) A.nx.length gc, .slice ba A.ac.length bc]) := HRX.out.stay (go_on HB3.out hb4)
      have HB4 : Hid (Below w.heap.size w w4) := go_on (go_on HBW.out HB3.out) hb4
      have HC4 : Hid (∃ cs : Array Value, w4.heap[g]? = some (.cells cs 3 (0, 0)) ∧ A.nx.length ≤ cs.size) := HCW.out _ (go_on HB3.out hb4)
      clear hb4 cs3 cx3 HB3 HB2
      go_wp2_with fail
      go_loopw [12] (fun vi wr => ∃ i : Nat, vi = .int .i64 i ∧ i ≤ A.nx.length ∧ RowAt wr w1.heap.size #[.int .i64 A.k, .slice (some ⟨g, 0, none⟩) A.nx.length gc, .slice ba A.ac.length bc] ∧ Below w.heap.size w wr ∧ (∃ cs : Array Value, wr.heap[g]? = some (.cells cs 3 (0, 0)) ∧ A.nx.length ≤ cs.size) ) (fun vi _ => A.nx.length - (Go.RowKit.intOf vi).toNat)
      case atStart => exact ⟨0, rfl, Nat.zero_le _, HRX4.out, HB4.out, HC4.out⟩
      case round =>
        clear HRX4 HB4 HC4
        obtain ⟨i, rfl, hin, hrx, hb, hc⟩ := hrel
        have HRX : Hid (RowAt wr w1.heap.size #[.int .i64 A.k, .slice (some ⟨g, 0, none⟩) A.nx.length gc, .slice ba A.ac.length bc]) := hrx
        have HB : Hid (Below w.heap.size w wr) := hb
        have HC : Hid (∃ cs : Array Value, wr.heap[g]? = some (.cells cs 3 (0, 0)) ∧ A.nx.length ≤ cs.size) := hc
        have c1 : wr.cell? ⟨w1.heap.size, 1, none⟩ = some (.slice (some ⟨g, 0, none⟩) A.nx.length gc) := hrx.cell 1
        clear hrx hb hc
        have hnl := HNL.out
        by_cases hlt : i < A.nx.length
        · have hiI : (i : Int) < A.nx.length := by omega
          have hid : decide ((i : Int) < A.nx.length) = true := decide_eq_true hiI
          obtain ⟨cs, hcs, hsz⟩ := HC.out
          have hcg : wr.cell? ⟨g, i, none⟩ = some (pvS wr g i) := by unfold pvS; rw [cell_of_row _ _ _ _ _ _ hcs, Array.getElem?_eq_getElem (by omega)]; rfl
          have hfg : wr.frozen? ⟨g, i, none⟩ = false := frozen_blk hcs i
          have HRXN : Hid (RowAt (wr.setCell ⟨g, i, none⟩ (.int .i64 (-5))) w1.heap.size #[.int .i64 A.k, .slice (some ⟨g, 0, none⟩) A.nx.length gc, .slice ba A.ac.length bc]) := rowAt_keep HRX.out (by simp [World.setCell]) (heap_set_other (by have := HG1.out; omega))
          have HBN : Hid (Below w.heap.size w (wr.setCell ⟨g, i, none⟩ (.int .i64 (-5)))) := HB.out.setCell (p := ⟨g, i, none⟩) (by have := HG1.out; show w.heap.size ≤ g; omega) _
          have HCN : Hid (∃ cs : Array Value, (wr.setCell ⟨g, i, none⟩ (.int .i64 (-5))).heap[g]? = some (.cells cs 3 (0, 0)) ∧ A.nx.length ≤ cs.size) := ⟨_, heap_set hcs, by simpa using hsz⟩
          clear hcs hsz
          go_wp2_with fail
          go_roundw
          case rel => exact ⟨i + 1, by go_num, by omega, HRXN.out, HBN.out, HCN.out⟩
          case measure => simp [Go.RowKit.intOf]; omega
        · have hiI : ¬ (i : Int) < A.nx.length := by omega
          have hid : decide ((i : Int) < A.nx.length) = false := decide_eq_false hiI
          go_wp2_with fail
          (try simp only [Exit.inBlock, Exit.then])
          refine bodyPost_ret (results_tmp4 rfl _ _ _) rfl ?_
          exact .inl ⟨HNE.out, rfl, HB.out⟩
    · exact absurd (bdE_ok G h64 hel) HNE.out
  · have HB2 : Hid (Below W.heap.size W w2) := hb2
    have HOK : Hid (Good A ∧ A.ac.length ≤ 64 ∧ mEl A = some (M, N)) := ⟨G, h64, hE⟩
    have HMO2 : Hid (MOb W.heap.size w2 ob A M N) := hmo
    have HS2 : Hid (W.heap.size ≤ w2.heap.size) := hb2.size
    have cs2 := (HRAW.out.stay hb2).cell
    clear hb2 G h64 hE hmo
    go_wp2_with fail
    refine (HRB.out _ (go_on HBW.out HB2.out)).mono ?_
    rintro e w3 (⟨hne, _, _⟩ | ⟨rb, M', N', rfl, G, h64, hel, hrf, hb3⟩)
    · exact absurd (bdE_ok HOK.out.1 HOK.out.2.1 HOK.out.2.2) hne
    · have hMN : M' = M ∧ N' = N := by
        have := HOK.out.2.2
        rw [hel, Option.some.injEq, Prod.mk.injEq] at this
        exact this
      obtain ⟨rfl, rfl⟩ := hMN
      obtain ⟨M, hM⟩ : ∃ z, z = M' := ⟨_, rfl⟩
      obtain ⟨N, hN⟩ : ∃ z, z = N' := ⟨_, rfl⟩
      rw [← hM, ← hN] at HOK HMO2 hrf
      have HB3 : Hid (Below W.heap.size W w3) := go_on HB2.out hb3
      have HMO3 : Hid (MOb W.heap.size w3 ob A M N) := HMO2.out.below hb3
      have HRF3 : Hid (RFb w2.heap.size w3 rb A M N) := hrf
      have cs3 := (HRAW.out.stay HB3.out).cell
      have cx3 := (HRX.out.stay HB3.out).cell
      have HNM : Hid (∀ y, Calls Try.prog 41 #[.int .i64 0] y fun e w' => e = .returned (.int .i64 0) ∧ y = w') := fun y => num14_any 0 y
      clear hb3 cs2 hM hN hrf G h64 hel HMO2
      go_wp2_with fail
      refine (HNM.out _).mono ?_
      rintro e y3 ⟨rfl, hy3⟩
      subst hy3
      go_wp2_with fail
      refine (HSTY.out _ HB3.out).mono ?_
      rintro e w4 ⟨rfl, hb4⟩
      have HRX4 : Hid (RowAt w4 w1.heap.size #[.int .i64 A.k, .slice (some ⟨g, 0, none⟩) A.nx.length gc, .slice ba A.ac.length bc]) := HRX.out.stay (go_on HB3.out hb4)
      have HB4 : Hid (Below w.heap.size w w4) := go_on (go_on HBW.out HB3.out) hb4
      have HC4 : Hid (∃ cs : Array Value, w4.heap[g]? = some (.cells cs 3 (0, 0)) ∧ A.nx.length ≤ cs.size) := HCW.out _ (go_on HB3.out hb4)
      have HMO4 : Hid (MOb W.heap.size w4 ob A M N) := HMO3.out.below hb4
      have HRF4 : Hid (RFb w2.heap.size w4 rb A M N) := HRF3.out.below hb4
      clear hb4 cs3 cx3 HB3 HB2 HMO3 HRF3
      go_wp2_with fail
      go_loopw [12] (fun vi wr => ∃ i : Nat, vi = .int .i64 i ∧ i ≤ A.nx.length ∧ RowAt wr w1.heap.size #[.int .i64 A.k, .slice (some ⟨g, 0, none⟩) A.nx.length gc, .slice ba A.ac.length bc] ∧ Below w.heap.size w wr ∧ (∃ cs : Array Value, wr.heap[g]? = some (.cells cs 3 (0, 0)) ∧ A.nx.length ≤ cs.size) ∧ MOb W.heap.size wr ob A M N ∧ RFb w2.heap.size wr rb A M N ) (fun vi _ => A.nx.length - (Go.RowKit.intOf vi).toNat)
      case atStart => exact ⟨0, rfl, Nat.zero_le _, HRX4.out, HB4.out, HC4.out, HMO4.out, HRF4.out⟩
      case round =>
        clear HRX4 HB4 HC4 HMO4 HRF4
        obtain ⟨i, rfl, hin, hrx, hb, hc, hmo, hrf⟩ := hrel
        have HMO : Hid (MOb W.heap.size wr ob A M N) := hmo
        have HRF : Hid (RFb w2.heap.size wr rb A M N) := hrf
        have HRX : Hid (RowAt wr w1.heap.size #[.int .i64 A.k, .slice (some ⟨g, 0, none⟩) A.nx.length gc, .slice ba A.ac.length bc]) := hrx
        have HB : Hid (Below w.heap.size w wr) := hb
        have HC : Hid (∃ cs : Array Value, wr.heap[g]? = some (.cells cs 3 (0, 0)) ∧ A.nx.length ≤ cs.size) := hc
        have c1 : wr.cell? ⟨w1.heap.size, 1, none⟩ = some (.slice (some ⟨g, 0, none⟩) A.nx.length gc) := hrx.cell 1
        clear hmo hrf
        clear hrx hb hc
        have hnl := HNL.out
        by_cases hlt : i < A.nx.length
        · have hiI : (i : Int) < A.nx.length := by omega
          have hid : decide ((i : Int) < A.nx.length) = true := decide_eq_true hiI
          obtain ⟨cs, hcs, hsz⟩ := HC.out
          have hcg : wr.cell? ⟨g, i, none⟩ = some (pvS wr g i) := by unfold pvS; rw [cell_of_row _ _ _ _ _ _ hcs, Array.getElem?_eq_getElem (by omega)]; rfl
          have hfg : wr.frozen? ⟨g, i, none⟩ = false := frozen_blk hcs i
          have HMN : Hid (MOb W.heap.size (wr.setCell ⟨g, i, none⟩ (.int .i64 (-5))) ob A M N) := HMO.out.set HGL.out hcs
          have HRN : Hid (RFb w2.heap.size (wr.setCell ⟨g, i, none⟩ (.int .i64 (-5))) rb A M N) := HRF.out.set (by have := HGL.out; have := HS2.out; omega)
          have HRXN : Hid (RowAt (wr.setCell ⟨g, i, none⟩ (.int .i64 (-5))) w1.heap.size #[.int .i64 A.k, .slice (some ⟨g, 0, none⟩) A.nx.length gc, .slice ba A.ac.length bc]) := rowAt_keep HRX.out (by simp [World.setCell]) (heap_set_other (by have := HG1.out; omega))
          have HBN : Hid (Below w.heap.size w (wr.setCell ⟨g, i, none⟩ (.int .i64 (-5)))) := HB.out.setCell (p := ⟨g, i, none⟩) (by have := HG1.out; show w.heap.size ≤ g; omega) _
          have HCN : Hid (∃ cs : Array Value, (wr.setCell ⟨g, i, none⟩ (.int .i64 (-5))).heap[g]? = some (.cells cs 3 (0, 0)) ∧ A.nx.length ≤ cs.size) := ⟨_, heap_set hcs, by simpa using hsz⟩
          clear hcs hsz
          go_wp2_with fail
          go_roundw
          case rel => exact ⟨i + 1, by go_num, by omega, HRXN.out, HBN.out, HCN.out, HMN.out, HRN.out⟩
          case measure => simp [Go.RowKit.intOf]; omega
        · have hiI : ¬ (i : Int) < A.nx.length := by omega
          have hid : decide ((i : Int) < A.nx.length) = false := decide_eq_false hiI
          go_wp2_with fail
          (try simp only [Exit.inBlock, Exit.then])
          refine bodyPost_ret (results_tmp4 rfl _ _ _) rfl ?_
          exact .inr ⟨ob, rb, M, N, rfl, HOK.out.1, HOK.out.2.1, HOK.out.2.2, HMO.out.mo, HRF.out.rf, HB.out⟩

end Go.Proofs.Ytafcejipoioigaa

namespace Go.Proofs.Ytafcejipoioigaa
open Go Go.ChangeShapes Go.WideShapes Go.ChangeAt Go.RowKit Go.Deep
set_option linter.unusedVariables false

theorem Try.cells_int1 : Try.prog.cellsOf 3 = 1 := by kernel_rfl
theorem Try.cells_bool1 : Try.prog.cellsOf 4 = 1 := by kernel_rfl
theorem Try.cells_ints1 : Try.prog.cellsOf 23 = 1 := by kernel_rfl
theorem Try.cells_bools1 : Try.prog.cellsOf 24 = 1 := by kernel_rfl
theorem Try.cells_auto : Try.prog.cellsOf 26 = 3 := by kernel_rfl
theorem Try.bytes_int1 : Try.prog.bytesOf 3 = 8 := by kernel_rfl
theorem Try.bytes_bool1 : Try.prog.bytesOf 4 = 1 := by kernel_rfl
theorem Try.laidOut : laidOutB Try.prog = true := by kernel_rfl
theorem vals_at {w : World} {a : Addr} {n : Nat} {f : Nat → Value} (h : ∀ i, i < n → w.cell? (a.add i) = some (f i)) (hp : 0 < n) : ∃ b off, a = ⟨b, off, none⟩ ∧ ∀ j, j < n → w.cell? ⟨b, off + j, none⟩ = some (f j) := by
  obtain ⟨b, off, spot⟩ := a
  have hspot : spot = none := by simpa [Addr.add] using World.cell?_spot (h 0 hp)
  subst hspot
  exact ⟨b, off, rfl, fun j hj => by rw [← Go.WideShapes.add_plain]; exact h j hj⟩

set_option maxRecDepth 100000 in
theorem open_auto {H : Type} {enc : TypeId × Value → H} {w : World} {held : Bool} {r : Reach} {b0 : Nat} {v : Value} {d : DataW H} {ps : List MemPlace} (hval : Value.okWide Try.prog w r b0 26 v) (hd : DataW.Trod enc Try.prog w 0 (fun _ => true) held 26 v d ps) :
    ∃ A : Aut, AR w v A ∧ NilOk v ∧ (Lit.int .i64 A.k).wf = true ∧ ∃ dk dn da, d = .agg [dk, dn, da] ∧ ((dn = .nil ∧ A.nx = []) ∨ ∃ e s, dn = .slice e s ∧ A.nx.length ≤ e.length + s.length) ∧ ((da = .nil ∧ A.ac = []) ∨ ∃ e s, da = .slice e s ∧ A.ac.length ≤ e.length + s.length) := by
  simp only [Value.okWide, Try.underlying26] at hval
  obtain ⟨cs, rfl, hsz, _⟩ := hval
  rw [Try.cells_auto] at hsz
  obtain ⟨fuel, hf⟩ := hd
  obtain ⟨y0, y1, y2, m, hx, _, h0, h1, h2⟩ := trod_struct3 Try.underlying26 hf
  obtain ⟨c0, c1, c2, hcs⟩ : ∃ c0 c1 c2, cs = #[c0, c1, c2] := ⟨cs[0], cs[1], cs[2], by
    apply Array.ext_getElem?
    intro i
    have : i = 0 ∨ i = 1 ∨ i = 2 ∨ 3 ≤ i := by omega
    rcases this with rfl | rfl | rfl | hi
    · simp [hsz]
    · simp [hsz]
    · simp [hsz]
    · rw [Array.getElem?_eq_none (by omega), Array.getElem?_eq_none (by simp; omega)]⟩
  subst hcs
  simp only [Try.cells_int1, Try.cells_ints1, Try.cells_bools1, Value.cells] at h0 h1 h2
  obtain ⟨k, ek, xk, wk⟩ := DataW.trod_int Try.underlying3 h0
  simp at ek
  subst ek
  simp only [Prod.mk.injEq] at hx
  obtain ⟨nx, an, cn, e1, s1, n1, d1⟩ : ∃ (nx : List Int) (an : Option Addr) (cn : Nat), c1 = .slice an nx.length cn ∧ SR w an (zC nx) ∧ (an = none → cn = 0) ∧ ((y1.1 = .nil ∧ nx = []) ∨ ∃ e s, y1.1 = .slice e s ∧ nx.length ≤ e.length + s.length) := by
    rcases open_ints Try.underlying23 Try.underlying3 Try.cells_int1 h1 with ⟨hc, hx1⟩ | ⟨a', len', cap', zs, hc, _, hl, _, hzl, hx1, hcells, _⟩
    · simp at hc
      subst hc
      exact ⟨[], none, 0, rfl, SR.nil _ _, fun _ => rfl, .inl ⟨by rw [hx1], rfl⟩⟩
    · simp at hc
      subst hc
      have hle : len' ≤ zs.length := by
        rw [hzl]
        split <;> omega
      refine ⟨zs.take len', some a', cap', by rw [List.length_take, Nat.min_eq_left hle], ?_, (fun h => by cases h), .inr ⟨_, _, by rw [hx1], ?_⟩⟩
      · intro i u hi
        have hi' : i < len' := by
          have := (List.getElem?_eq_some_iff.1 hi).1
          simp [zC] at this
          omega
        obtain ⟨b, off, rfl, hc⟩ := ints_at hcells (by omega)
        have hh := hc i (by omega)
        refine ⟨b, off, rfl, World.block_lt_of_cell? w _ hh, ?_⟩
        rw [hh, ← hi]
        simp [zC, List.getD_eq_getElem?_getD, hi', List.getElem?_eq_getElem (show i < zs.length by omega)]
      · simp [lits]
  obtain ⟨ac, aa, ca, e2, s2, n2, d2⟩ : ∃ (ac : List Bool) (aa : Option Addr) (ca : Nat), c2 = .slice aa ac.length ca ∧ SR w aa (bC ac) ∧ (aa = none → ca = 0) ∧ ((y2.1 = .nil ∧ ac = []) ∨ ∃ e s, y2.1 = .slice e s ∧ ac.length ≤ e.length + s.length) := by
    rcases open_bools Try.underlying24 Try.underlying4 Try.cells_bool1 h2 with ⟨hc, hx1⟩ | ⟨a', len', cap', B, hc, _, hl, _, hx1, hcells⟩
    · simp at hc
      subst hc
      exact ⟨[], none, 0, rfl, SR.nil _ _, fun _ => rfl, .inl ⟨by rw [hx1], rfl⟩⟩
    · simp at hc
      subst hc
      refine ⟨(List.range len').map B, some a', cap', by simp, ?_, (fun h => by cases h), .inr ⟨_, _, by rw [hx1]; rfl, by simp⟩⟩
      intro i u hi
      have hi' : i < len' := by
        have := (List.getElem?_eq_some_iff.1 hi).1
        simp [bC] at this
        omega
      obtain ⟨b, off, rfl, hc⟩ := vals_at (n := cap') (f := fun i => .bool (B i)) hcells (by omega)
      have hh := hc i (by omega)
      refine ⟨b, off, rfl, World.block_lt_of_cell? w _ hh, ?_⟩
      rw [hh, ← hi]
      simp [bC, hi']
  subst e1 e2
  exact ⟨⟨k, nx, ac⟩, ⟨an, cn, aa, ca, rfl, s1, s2⟩, fun k' an' n' cn' aa' m' ca' e => by simp at e; obtain ⟨_, ⟨rfl, _, rfl⟩, rfl, _, rfl⟩ := e; exact ⟨n1, n2⟩, wk, _, _, _, hx.1, d1, d2⟩
theorem sized_auto {H : Type} {ts : List TypeId} {ds : List (DataW H)} (h : (DataW.weightsEach Try.prog ts ds).all (· ≤ reachBytes) = true) {j : Nat} {dk dn da : DataW H} (ht : ts[j]? = some 26) (hd : ds[j]? = some (.agg [dk, dn, da])) :
    (∀ e s, dn = .slice e s → (e.length + s.length) * 8 ≤ reachBytes) ∧ (∀ e s, da = .slice e s → e.length + s.length ≤ reachBytes) := by
  constructor
  · intro e s he
    subst he
    have := List.all_eq_true.1 h _ (DataW.weights_mem_each ht hd ((e.length + s.length) * 8) (by simp [DataW.weights, DataW.weightsEach, Try.underlying26, Try.underlying23, Try.bytes_int1]))
    simpa using this
  · intro e s he
    subst he
    have := List.all_eq_true.1 h _ (DataW.weights_mem_each ht hd ((e.length + s.length) * 1) (by simp [DataW.weights, DataW.weightsEach, Try.underlying26, Try.underlying24, Try.bytes_bool1]))
    simpa using this
/-- The lists' lengths, by the form's own reach. -/
theorem auto_bounds {H : Type} {ts : List TypeId} {ds : List (DataW H)} (h : (DataW.weightsEach Try.prog ts ds).all (· ≤ reachBytes) = true) {j : Nat} {dk dn da : DataW H} (ht : ts[j]? = some 26) (hd : ds[j]? = some (.agg [dk, dn, da])) {A : Aut}
    (h1 : (dn = .nil ∧ A.nx = []) ∨ ∃ e s, dn = .slice e s ∧ A.nx.length ≤ e.length + s.length) (h2 : (da = .nil ∧ A.ac = []) ∨ ∃ e s, da = .slice e s ∧ A.ac.length ≤ e.length + s.length) :
    (A.nx.length + 2) * 8 ≤ 140737488355328 ∧ A.ac.length ≤ 140737488355328 := by
  obtain ⟨b1, b2⟩ := sized_auto h ht hd
  constructor
  · rcases h1 with ⟨_, e⟩ | ⟨e, s, he, hl⟩
    · rw [e]; decide
    · have := b1 e s he
      simp only [reachBytes] at this
      omega
  · rcases h2 with ⟨_, e⟩ | ⟨e, s, he, hl⟩
    · rw [e]; decide
    · have := b2 e s he
      simp only [reachBytes] at this
      omega
end Go.Proofs.Ytafcejipoioigaa

namespace Go.Proofs.Ytafcejipoioigaa
set_option linter.unusedVariables false

/-- First places rise. -/
theorem Mon.first {A : Aut} {M : List (List Nat)} {N : List Nat} (h : Mon A M N) {j : Nat} (h0 : 0 < j) (hj : j < M.length) : N[N.idxOf j]? = some j ∧ N.idxOf j / A.k.toNat < j ∧ ∀ q i, q < N.idxOf j → N[q]? = some i → i < j := by
  obtain ⟨p, hp, hq, hr⟩ := h.bi.fresh j h0 hj
  have e := idxOf_first hp (fun q hqp e => by have := hr q j hqp e; omega)
  rw [e]
  exact ⟨hp, hq, hr⟩
theorem slt_trans {u v w : List Nat} (h : slt u v) (g : slt v w) : slt u w := by
  refine ⟨sle_trans h.1 g.1, fun e => ?_⟩
  subst e
  exact h.2 (sle_anti h.1 g.1)
theorem slt_le {u v w : List Nat} (h : slt u v) (g : sle v w) : slt u w := by
  refine ⟨sle_trans h.1 g, fun e => ?_⟩
  subst e
  exact h.2 (sle_anti h.1 g)
theorem Mon.rise {A : Aut} {M : List (List Nat)} {N : List Nat} (h : Mon A M N) : ∀ j, j < M.length → ∀ i, i < j → slt (Go.Proofs.Ytafcejipoioigaa.lw A.k.toNat N i) (Go.Proofs.Ytafcejipoioigaa.lw A.k.toNat N j) := by
  intro j
  induction j using Nat.strongRecOn with
  | _ j ih =>
    intro hj i hij
    obtain ⟨a1, a2, a3⟩ := h.first (by omega) hj
    rw [lw_step h.fst (s := j) (by omega) hj]
    by_cases e : i = 0
    · subst e
      rw [lw_zero]
      exact slt_nil _ _
    · obtain ⟨b1, b2, b3⟩ := h.first (j := i) (by omega) (by omega)
      have hlt : N.idxOf i < N.idxOf j := by
        by_cases q : N.idxOf i < N.idxOf j
        · exact q
        · by_cases q2 : N.idxOf i = N.idxOf j
          · rw [q2, a1] at b1; simp at b1; omega
          · have := b3 _ _ (show N.idxOf j < N.idxOf i by omega) a1
            omega
      rw [lw_step h.fst (s := i) (by omega) (by omega)]
      have hd : N.idxOf i / A.k.toNat ≤ N.idxOf j / A.k.toNat := Nat.div_le_div_right (Nat.le_of_lt hlt)
      by_cases c : N.idxOf i / A.k.toNat = N.idxOf j / A.k.toNat
      · rw [c]
        apply slt_letter
        have e1 := Nat.div_add_mod (N.idxOf i) A.k.toNat
        have e2 := Nat.div_add_mod (N.idxOf j) A.k.toNat
        rw [c] at e1
        omega
      · exact slt_snoc (ih _ a2 (by omega) _ (by omega)) _ _
/-- A letter behind an element: no later word. -/
theorem Mon.step_le {A : Aut} {M : List (List Nat)} {N : List Nat} (h : Mon A M N) {x c : Nat} (hx : x < M.length) (hc : c < A.k.toNat) : sle (Go.Proofs.Ytafcejipoioigaa.lw A.k.toNat N (N.getD (x * A.k.toNat + c) 0)) (Go.Proofs.Ytafcejipoioigaa.lw A.k.toNat N x ++ [c]) := by
  obtain ⟨l, _, h2, hp⟩ := h.at hx hc
  obtain ⟨j, hj⟩ : ∃ j, N.getD (x * A.k.toNat + c) 0 = j := ⟨_, rfl⟩
  rw [hj] at h2 ⊢
  have hjl := (List.getElem?_eq_some_iff.1 h2).1
  by_cases e : j = 0
  · subst e; rw [lw_zero]; exact sle_nil _
  · obtain ⟨a1, a2, a3⟩ := h.first (j := j) (by omega) hjl
    have hle : N.idxOf j ≤ x * A.k.toNat + c := by
      by_cases q : N.idxOf j ≤ x * A.k.toNat + c
      · exact q
      · have hn : N[x * A.k.toNat + c]? = some j := by rw [← hj, List.getElem?_eq_getElem hp, getD_of (List.getElem?_eq_getElem hp)]
        have := a3 _ _ (by omega) hn
        omega
    rw [lw_step h.fst (s := j) (by omega) hjl]
    have e1 : (x * A.k.toNat + c) / A.k.toNat = x := by rw [Nat.mul_comm, Nat.mul_add_div (by omega), Nat.div_eq_of_lt hc]; rfl
    have e2 : (x * A.k.toNat + c) % A.k.toNat = c := by rw [Nat.mul_comm, Nat.mul_add_mod, Nat.mod_eq_of_lt hc]
    have hd : N.idxOf j / A.k.toNat ≤ x := by rw [← e1]; exact Nat.div_le_div_right hle
    by_cases q : N.idxOf j / A.k.toNat = x
    · rw [q]
      have e3 := Nat.div_add_mod (N.idxOf j) A.k.toNat
      rw [q] at e3
      by_cases q2 : N.idxOf j % A.k.toNat = c
      · rw [q2]; exact sle_refl _
      · refine (slt_letter _ ?_).1
        have : A.k.toNat * x = x * A.k.toNat := Nat.mul_comm _ _
        omega
    · exact (slt_snoc (h.rise x hx _ (by omega)) _ _).1
theorem snoc_ind {p : List Nat → Prop} (h0 : p []) (h1 : ∀ u c, p u → p (u ++ [c])) : ∀ u, p u := by
  intro u
  have : ∀ n u, u.length = n → p u := by
    intro n
    induction n with
    | zero => intro u hu; rw [List.length_eq_zero_iff.1 hu]; exact h0
    | succ n ih =>
      intro u hu
      have hne : u ≠ [] := by intro e; rw [e] at hu; simp at hu
      rw [← List.dropLast_concat_getLast hne]
      exact h1 _ _ (ih _ (by simp; omega))
  exact this _ u rfl
/-- No word ahead of an element's least word has that element. -/
theorem Mon.least {A : Aut} {M : List (List Nat)} {N : List Nat} (h : Mon A M N) : ∀ u, Lt A.k.toNat u → sle (Go.Proofs.Ytafcejipoioigaa.lw A.k.toNat N (mr A.k.toNat N 0 u)) u := by
  apply snoc_ind
  · intro _
    rw [mr_nil, lw_zero]
    exact sle_refl _
  · intro u c ih hu
    have := ih hu.left
    rw [mr_app, mr_one]
    exact sle_trans (h.step_le (h.lt hu.left h.pos) (hu.right c (by simp))) (sle_app this _)
theorem lxl_pre (a : List Nat) : ∀ {u v : List Nat}, lxl u v → lxl (a ++ u) (a ++ v) := by
  intro u v h
  exact lxl_app u v rfl (lxl_refl a) (fun _ => h)
theorem sle_pre (a : List Nat) {u v : List Nat} (h : sle u v) : sle (a ++ u) (a ++ v) := by
  rcases h with h | ⟨h, g⟩
  · exact .inl (by simp; omega)
  · exact .inr ⟨by simp; omega, lxl_pre a g⟩
/-- Pieces of least words are least words. -/
theorem Mon.piece {A : Aut} {M : List (List Nat)} {N : List Nat} (h : Mon A M N) {x : Nat} (hx : x < M.length) {a b c : List Nat} (e : Go.Proofs.Ytafcejipoioigaa.lw A.k.toNat N x = a ++ b ++ c) : Go.Proofs.Ytafcejipoioigaa.lw A.k.toNat N (mr A.k.toNat N 0 b) = b := by
  obtain ⟨hl, hw⟩ := h.lw x hx
  rw [e] at hl hw
  have hb : Lt A.k.toNat b := hl.left.right
  have hv := h.least b hb
  obtain ⟨hvl, hvw⟩ := h.lw _ (h.lt hb h.pos)
  obtain ⟨v, hvE⟩ : ∃ v, Go.Proofs.Ytafcejipoioigaa.lw A.k.toNat N (mr A.k.toNat N 0 b) = v := ⟨_, rfl⟩
  rw [hvE] at hv hvl hvw ⊢
  have hs : mr A.k.toNat N 0 (a ++ v ++ c) = x := by
    rw [mr_app, mr_app, ← hw, mr_app, mr_app]
    congr 1
    rw [← h.mr_pr (h.lt hl.left.left h.pos) hvl, ← h.mr_pr (h.lt hl.left.left h.pos) hb, hvw]
  have h1 := h.least (a ++ v ++ c) ((hl.left.left.app hvl).app hl.right)
  rw [hs, e] at h1
  have h2 : sle (a ++ v ++ c) (a ++ b ++ c) := sle_app (sle_pre a hv) c
  have := sle_anti h2 h1
  rw [List.append_left_inj, List.append_right_inj] at this
  exact this
end Go.Proofs.Ytafcejipoioigaa

namespace Go.Proofs.Ytafcejipoioigaa
set_option linter.unusedVariables false

theorem least_of {p : Nat → Prop} (h : ∃ n, p n) : ∃ n, p n ∧ ∀ m, m < n → ¬ p m := by
  obtain ⟨n, hn⟩ := h
  induction n using Nat.strongRecOn with
  | _ n ih =>
    by_cases c : ∃ m, m < n ∧ p m
    · obtain ⟨m, hm, hp⟩ := c
      exact ih m hm hp
    · exact ⟨n, hn, fun m hm hp => c ⟨m, hm, hp⟩⟩

/-- Each point has its tail and its ring. -/
theorem tr_ex {f : Nat → Nat} {n i : Nat} (h : ∀ i, i < n → f i < n) (hi : i < n) : ∃ t r, TR f i t r := by
  have h1 : ∃ b, ∃ a, a < b ∧ orb f i a = orb f i b := by
    apply Classical.byContradiction
    intro hc
    have := nodup_le n ((List.range (n + 1)).map (orb f i)) (map_nodup (fun a b hab hb e => hc ⟨b, a, hab, e⟩)) (fun x hx => by
      obtain ⟨k, _, rfl⟩ := List.mem_map.1 hx
      exact orb_lt h hi k)
    simp at this
    omega
  obtain ⟨b, ⟨a, hab, e⟩, hm⟩ := least_of h1
  refine ⟨a, b - a, ?_, ?_, by omega⟩
  · intro c d hcd hd q
    exact hm d (by omega) ⟨c, hcd, q⟩
  · rw [show a + (b - a) = b by omega, e]

/-- Multiplying by i from the right. -/
def rm (K : Nat) (N : List Nat) (i : Nat) : Nat → Nat := fun x => pr K N x i

/-- The power n of i. -/
def pwN (K : Nat) (N : List Nat) (i n : Nat) : Nat := orb (rm K N i) 0 n

theorem pwN_zero (K : Nat) (N : List Nat) (i : Nat) : pwN K N i 0 = 0 := rfl

theorem pwN_succ (K : Nat) (N : List Nat) (i n : Nat) : pwN K N i (n + 1) = pr K N (pwN K N i n) i := rfl

theorem Mon.rm_lt {A : Aut} {M : List (List Nat)} {N : List Nat} (h : Mon A M N) {i : Nat} (hi : i < M.length) : ∀ x, x < M.length → rm A.k.toNat N i x < M.length := fun x hx => h.pr_lt hx hi

theorem Mon.pw_lt {A : Aut} {M : List (List Nat)} {N : List Nat} (h : Mon A M N) {i : Nat} (hi : i < M.length) (n : Nat) : pwN A.k.toNat N i n < M.length := orb_lt (h.rm_lt hi) h.pos n

theorem Mon.pw_one {A : Aut} {M : List (List Nat)} {N : List Nat} (h : Mon A M N) {i : Nat} (hi : i < M.length) : pwN A.k.toNat N i 1 = i := h.one_pr hi

theorem Mon.pw_add {A : Aut} {M : List (List Nat)} {N : List Nat} (h : Mon A M N) {i : Nat} (hi : i < M.length) (a : Nat) : ∀ b, pwN A.k.toNat N i (a + b) = Go.Proofs.Ytafcejipoioigaa.pr A.k.toNat N (pwN A.k.toNat N i a) (pwN A.k.toNat N i b)
  | 0 => rfl
  | b + 1 => by rw [← Nat.add_assoc, pwN_succ, h.pw_add hi a b, h.assoc (h.pw_lt hi a) (h.pw_lt hi b) hi, pwN_succ]

theorem Mon.pw_mul {A : Aut} {M : List (List Nat)} {N : List Nat} (h : Mon A M N) {i : Nat} (hi : i < M.length) (a : Nat) : ∀ b, pwN A.k.toNat N (pwN A.k.toNat N i a) b = pwN A.k.toNat N i (a * b)
  | 0 => rfl
  | b + 1 => by rw [pwN_succ, h.pw_mul hi a b, Nat.mul_succ, h.pw_add hi]

theorem Mon.pw_idem {A : Aut} {M : List (List Nat)} {N : List Nat} (h : Mon A M N) {x : Nat} (hx : x < M.length) (e : Go.Proofs.Ytafcejipoioigaa.pr A.k.toNat N x x = x) : ∀ n, 1 ≤ n → pwN A.k.toNat N x n = x
  | 0, h0 => by omega
  | 1, _ => h.pw_one hx
  | n + 2, _ => by rw [pwN_succ, h.pw_idem hx e (n + 1) (by omega), e]

/-- w is the idempotent among i's powers. -/
def OmQ (K : Nat) (N : List Nat) (i w : Nat) : Prop := ∃ n, 1 ≤ n ∧ pwN K N i n = w ∧ pr K N w w = w

theorem Mon.om_uniq {A : Aut} {M : List (List Nat)} {N : List Nat} (h : Mon A M N) {i : Nat} (hi : i < M.length) {x y : Nat} (hx : OmQ A.k.toNat N i x) (hy : OmQ A.k.toNat N i y) : x = y := by
  obtain ⟨n, n1, rfl, hn⟩ := hx
  obtain ⟨m, m1, rfl, hm⟩ := hy
  rw [← h.pw_idem (h.pw_lt hi n) hn m m1, ← h.pw_idem (h.pw_lt hi m) hm n n1, h.pw_mul hi, h.pw_mul hi, Nat.mul_comm]

theorem Mon.om_lt {A : Aut} {M : List (List Nat)} {N : List Nat} (h : Mon A M N) {i : Nat} (hi : i < M.length) {x : Nat} (hx : OmQ A.k.toNat N i x) : x < M.length := by
  obtain ⟨n, _, rfl, _⟩ := hx
  exact h.pw_lt hi n

/-- A power is idempotent just from the index on, at multiples of the period. -/
theorem Mon.idem_iff {A : Aut} {M : List (List Nat)} {N : List Nat} (h : Mon A M N) {i : Nat} (hi : i < M.length) {t r : Nat} (R : TR (rm A.k.toNat N i) 0 t r) (n : Nat) (hn : 1 ≤ n) : Go.Proofs.Ytafcejipoioigaa.pr A.k.toNat N (pwN A.k.toNat N i n) (pwN A.k.toNat N i n) = pwN A.k.toNat N i n ↔ t ≤ n ∧ r ∣ n := by
  rw [← h.pw_add hi]
  exact R.iff n n hn

theorem Mon.om_ex {A : Aut} {M : List (List Nat)} {N : List Nat} (h : Mon A M N) {i : Nat} (hi : i < M.length) : ∃ n, 1 ≤ n ∧ n ≤ M.length ∧ Go.Proofs.Ytafcejipoioigaa.pr A.k.toNat N (pwN A.k.toNat N i n) (pwN A.k.toNat N i n) = pwN A.k.toNat N i n := by
  obtain ⟨t, r, R⟩ := tr_ex (h.rm_lt hi) h.pos
  have hle := R.le (h.rm_lt hi) h.pos
  have hr := R.pos
  by_cases ht : t = 0
  · exact ⟨r, hr, by omega, (h.idem_iff hi R r hr).2 ⟨by omega, Nat.dvd_refl _⟩⟩
  · have e := Nat.mod_add_div (t + r - 1) r
    have hm := Nat.mod_lt (t + r - 1) hr
    refine ⟨r * ((t + r - 1) / r), by omega, by omega, (h.idem_iff hi R _ (by omega)).2 ⟨by omega, Nat.dvd_mul_right _ _⟩⟩

/-- Powers of products, turned about. -/
theorem Mon.pw_turn {A : Aut} {M : List (List Nat)} {N : List Nat} (h : Mon A M N) {i j : Nat} (hi : i < M.length) (hj : j < M.length) : ∀ n, pwN A.k.toNat N (Go.Proofs.Ytafcejipoioigaa.pr A.k.toNat N i j) (n + 1) = Go.Proofs.Ytafcejipoioigaa.pr A.k.toNat N (Go.Proofs.Ytafcejipoioigaa.pr A.k.toNat N i (pwN A.k.toNat N (Go.Proofs.Ytafcejipoioigaa.pr A.k.toNat N j i) n)) j
  | 0 => by rw [h.pw_one (h.pr_lt hi hj)]; rfl
  | n + 1 => by
    have hji := h.pr_lt hj hi
    have hp := h.pw_lt hji n
    rw [pwN_succ, h.pw_turn hi hj n, pwN_succ, h.assoc (h.pr_lt hi hp) hj (h.pr_lt hi hj), ← h.assoc hj hi hj, ← h.assoc (h.pr_lt hi hp) hji hj, ← h.assoc hi hp hji]

theorem Mon.per_dvd {A : Aut} {M : List (List Nat)} {N : List Nat} (h : Mon A M N) {i j : Nat} (hi : i < M.length) (hj : j < M.length) {t r t' r' : Nat} (R : TR (rm A.k.toNat N (Go.Proofs.Ytafcejipoioigaa.pr A.k.toNat N i j)) 0 t r) (R' : TR (rm A.k.toNat N (Go.Proofs.Ytafcejipoioigaa.pr A.k.toNat N j i)) 0 t' r') : r ∣ r' := by
  have e : pwN A.k.toNat N (Go.Proofs.Ytafcejipoioigaa.pr A.k.toNat N i j) (t' + 1 + r') = pwN A.k.toNat N (Go.Proofs.Ytafcejipoioigaa.pr A.k.toNat N i j) (t' + 1) := by
    rw [show t' + 1 + r' = (t' + r') + 1 by omega, h.pw_turn hi hj, h.pw_turn hi hj]
    have : pwN A.k.toNat N (Go.Proofs.Ytafcejipoioigaa.pr A.k.toNat N j i) (t' + r') = pwN A.k.toNat N (Go.Proofs.Ytafcejipoioigaa.pr A.k.toNat N j i) t' := R'.back
    rw [this]
  exact ((R.iff _ _ R'.pos).1 e).2

theorem Mon.per_same {A : Aut} {M : List (List Nat)} {N : List Nat} (h : Mon A M N) {i j : Nat} (hi : i < M.length) (hj : j < M.length) {t r t' r' : Nat} (R : TR (rm A.k.toNat N (Go.Proofs.Ytafcejipoioigaa.pr A.k.toNat N i j)) 0 t r) (R' : TR (rm A.k.toNat N (Go.Proofs.Ytafcejipoioigaa.pr A.k.toNat N j i)) 0 t' r') : r = r' :=
  Nat.dvd_antisymm (h.per_dvd hi hj R R') (h.per_dvd hj hi R' R)

end Go.Proofs.Ytafcejipoioigaa

namespace Go.Proofs.Ytafcejipoioigaa
open Go Go.RowKit Go.Lib Go.Maps
set_option linter.unusedVariables false
attribute [-instance] List.instBEq instBEqProd

theorem SR.nat {w : World} {a : Option Addr} {xs : List Nat} (h : SR w a (nC xs)) {i : Nat} (hi : i < xs.length) : ∃ g o, a = some ⟨g, o, none⟩ ∧ g < w.heap.size ∧ w.cell? ⟨g, o + i, none⟩ = some (.int .i64 ((xs.getD i 0 : Nat) : Int)) :=
  h i _ (by simp [nC, hi, List.getD_eq_getElem?_getD])

/-- The product of elements one behind the other. -/
def prL (K : Nat) (N : List Nat) (L : List Nat) : Nat := L.foldl (pr K N) 0

theorem Mon.prL_lt {A : Aut} {M : List (List Nat)} {N : List Nat} (h : Mon A M N) {L : List Nat} (hL : ∀ x ∈ L, x < M.length) : prL A.k.toNat N L < M.length := by
  unfold prL
  have : ∀ (L : List Nat) (o : Nat), o < M.length → (∀ x ∈ L, x < M.length) → L.foldl (Go.Proofs.Ytafcejipoioigaa.pr A.k.toNat N) o < M.length := by
    intro L
    induction L with
    | nil => intro o ho _; exact ho
    | cons y L ih => intro o ho hL; exact ih _ (h.pr_lt ho (hL y (by simp))) (fun x hx => hL x (by simp [hx]))
  exact this L 0 h.pos hL

set_option maxHeartbeats 1000000 in
set_option maxRecDepth 100000 in
theorem iprod_any {w : World} {ob : Nat} {A : Aut} {M : List (List Nat)} {N : List Nat} (h : MO w ob A M N) (a : Option Addr) (cap : Nat) (L : List Nat) (hL : ∀ x ∈ L, x < M.length) (hS : SR w a (nC L)) (hm : L.length ≤ 9223372036854775806) :
    Calls Try.prog 55 #[.pointer (some ⟨ob, 0, none⟩), .slice a L.length cap] w fun e w' => e = .returned (.int .i64 (prL A.k.toNat N L : Nat)) ∧ Below w.heap.size w w' := by
  have HM : Hid (MO w ob A M N) := h
  have HMon : Hid (Mon A M N) := by
    obtain ⟨_, _, _, _, _, _, _, _, _, _, _, _, _, _, _, _, _, q⟩ := h
    exact q.mon
  have HL : Hid (∀ x ∈ L, x < M.length) := hL
  have HS : Hid (SR w a (nC L)) := hS
  clear h hL hS
  go_enter Try.func55, Try.ntmps55
  go_wp2_with fail
  go_loopw [5, 10] (fun vo vi wr => ∃ i : Nat, i ≤ L.length ∧ vi = .int .i64 i ∧ vo = .int .i64 (prL A.k.toNat N (L.take i) : Nat) ∧ Below w.heap.size w wr) (fun _ vi _ => L.length - (Go.RowKit.intOf vi).toNat)
  case atStart => exact ⟨0, Nat.zero_le _, rfl, rfl, Below.refl _ _⟩
  case round =>
    obtain ⟨i, hi, rfl, rfl, hb⟩ := hrel
    have HB : Hid (Below w.heap.size w wr) := hb
    by_cases hlt : i < L.length
    · have hiI : (i : Int) < L.length := by omega
      obtain ⟨g, o, rfl, _, hc⟩ := (HS.out.stay hb).nat hlt
      obtain ⟨x, hx⟩ : ∃ x, L.getD i 0 = x := ⟨_, rfl⟩
      rw [hx] at hc
      have hxL : L[i]? = some x := by rw [List.getElem?_eq_getElem hlt, ← hx]; simp [hlt]
      have hxl : x < M.length := HL.out x (List.mem_of_getElem? hxL)
      have HT : Hid (pr A.k.toNat N (prL A.k.toNat N (L.take i)) x = prL A.k.toNat N (L.take (i + 1))) := by
        show _ = _
        rw [List.take_add_one, hxL]
        simp [prL]
      obtain ⟨y, hy⟩ : ∃ y, prL A.k.toNat N (L.take i) = y := ⟨_, rfl⟩
      have hyl : y < M.length := by rw [← hy]; exact HMon.out.prL_lt (fun z hz => HL.out z (List.mem_of_mem_take hz))
      rw [hy] at HT ⊢
      have HLT : Hid (i < L.length) := hlt
      clear hb hx hxL hy hlt
      go_wp2_with fail
      refine (mproduct_ok (HM.out.below HB.out) y x hyl hxl).mono ?_
      rintro e w1 ⟨rfl, hb1⟩
      rw [HT.out]
      have HB1 : Hid (Below w.heap.size w w1) := go_on HB.out hb1
      clear hb1 hc
      go_wp2_with fail
      go_roundw
      case rel => exact ⟨i + 1, HLT.out, by go_num, rfl, HB1.out⟩
      case measure => have := HLT.out; simp [Go.RowKit.intOf]; omega
    · have hiI : ¬ (i : Int) < L.length := by omega
      have e : L.take i = L := List.take_of_length_le (by omega)
      rw [e]
      clear hb
      go_wp2_with fail
      go_ret
      exact ⟨rfl, HB.out⟩

theorem sr_new (w : World) (cs : List Nat) (t : Nat) : SR (w.alloc (.cells (nC cs).toArray t)) (some ⟨w.heap.size, 0, none⟩) (nC cs) := by
  intro i u hu
  refine ⟨_, _, rfl, by simp, ?_⟩
  rw [Nat.zero_add, cell_of_row _ _ _ _ _ _ (heap_last w _)]
  simpa using hu

theorem iprod_new {w : World} {ob : Nat} {A : Aut} {M : List (List Nat)} {N : List Nat} (h : MO w ob A M N) (L : List Nat) (hL : ∀ x ∈ L, x < M.length) (hm : L.length ≤ 100) (t : Nat) :
    Calls Try.prog 55 #[.pointer (some ⟨ob, 0, none⟩), .slice (some ⟨w.heap.size, 0, none⟩) L.length L.length] (w.alloc (.cells (nC L).toArray t)) fun e w' => e = .returned (.int .i64 (prL A.k.toNat N L : Nat)) ∧ Below w.heap.size w w' := by
  refine (iprod_any (h.below (below_new _ _)) _ _ L hL (sr_new w L t) (by omega)).mono ?_
  rintro e w1 ⟨rfl, hb⟩
  exact ⟨rfl, go_on (below_new _ _) hb⟩

theorem MO.mon {w : World} {ob : Nat} {A : Aut} {M : List (List Nat)} {N : List Nat} (h : MO w ob A M N) : Mon A M N := by
  obtain ⟨_, _, _, _, _, _, _, _, _, _, _, _, _, _, _, _, _, q⟩ := h
  exact q.mon

/-- Two and three factors. -/
theorem iprod_two {w : World} {ob : Nat} {A : Aut} {M : List (List Nat)} {N : List Nat} (h : MO w ob A M N) (x y : Nat) (hx : x < M.length) (hy : y < M.length) :
    Calls Try.prog 55 #[.pointer (some ⟨ob, 0, none⟩), .slice (some ⟨w.heap.size, 0, none⟩) 2 2] (w.alloc (.cells #[.int .i64 (x : Nat), .int .i64 (y : Nat)] 3)) fun e w' => e = .returned (.int .i64 (pr A.k.toNat N x y : Nat)) ∧ Below w.heap.size w w' := by
  have q := iprod_new h [x, y] (by simp; exact ⟨hx, hy⟩) (by simp) 3
  have e : prL A.k.toNat N [x, y] = pr A.k.toNat N x y := by show pr _ _ (pr _ _ 0 x) y = _; rw [h.mon.one_pr hx]
  rw [e] at q
  exact q

theorem iprod_three {w : World} {ob : Nat} {A : Aut} {M : List (List Nat)} {N : List Nat} (h : MO w ob A M N) (x y z : Nat) (hx : x < M.length) (hy : y < M.length) (hz : z < M.length) :
    Calls Try.prog 55 #[.pointer (some ⟨ob, 0, none⟩), .slice (some ⟨w.heap.size, 0, none⟩) 3 3] (w.alloc (.cells #[.int .i64 (x : Nat), .int .i64 (y : Nat), .int .i64 (z : Nat)] 3)) fun e w' => e = .returned (.int .i64 (pr A.k.toNat N (pr A.k.toNat N x y) z : Nat)) ∧ Below w.heap.size w w' := by
  have q := iprod_new h [x, y, z] (by simp; exact ⟨hx, hy, hz⟩) (by simp) 3
  have e : prL A.k.toNat N [x, y, z] = pr A.k.toNat N (pr A.k.toNat N x y) z := by show pr _ _ (pr _ _ (pr _ _ 0 x) y) z = _; rw [h.mon.one_pr hx]
  rw [e] at q
  exact q

/-- Is it idempotent? -/
def idE (K : Nat) (N : List Nat) (i : Nat) : Bool := decide (pr K N i i = i)

set_option maxHeartbeats 1000000 in
set_option maxRecDepth 100000 in
theorem isIdem_any {w : World} {ob : Nat} {A : Aut} {M : List (List Nat)} {N : List Nat} (h : MO w ob A M N) (i : Nat) (hi : i < M.length) :
    Calls Try.prog 44 #[.pointer (some ⟨ob, 0, none⟩), .int .i64 i] w fun e w' => e = .returned (.bool (idE A.k.toNat N i)) ∧ Below w.heap.size w w' := by
  have HP : Hid _ := iprod_two h i i hi hi
  obtain ⟨p, hp⟩ : ∃ p, pr A.k.toNat N i i = p := ⟨_, rfl⟩
  have HE : Hid (idE A.k.toNat N i = decide ((p : Int) = (i : Int))) := by
    show _ = _
    unfold idE
    rw [hp]
    congr 1
    apply propext
    omega
  rw [hp] at HP
  clear h hp
  go_enter Try.func44, Try.ntmps44
  go_wp2_with fail
  refine Calls.mono HP.out ?_
  rintro e w1 ⟨rfl, hb⟩
  have HB : Hid (Below w.heap.size w w1) := hb
  clear hb
  by_cases c : p = i
  · have c1 : ((p : Int) == (i : Int)) = true := by rw [beq_iff_eq]; omega
    have HE2 : Hid (idE A.k.toNat N i = true) := by show _ = _; rw [HE.out]; exact decide_eq_true (by omega)
    go_wp2_with fail
    go_ret
    exact ⟨by rw [HE2.out]; first | rfl | simp [c], HB.out⟩
  · have c1 : ((p : Int) == (i : Int)) = false := by rw [beq_eq_false_iff_ne]; omega
    have HE2 : Hid (idE A.k.toNat N i = false) := by show _ = _; rw [HE.out]; exact decide_eq_false (by omega)
    go_wp2_with fail
    go_ret
    exact ⟨by rw [HE2.out]; first | rfl | simp [c], HB.out⟩

/-- What check answers of some numbers. -/
def ick (n : Nat) (L : List Int) : Int := if L.all (hasE n) then 0 else 11

set_option maxHeartbeats 1000000 in
set_option maxRecDepth 100000 in
theorem icheck_any {w : World} {ob : Nat} {A : Aut} {M : List (List Nat)} {N : List Nat} (h : MO w ob A M N) (a : Option Addr) (cap : Nat) (L : List Int) (hS : SR w a (zC L)) (hm : L.length ≤ 9223372036854775806) :
    Calls Try.prog 43 #[.pointer (some ⟨ob, 0, none⟩), .slice a L.length cap] w fun e w' => e = .returned (.int .i64 (ick M.length L)) ∧ w = w' := by
  have HM : Hid (MO w ob A M N) := h
  have HS : Hid (SR w a (zC L)) := hS
  have hn0 : ((M.length : Int) == 0) = false := by rw [beq_eq_false_iff_ne]; have := h.mon.pos; omega
  have hn1 : ¬ (M.length : Int) = 0 := by have := h.mon.pos; omega
  have hn2 : ¬ M.length = 0 := by omega
  obtain ⟨n, hn⟩ : ∃ n, M.length = n := ⟨_, rfl⟩
  have HLN : Hid (Calls Try.prog 34 #[.pointer (some ⟨ob, 0, none⟩)] w fun e w' => e = .returned (.int .i64 (n : Nat)) ∧ w = w') := by
    have := mlen_any HM.out
    rw [hn] at this
    exact this
  rw [hn] at hn0 hn1 hn2 ⊢
  clear h hS hn
  go_enter Try.func43, Try.ntmps43
  go_wp2_with fail
  refine HLN.out.mono ?_
  rintro e w1 ⟨rfl, rfl⟩
  go_wp2_with fail
  go_loopw [14] (fun vi wr => ∃ i : Nat, i ≤ L.length ∧ vi = .int .i64 i ∧ (∀ j, j < i → hasE n (L.getD j 0) = true) ∧ wr = w) (fun vi _ => L.length - (Go.RowKit.intOf vi).toNat)
  case atStart => exact ⟨0, Nat.zero_le _, rfl, fun j hj => by omega, rfl⟩
  case round =>
    obtain ⟨i, hi, rfl, hall, rfl⟩ := hrel
    have HA : Hid (∀ j, j < i → hasE n (L.getD j 0) = true) := hall
    clear hall
    by_cases hlt : i < L.length
    · have hiI : (i : Int) < L.length := by omega
      obtain ⟨g, o, rfl, _, hc⟩ := HS.out.int hlt
      have HLT : Hid (i < L.length) := hlt
      obtain ⟨x, hx⟩ : ∃ x, L.getD i 0 = x := ⟨_, rfl⟩
      have HX : Hid (L.getD i 0 = x) := hx
      have hxm : x ∈ L := by
        rw [← hx, List.getD_eq_getElem?_getD, List.getElem?_eq_getElem hlt]
        exact List.getElem_mem hlt
      have HXM : Hid (x ∈ L) := hxm
      rw [hx] at hc
      clear hx hxm hlt
      by_cases h0 : 0 ≤ x
      · have h0d : decide (x < 0) = false := by simpa using h0
        by_cases h1 : x < n
        · have h1d : decide ((n : Int) ≤ x) = false := by simpa using h1
          have h1' : ¬ (n : Int) ≤ x := by omega
          have HH : Hid (hasE n x = true) := decide_eq_true ⟨h0, h1⟩
          go_wp2_with fail
          go_roundw
          case rel =>
            refine ⟨i + 1, HLT.out, by go_num, fun j hj => ?_, trivial⟩
            by_cases e : j = i
            · rw [e, HX.out]; exact HH.out
            · exact HA.out j (by omega)
          case measure => have := HLT.out; simp [Go.RowKit.intOf]; omega
        · have h1d : decide ((n : Int) ≤ x) = true := by simpa using h1
          have h1' : (n : Int) ≤ x := by omega
          have HE : Hid (ick n L = 11) := by
            show _ = _
            unfold ick
            rw [if_neg (fun q => ?_)]
            have := of_decide_eq_true (List.all_eq_true.1 q x HXM.out)
            omega
          go_wp2_with fail
          go_ret
          exact ⟨by rw [HE.out]; rfl, rfl⟩
      · have h0d : decide (x < 0) = true := by simpa using h0
        have h0' : x < 0 := by omega
        have HE : Hid (ick n L = 11) := by
          show _ = _
          unfold ick
          rw [if_neg (fun q => ?_)]
          have := of_decide_eq_true (List.all_eq_true.1 q x HXM.out)
          omega
        go_wp2_with fail
        go_ret
        exact ⟨by rw [HE.out]; rfl, rfl⟩
    · have hiI : ¬ (i : Int) < L.length := by omega
      have HE : Hid (ick n L = 0) := by
        show _ = _
        unfold ick
        rw [if_pos]
        rw [List.all_eq_true]
        intro x hx
        obtain ⟨j, hj, rfl⟩ := List.mem_iff_getElem.1 hx
        have := HA.out j (by omega)
        rw [List.getD_eq_getElem?_getD, List.getElem?_eq_getElem hj] at this
        exact this
      go_wp2_with fail
      go_ret
      exact ⟨by rw [HE.out]; rfl, rfl⟩

theorem sr_newZ (w : World) (cs : List Int) (t : Nat) : SR (w.alloc (.cells (zC cs).toArray t)) (some ⟨w.heap.size, 0, none⟩) (zC cs) := by
  intro i u hu
  refine ⟨_, _, rfl, by simp, ?_⟩
  rw [Nat.zero_add, cell_of_row _ _ _ _ _ _ (heap_last w _)]
  simpa using hu

theorem icheck_one {w : World} {ob : Nat} {A : Aut} {M : List (List Nat)} {N : List Nat} (h : MO w ob A M N) (i : Int) :
    Calls Try.prog 43 #[.pointer (some ⟨ob, 0, none⟩), .slice (some ⟨w.heap.size, 0, none⟩) 1 1] (w.alloc (.cells #[.int .i64 i] 3)) fun e w' => e = .returned (.int .i64 (if hasE M.length i = true then 0 else 11)) ∧ w' = w.alloc (.cells #[.int .i64 i] 3) := by
  have q := icheck_any (h.below (below_new _ _)) _ 1 [i] (sr_newZ w [i] 3) (by simp)
  refine q.mono ?_
  rintro e w1 ⟨rfl, rfl⟩
  refine ⟨?_, rfl⟩
  congr 2
  simp [ick]

theorem icheck_none {w : World} {ob : Nat} {A : Aut} {M : List (List Nat)} {N : List Nat} (h : MO w ob A M N) :
    Calls Try.prog 43 #[.pointer (some ⟨ob, 0, none⟩), .slice none 0 0] w fun e w' => e = .returned (.int .i64 0) ∧ w = w' := by
  have q := icheck_any h none 0 [] (SR.nil _ _) (by simp)
  exact q
end Go.Proofs.Ytafcejipoioigaa

namespace Go.Proofs.Ytafcejipoioigaa
open Go Go.RowKit Go.Lib Go.Maps
set_option linter.unusedVariables false
attribute [-instance] List.instBEq instBEqProd

/-- The elements of which something is so. -/
def thL (n : Nat) (P : Nat → Bool) : List Nat := (List.range n).filter P

theorem thL_succ (n : Nat) (P : Nat → Bool) : thL (n + 1) P = if P n = true then thL n P ++ [n] else thL n P := by
  unfold thL
  rw [List.range_succ, List.filter_append]
  split <;> simp_all

theorem thL_len (n : Nat) (P : Nat → Bool) : (thL n P).length ≤ n := by
  have := List.length_filter_le P (List.range n)
  simpa [thL] using this

theorem mem_thL {n i : Nat} {P : Nat → Bool} : i ∈ thL n P ↔ i < n ∧ P i = true := by simp [thL]

/-- A list of elements that is the caller's own. -/
def OwnN (w : World) (base : Nat) (v : Value) (L : List Nat) : Prop := w.ownsRow base 3 1 v L.length (nC L)

set_option maxHeartbeats 2000000 in
set_option maxRecDepth 100000 in
theorem those_any {w : World} {ob : Nat} {A : Aut} {M : List (List Nat)} {N : List Nat} (h : MO w ob A M N) (nf : Nat) (fc : Array Value) (P : Nat → Bool)
    (eN : ∀ args w, (callFunc nf args).run Try.prog w = .ok (.enter nf args) w)
    (hN : ∀ y i, Below w.heap.size w y → i < M.length → Calls Try.prog nf (#[.int .i64 (i : Nat)] ++ fc) y fun e y' => e = .returned (.bool (P i)) ∧ Below y.heap.size y y') :
    Calls Try.prog 47 #[.pointer (some ⟨ob, 0, none⟩), .func (.func nf) #[] fc] w fun e w' => ∃ v, e = .returned v ∧ OwnN w' w.heap.size v (thL M.length P) ∧ Below w.heap.size w w' := by
  have HM : Hid (MO w ob A M N) := h
  have HN : Hid (∀ y i, Below w.heap.size w y → i < M.length → Calls Try.prog nf (#[.int .i64 (i : Nat)] ++ fc) y fun e y' => e = .returned (.bool (P i)) ∧ Below y.heap.size y y') := hN
  have hn5 := h.mon.most
  obtain ⟨i0, hi0, hz0, hz1, hz2⟩ := info_parts Try.info_int
  clear h hN
  go_enter Try.func47, Try.ntmps47
  go_wp2_with fail
  refine (mlen_any HM.out).mono ?_
  rintro e w1 ⟨rfl, rfl⟩
  go_wp2_with fail
  go_loopw [5, 9] (fun vo vi wr => ∃ (i : Nat) (oa : Option Addr) (oc : Nat), i ≤ M.length ∧ vi = .int .i64 i ∧ vo = .slice oa (thL i P).length oc ∧ OwnN wr w.heap.size (.slice oa (thL i P).length oc) (thL i P) ∧ Below w.heap.size w wr) (fun _ vi _ => M.length - (Go.RowKit.intOf vi).toNat)
  case atStart => exact ⟨0, none, 0, Nat.zero_le _, rfl, rfl, World.ownsRow_nil _ _ _ _, Below.refl _ _⟩
  case round =>
    obtain ⟨i, oa, oc, hi, rfl, rfl, ho, hb⟩ := hrel
    have HO : Hid (OwnN wr w.heap.size (.slice oa (thL i P).length oc) (thL i P)) := ho
    have HB : Hid (Below w.heap.size w wr) := hb
    have hll := thL_len i P
    clear hb ho
    by_cases hlt : i < M.length
    · have hiI : (i : Int) < M.length := by omega
      have HLT : Hid (i < M.length) := hlt
      clear hlt
      go_wp2_with fail
      refine (HN.out wr i HB.out HLT.out).mono ?_
      rintro e w2 ⟨rfl, hb2⟩
      have HB2 : Hid (Below w.heap.size w w2) := go_on HB.out hb2
      have HO2 : Hid (OwnN w2 w.heap.size (.slice oa (thL i P).length oc) (thL i P)) := own_below HO.out hb2
      have hs2 := HB2.out.size
      clear hb2
      cases hP : P i with
      | false =>
        have HT : Hid (thL (i + 1) P = thL i P) := by show _ = _; rw [thL_succ, hP]; rfl
        clear hP
        go_wp2_with fail
        go_roundw
        case rel => exact ⟨i + 1, oa, oc, HLT.out, by go_num, by rw [HT.out], by rw [HT.out]; exact HO2.out, HB2.out⟩
        case measure => have := HLT.out; simp [Go.RowKit.intOf]; omega
      | true =>
        have HT : Hid (thL (i + 1) P = thL i P ++ [i]) := by show _ = _; rw [thL_succ, hP]; rfl
        clear hP
        go_wp2_with (first
          | (at_builtin; refine wpList_append_own_at _ rfl _ _ 23 rfl w.heap.size 3 i0 (.int .i64 0) 1 8 Try.underlying23 hi0 hz0 hz1 hz2 rfl (by decide) _ _ _ rfl (World.ownsRow.alloc HO2.out _) ⟨w2.heap.size, 0, none⟩ 1 1 [.int .i64 (i : Int)] rfl rfl (cell_one_new _ _ _) (by intro u hu; simp at hu; subst hu; rfl) (by unfold maxLen; omega) (by omega) (by simp; omega) ?_; intro v' w4 hown' hgrow _ hloc))
        have HB4 : Hid (Below w.heap.size w w4) := (go_on HB2.out (below_new _ _)).grown hgrow (by simp; omega) (fun k hk => (own_blk HO2.out hk).1)
        obtain ⟨oa4, oc4, hsh⟩ := own_shape hown'
        have HO4 : Hid (OwnN w4 w.heap.size v' (thL (i + 1) P)) := by
          show OwnN _ _ _ _
          rw [HT.out]
          unfold OwnN
          rw [nC_append, List.length_append]
          exact hown'
        have HSH : Hid (v' = .slice oa4 (thL (i + 1) P).length oc4) := by show _ = _; rw [HT.out, List.length_append]; exact hsh
        clear hown' hgrow hloc hsh
        go_roundw
        case rel => exact ⟨i + 1, oa4, oc4, HLT.out, by go_num, HSH.out, by have q := HO4.out; rw [HSH.out] at q; exact q, HB4.out⟩
        case measure => have := HLT.out; simp [Go.RowKit.intOf]; omega
    · have hiI : ¬ (i : Int) < M.length := by omega
      have e : i = M.length := by omega
      have HE : Hid (i = M.length) := e
      clear e
      go_wp2_with fail
      go_ret
      exact ⟨_, rfl, by rw [← HE.out]; exact HO.out, HB.out⟩

set_option maxHeartbeats 1000000 in
set_option maxRecDepth 100000 in
theorem list1_any {w : World} {ob : Nat} {A : Aut} {M : List (List Nat)} {N : List Nat} (h : MO w ob A M N) (b : Nat) (hc : w.cell? ⟨b, 0, none⟩ = some (.pointer (some ⟨ob, 0, none⟩))) (i : Nat) (hi : i < M.length) :
    Calls Try.prog 48 #[.int .i64 (i : Nat), .pointer (some ⟨b, 0, none⟩)] w fun e w' => e = .returned (.bool (idE A.k.toNat N i)) ∧ Below w.heap.size w w' := by
  have HI : Hid _ := isIdem_any h i hi
  clear h
  go_enter Try.func48, Try.ntmps48
  go_wp2_with fail
  refine Calls.mono HI.out ?_
  rintro e w1 ⟨rfl, hb⟩
  have HB : Hid (Below w.heap.size w w1) := hb
  clear hb
  go_wp2_with fail
  go_ret
  exact ⟨rfl, HB.out⟩

/-- What List answers. -/
def LsQ (L : List Nat) (w : World) (e : Ending) (w' : World) : Prop := ∃ v, e = .returned (.tuple #[v, .int .i64 0]) ∧ OwnN w' w.heap.size v L ∧ Below w.heap.size w w'

set_option maxHeartbeats 1000000 in
set_option maxRecDepth 100000 in
theorem iList_any {w : World} {ob : Nat} {A : Aut} {M : List (List Nat)} {N : List Nat} (h : MO w ob A M N) :
    Calls Try.prog 14 #[.pointer (some ⟨ob, 0, none⟩)] w (LsQ (thL M.length (idE A.k.toNat N)) w) := by
  obtain ⟨w0, hw0⟩ : ∃ w0, w0 = w.alloc (.cells #[.pointer (some ⟨ob, 0, none⟩)] 22) := ⟨_, rfl⟩
  have HB0 : Hid (Below w.heap.size w w0) := by show Below _ _ _; rw [hw0]; exact below_new _ _
  have HM : Hid (MO w0 ob A M N) := h.below HB0.out
  have hc0 : w0.cell? ⟨w.heap.size, 0, none⟩ = some (.pointer (some ⟨ob, 0, none⟩)) := by rw [hw0, cell_of_row _ _ _ _ _ _ (heap_last w _)]; rfl
  have HC0 : Hid (w0.cell? ⟨w.heap.size, 0, none⟩ = some (.pointer (some ⟨ob, 0, none⟩))) := hc0
  have HW0 : Hid (w0 = w.alloc (.cells #[.pointer (some ⟨ob, 0, none⟩)] 22)) := hw0
  have hlt0 : w.heap.size < w0.heap.size := by rw [hw0]; simp
  have HT : Hid (Calls Try.prog 47 #[.pointer (some ⟨ob, 0, none⟩), .func (.func 48) #[] #[.pointer (some ⟨w.heap.size, 0, none⟩)]] w0 fun e w' => ∃ v, e = .returned v ∧ OwnN w' w0.heap.size v (thL M.length (idE A.k.toNat N)) ∧ Below w0.heap.size w0 w') :=
    those_any HM.out 48 _ _ (enters_of Try.func48 (by kernel_rfl) rfl) (fun y i hy hi => list1_any (HM.out.below hy) w.heap.size (by rw [below_cellJ hy hlt0]; exact HC0.out) i hi)
  clear h hw0 hc0
  go_enter Try.func14, Try.ntmps14
  go_wp2_with fail
  rw [← HW0.out]
  have hc0 := HC0.out
  go_wp2_with fail
  refine (icheck_none HM.out).mono ?_
  rintro e w1 ⟨rfl, rfl⟩
  go_wp2_with fail
  refine HT.out.mono ?_
  rintro e w1 ⟨v, rfl, ho, hb⟩
  have HO : Hid (OwnN w1 w.heap.size v (thL M.length (idE A.k.toNat N))) := own_mono ho (by omega)
  have HB : Hid (Below w.heap.size w w1) := go_on HB0.out hb
  clear ho hb hc0
  go_wp2_with fail
  go_ret2
  exact ⟨_, rfl, HO.out, HB.out⟩

/-- What Idempotent answers. -/
def ipV (K n : Nat) (N : List Nat) (i : Int) : Value := if hasE n i = true then .tuple #[.bool (idE K N i.toNat), .int .i64 0] else .tuple #[.bool false, .int .i64 11]

set_option maxHeartbeats 1000000 in
set_option maxRecDepth 100000 in
theorem iIdem_any {w : World} {ob : Nat} {A : Aut} {M : List (List Nat)} {N : List Nat} (h : MO w ob A M N) (i : Int) :
    Calls Try.prog 12 #[.pointer (some ⟨ob, 0, none⟩), .int .i64 i] w fun e w' => e = .returned (ipV A.k.toNat M.length N i) ∧ Below w.heap.size w w' := by
  have HM : Hid (MO w ob A M N) := h
  have HC : Hid _ := icheck_one h i
  have HB1 : Hid (Below w.heap.size w (w.alloc (.cells #[.int .i64 i] 3))) := below_new _ _
  unfold ipV
  by_cases hh : hasE M.length i = true
  · obtain ⟨j, rfl⟩ : ∃ j : Nat, i = (j : Int) := ⟨i.toNat, by have := of_decide_eq_true hh; omega⟩
    have hj : j < M.length := by have := of_decide_eq_true hh; omega
    have HI : Hid _ := isIdem_any (h.below (below_new w (.cells #[.int .i64 (j : Int)] 3))) j hj
    rw [if_pos hh] at HC ⊢
    rw [show ((j : Int)).toNat = j by omega]
    clear h hh
    go_enter Try.func12, Try.ntmps12
    go_wp2_with fail
    refine Calls.mono HC.out ?_
    rintro e w1 ⟨rfl, rfl⟩
    go_wp2_with fail
    refine Calls.mono HI.out ?_
    rintro e w2 ⟨rfl, hb⟩
    have HB : Hid (Below w.heap.size w w2) := go_on HB1.out hb
    clear hb
    go_wp2_with fail
    go_ret2
    exact ⟨rfl, HB.out⟩
  · rw [if_neg hh] at HC ⊢
    clear h hh
    go_enter Try.func12, Try.ntmps12
    go_wp2_with fail
    refine Calls.mono HC.out ?_
    rintro e w1 ⟨rfl, rfl⟩
    go_wp2_with fail
    go_ret2
    exact ⟨rfl, HB1.out⟩
end Go.Proofs.Ytafcejipoioigaa

namespace Go.Proofs.Ytafcejipoioigaa
open Go Go.RowKit Go.Lib Go.Maps
set_option linter.unusedVariables false
attribute [-instance] List.instBEq instBEqProd

theorem RF.mon {w : World} {rb : Nat} {A : Aut} {M : List (List Nat)} {N : List Nat} (h : RF w rb A M N) : Mon A M N := by
  obtain ⟨an, cn, aa, ca, gi, ci, gw, cw, gn, cg, h⟩ := h
  exact h.mon

set_option maxHeartbeats 1000000 in
set_option maxRecDepth 100000 in
theorem ris_any {w : World} {rb : Nat} {A : Aut} {M : List (List Nat)} {N : List Nat} (h : RF w rb A M N) (i : Nat) (hi : i < M.length) :
    Calls Try.prog 46 #[.pointer (some ⟨rb, 0, none⟩), .int .i64 (i : Nat)] w fun e w' => e = .returned (.bool (idE A.k.toNat N i)) ∧ Below w.heap.size w w' := by
  have HT : Hid _ := rtimes_any h i i hi hi
  have HE : Hid (idE A.k.toNat N i = (((pr A.k.toNat N i i : Nat) : Int) == (i : Int))) := by
    show _ = _
    unfold idE
    by_cases e : pr A.k.toNat N i i = i
    · rw [decide_eq_true e, e]; simp
    · rw [decide_eq_false e, Eq.comm, beq_eq_false_iff_ne]; omega
  obtain ⟨p, hp⟩ : ∃ p, pr A.k.toNat N i i = p := ⟨_, rfl⟩
  rw [hp] at HE HT
  clear h hp
  go_enter Try.func46, Try.ntmps46
  go_wp2_with fail
  refine Calls.mono HT.out ?_
  rintro e w1 ⟨rfl, hb⟩
  go_wp2_with fail
  go_ret
  exact ⟨by rw [HE.out]; rfl, hb⟩

theorem hasE_yes {n i : Nat} (h : i < n) : hasE n (i : Int) = true := decide_eq_true ⟨by omega, by omega⟩

set_option maxHeartbeats 1000000 in
set_option maxRecDepth 100000 in
theorem ridem_any {w : World} {rb : Nat} {A : Aut} {M : List (List Nat)} {N : List Nat} (h : RF w rb A M N) (i : Int) :
    Calls Try.prog 13 #[.pointer (some ⟨rb, 0, none⟩), .int .i64 i] w fun e w' => e = .returned (ipV A.k.toNat M.length N i) ∧ Below w.heap.size w w' := by
  by_cases h0 : hasE M.length i = true
  · have C0 : Hid (Calls Try.prog 45 #[.pointer (some ⟨rb, 0, none⟩), .int .i64 i] w fun e w' => e = .returned (.bool true) ∧ w = w') := by have := rhas_any h i; rw [h0] at this; exact this
    have HV : Hid (ipV A.k.toNat M.length N i = .tuple #[.bool (idE A.k.toNat N i.toNat), .int .i64 0]) := by show _ = _; unfold ipV; rw [if_pos h0]
    obtain ⟨k, rfl, hk⟩ := hasE_of h0
    rw [Int.toNat_natCast] at HV
    have HI : Hid _ := ris_any h k hk
    obtain ⟨b, hb⟩ : ∃ b, idE A.k.toNat N k = b := ⟨_, rfl⟩
    rw [hb] at HV HI
    clear h h0 hb
    go_enter Try.func13, Try.ntmps13
    go_wp2_with fail
    refine C0.out.mono ?_
    rintro e w1 ⟨rfl, rfl⟩
    go_wp2_with fail
    refine Calls.mono HI.out ?_
    rintro e w2 ⟨rfl, hb⟩
    go_wp2_with fail
    go_ret2
    exact ⟨by rw [HV.out]; rfl, hb⟩
  · have C0 : Hid (Calls Try.prog 45 #[.pointer (some ⟨rb, 0, none⟩), .int .i64 i] w fun e w' => e = .returned (.bool false) ∧ w = w') := by have := rhas_any h i; rw [Bool.eq_false_iff.2 h0] at this; exact this
    have HV : Hid (ipV A.k.toNat M.length N i = .tuple #[.bool false, .int .i64 11]) := by show _ = _; unfold ipV; rw [if_neg h0]
    clear h h0
    go_enter Try.func13, Try.ntmps13
    go_wp2_with fail
    refine C0.out.mono ?_
    rintro e w1 ⟨rfl, rfl⟩
    go_wp2_with fail
    go_ret2
    exact ⟨by rw [HV.out]; rfl, Below.refl _ _⟩

set_option maxHeartbeats 2000000 in
set_option maxRecDepth 100000 in
theorem rlist_any {w : World} {rb : Nat} {A : Aut} {M : List (List Nat)} {N : List Nat} (h : RF w rb A M N) :
    Calls Try.prog 20 #[.pointer (some ⟨rb, 0, none⟩)] w fun e w' => ∃ v, e = .returned v ∧ OwnN w' w.heap.size v (thL M.length (idE A.k.toNat N)) ∧ Below w.heap.size w w' := by
  obtain ⟨P, hP⟩ : ∃ P, P = idE A.k.toNat N := ⟨_, rfl⟩
  have HM : Hid (∀ y, Below w.heap.size w y → RF y rb A M N) := fun y hy => h.below hy
  have HN : Hid (∀ y i, Below w.heap.size w y → i < M.length → Calls Try.prog 46 #[.pointer (some ⟨rb, 0, none⟩), .int .i64 (i : Nat)] y fun e y' => e = .returned (.bool (P i)) ∧ Below y.heap.size y y') := fun y i hy hi => by rw [hP]; exact ris_any (h.below hy) i hi
  have hn5 := h.mon.most
  obtain ⟨i0, hi0, hz0, hz1, hz2⟩ := info_parts Try.info_int
  rw [← hP]
  clear h hP
  go_enter Try.func20, Try.ntmps20
  go_wp2_with fail
  go_loopw [3, 4] (fun vo vi wr => ∃ (i : Nat) (oa : Option Addr) (oc : Nat), i ≤ M.length ∧ vi = .int .i64 i ∧ vo = .slice oa (thL i P).length oc ∧ OwnN wr w.heap.size (.slice oa (thL i P).length oc) (thL i P) ∧ Below w.heap.size w wr) (fun _ vi _ => M.length - (Go.RowKit.intOf vi).toNat)
  case atStart => exact ⟨0, none, 0, Nat.zero_le _, rfl, rfl, World.ownsRow_nil _ _ _ _, Below.refl _ _⟩
  case round =>
    obtain ⟨i, oa, oc, hi, rfl, rfl, ho, hb⟩ := hrel
    have HO : Hid (OwnN wr w.heap.size (.slice oa (thL i P).length oc) (thL i P)) := ho
    have HB : Hid (Below w.heap.size w wr) := hb
    have hll := thL_len i P
    clear hb ho
    by_cases hlt : i < M.length
    · have hiI : (i : Int) < M.length := by omega
      have HLT : Hid (i < M.length) := hlt
      clear hlt
      go_wp2_with fail
      refine (rlen_any (HM.out _ HB.out)).mono ?_
      rintro e w1 ⟨rfl, rfl⟩
      go_wp2_with fail
      refine (HN.out wr i HB.out HLT.out).mono ?_
      rintro e w2 ⟨rfl, hb2⟩
      have HB2 : Hid (Below w.heap.size w w2) := go_on HB.out hb2
      have HO2 : Hid (OwnN w2 w.heap.size (.slice oa (thL i P).length oc) (thL i P)) := own_below HO.out hb2
      have hs2 := HB2.out.size
      clear hb2
      cases hP : P i with
      | false =>
        have HT : Hid (thL (i + 1) P = thL i P) := by show _ = _; rw [thL_succ, hP]; rfl
        clear hP
        go_wp2_with fail
        go_roundw
        case rel => exact ⟨i + 1, oa, oc, HLT.out, by go_num, by rw [HT.out], by rw [HT.out]; exact HO2.out, HB2.out⟩
        case measure => have := HLT.out; simp [Go.RowKit.intOf]; omega
      | true =>
        have HT : Hid (thL (i + 1) P = thL i P ++ [i]) := by show _ = _; rw [thL_succ, hP]; rfl
        clear hP
        go_wp2_with (first
          | (at_builtin; refine wpList_append_own_at _ rfl _ _ 23 rfl w.heap.size 3 i0 (.int .i64 0) 1 8 Try.underlying23 hi0 hz0 hz1 hz2 rfl (by decide) _ _ _ rfl (World.ownsRow.alloc HO2.out _) ⟨w2.heap.size, 0, none⟩ 1 1 [.int .i64 (i : Int)] rfl rfl (cell_one_new _ _ _) (by intro u hu; simp at hu; subst hu; rfl) (by unfold maxLen; omega) (by omega) (by simp; omega) ?_; intro v' w4 hown' hgrow _ hloc))
        have HB4 : Hid (Below w.heap.size w w4) := (go_on HB2.out (below_new _ _)).grown hgrow (by simp; omega) (fun k hk => (own_blk HO2.out hk).1)
        obtain ⟨oa4, oc4, hsh⟩ := own_shape hown'
        have HO4 : Hid (OwnN w4 w.heap.size v' (thL (i + 1) P)) := by
          show OwnN _ _ _ _
          rw [HT.out]
          unfold OwnN
          rw [nC_append, List.length_append]
          exact hown'
        have HSH : Hid (v' = .slice oa4 (thL (i + 1) P).length oc4) := by show _ = _; rw [HT.out, List.length_append]; exact hsh
        clear hown' hgrow hloc hsh
        go_roundw
        case rel => exact ⟨i + 1, oa4, oc4, HLT.out, by go_num, HSH.out, by have q := HO4.out; rw [HSH.out] at q; exact q, HB4.out⟩
        case measure => have := HLT.out; simp [Go.RowKit.intOf]; omega
    · have hiI : ¬ (i : Int) < M.length := by omega
      have e : i = M.length := by omega
      have HE : Hid (i = M.length) := e
      clear e
      go_wp2_with fail
      refine (rlen_any (HM.out _ HB.out)).mono ?_
      rintro e w1 ⟨rfl, rfl⟩
      go_wp2_with fail
      go_ret
      exact ⟨_, rfl, by rw [← HE.out]; exact HO.out, HB.out⟩

set_option maxHeartbeats 2000000 in
set_option maxRecDepth 100000 in
theorem rpower_any {w : World} {rb : Nat} {A : Aut} {M : List (List Nat)} {N : List Nat} (h : RF w rb A M N) (i : Nat) (hi : i < M.length) :
    Calls Try.prog 50 #[.pointer (some ⟨rb, 0, none⟩), .int .i64 (i : Nat)] w fun e w' => (∃ x, e = .returned (.int .i64 (x : Nat)) ∧ OmQ A.k.toNat N i x) ∧ Below w.heap.size w w' := by
  have HM : Hid (∀ y, Below w.heap.size w y → RF y rb A M N) := fun y hy => h.below hy
  have HMon : Hid (Mon A M N) := h.mon
  obtain ⟨E, hE1, _, hE⟩ := h.mon.om_ex hi
  have HE : Hid (pr A.k.toNat N (pwN A.k.toNat N i E) (pwN A.k.toNat N i E) = pwN A.k.toNat N i E) := hE
  have HI : Hid (i < M.length) := hi
  have HP1 : Hid (pwN A.k.toNat N i 1 = i) := h.mon.pw_one hi
  clear h hE hi
  go_enter Try.func50, Try.ntmps50
  go_wp2_with fail
  go_loopg [5] (E) (fun k vx wr => ∃ n x : Nat, 1 ≤ n ∧ n ≤ E ∧ E ≤ n + k ∧ vx = .int .i64 (x : Nat) ∧ pwN A.k.toNat N i n = x ∧ Below w.heap.size w wr)
  case atStart => exact ⟨1, i, Nat.le_refl _, hE1, by omega, rfl, HP1.out, Below.refl _ _⟩
  case round =>
    obtain ⟨n, x, hn1, hnE, hk, rfl, hx, hb⟩ := hrel
    have HX : Hid (pwN A.k.toNat N i n = x) := hx
    have HB : Hid (Below w.heap.size w wr) := hb
    have hxl : x < M.length := by rw [← hx]; exact HMon.out.pw_lt HI.out n
    clear hb hx
    have HIS : Hid _ := ris_any (HM.out _ HB.out) x hxl
    have HTM : Hid (∀ y, Below w.heap.size w y → Calls Try.prog 52 #[.pointer (some ⟨rb, 0, none⟩), .int .i64 (x : Nat), .int .i64 (i : Nat)] y fun e w' => e = .returned (.int .i64 (pr A.k.toNat N x i : Nat)) ∧ Below y.heap.size y w') := fun y hy => rtimes_any (HM.out y hy) x i hxl HI.out
    by_cases hid : pr A.k.toNat N x x = x
    · have HY : Hid (idE A.k.toNat N x = true) := decide_eq_true hid
      have HO : Hid (OmQ A.k.toNat N i x) := ⟨n, hn1, HX.out, hid⟩
      rw [HY.out] at HIS
      clear hid hn1 hnE hk hxl
      go_wp2_with fail
      refine Calls.mono HIS.out ?_
      rintro e w2 ⟨rfl, hb⟩
      have HB2 : Hid (Below w.heap.size w w2) := go_on HB.out hb
      clear hb
      go_wp2_with fail
      go_ret
      exact ⟨⟨x, rfl, HO.out⟩, HB2.out⟩
    · have HN : Hid (idE A.k.toNat N x = false) := decide_eq_false hid
      have HNE : Hid (n ≠ E) := fun e => hid (by rw [← HX.out, e]; exact HE.out)
      have HS : Hid (pwN A.k.toNat N i (n + 1) = pr A.k.toNat N x i) := by show _ = _; rw [pwN_succ, HX.out]
      have HNN : Hid (1 ≤ n ∧ n ≤ E ∧ E ≤ n + gk) := ⟨hn1, hnE, hk⟩
      rw [HN.out] at HIS
      clear hid hn1 hnE hk hxl
      go_wp2_with fail
      refine Calls.mono HIS.out ?_
      rintro e w2 ⟨rfl, hb⟩
      have HB2 : Hid (Below w.heap.size w w2) := go_on HB.out hb
      clear hb
      go_wp2_with fail
      refine (HTM.out _ HB2.out).mono ?_
      rintro e w3 ⟨rfl, hb⟩
      have HB3 : Hid (Below w.heap.size w w3) := go_on HB2.out hb
      clear hb
      go_wp2_with fail
      go_roundg (gk - 1)
      case measure => have := HNN.out; have := HNE.out; omega
      case rel => exact ⟨n + 1, _, by omega, by have := HNN.out; have := HNE.out; omega, by have := HNN.out; have := HNE.out; omega, rfl, HS.out, HB3.out⟩

set_option maxHeartbeats 1000000 in
set_option maxRecDepth 100000 in
theorem romega_any {w : World} {rb : Nat} {A : Aut} {M : List (List Nat)} {N : List Nat} (h : RF w rb A M N) (i : Nat) (hi : i < M.length) :
    Calls Try.prog 16 #[.pointer (some ⟨rb, 0, none⟩), .int .i64 (i : Nat)] w fun e w' => (∃ x, e = .returned (.tuple #[.int .i64 (x : Nat), .int .i64 0]) ∧ OmQ A.k.toNat N i x) ∧ Below w.heap.size w w' := by
  have C0 : Hid (Calls Try.prog 45 #[.pointer (some ⟨rb, 0, none⟩), .int .i64 (i : Nat)] w fun e w' => e = .returned (.bool true) ∧ w = w') := by have := rhas_any h i; rw [hasE_yes hi] at this; exact this
  have HP : Hid _ := rpower_any h i hi
  clear h
  go_enter Try.func16, Try.ntmps16
  go_wp2_with fail
  refine C0.out.mono ?_
  rintro e w1 ⟨rfl, rfl⟩
  go_wp2_with fail
  refine Calls.mono HP.out ?_
  rintro e w2 ⟨⟨x, rfl, hx⟩, hb⟩
  have HO : Hid (OmQ A.k.toNat N i x) := hx
  clear hx
  go_wp2_with fail
  go_ret2
  exact ⟨⟨x, rfl, HO.out⟩, hb⟩

set_option maxHeartbeats 1000000 in
set_option maxRecDepth 100000 in
theorem romega_not {w : World} {rb : Nat} {A : Aut} {M : List (List Nat)} {N : List Nat} (h : RF w rb A M N) (i : Int) (hi : ¬ hasE M.length i = true) :
    Calls Try.prog 16 #[.pointer (some ⟨rb, 0, none⟩), .int .i64 i] w fun e w' => e = .returned (.tuple #[.int .i64 0, .int .i64 11]) ∧ Below w.heap.size w w' := by
  have C0 : Hid (Calls Try.prog 45 #[.pointer (some ⟨rb, 0, none⟩), .int .i64 i] w fun e w' => e = .returned (.bool false) ∧ w = w') := by have := rhas_any h i; rw [Bool.eq_false_iff.2 hi] at this; exact this
  clear h hi
  go_enter Try.func16, Try.ntmps16
  go_wp2_with fail
  refine C0.out.mono ?_
  rintro e w1 ⟨rfl, rfl⟩
  go_wp2_with fail
  go_ret2
  exact ⟨rfl, Below.refl _ _⟩

end Go.Proofs.Ytafcejipoioigaa

namespace Go.Proofs.Ytafcejipoioigaa
open Go Go.RowKit Go.Shelf Go.Lib
set_option linter.unusedVariables false
attribute [-instance] List.instBEq instBEqProd

attribute [local go_sem] Oper.semAt_some

/-- The values of round j. -/
def pwV (K : Nat) (N : List Nat) (i j : Nat) : Array Value := #[.int .i64 (j : Nat), .int .i64 (pwN K N i j : Nat)]

theorem powers_any (ob : Nat) (i : Int) (w : World) : Calls Try.prog 49 #[.pointer (some ⟨ob, 0, none⟩), .int .i64 i] w fun e w' => e = .returned (.func (.func 73) #[] #[.pointer (some ⟨w.heap.size, 0, none⟩), .pointer (some ⟨w.heap.size + 1, 0, none⟩)]) ∧ w' = (w.alloc (.cells #[.pointer (some ⟨ob, 0, none⟩)] 22)).alloc (.cells #[.int .i64 i] 3) := by
  go_enter Try.func49, Try.ntmps49
  go_wp2_with fail
  go_ret
  exact ⟨rfl, rfl⟩

set_option maxRecDepth 100000 in
set_option maxHeartbeats 2000000 in
theorem powers_at (n : Nat) (hn : 1 ≤ n) (b1 b2 ob i : Nat) (A : Aut) (M : List (List Nat)) (N : List Nat) (S : Nat → Prop) (w : World) (hMO : ∀ W, KS S w W → MO W ob A M N) (hi : i < M.length) (h1 : w.cell? ⟨b1, 0, none⟩ = some (.pointer (some ⟨ob, 0, none⟩))) (h2 : w.cell? ⟨b2, 0, none⟩ = some (.int .i64 (i : Nat))) (s1 : S b1) (s2 : S b2) (hS : ∀ b, S b → b < w.heap.size) :
    IterS Fence.wide n Try.prog 73 #[.pointer (some ⟨b1, 0, none⟩), .pointer (some ⟨b2, 0, none⟩)] (pwV A.k.toNat N i) S (M.length + 1) w := by
  intro l J Jx W hW hY hJ h0
  have HM : Hid (∀ W, KS S w W → MO W ob A M N) := hMO
  have hmon := (hMO w (KS.refl _ _)).mon
  have hms := hmon.most
  have HMon : Hid (Mon A M N) := hmon
  have HS : Hid (∀ b, S b → b < w.heap.size) := hS
  have HC : Hid (∀ W', KS S w W' → W'.cell? ⟨b1, 0, none⟩ = some (.pointer (some ⟨ob, 0, none⟩)) ∧ W'.cell? ⟨b2, 0, none⟩ = some (.int .i64 (i : Nat))) := fun W' hk => by
    exact ⟨by rw [World.cell?_of_block (a := ⟨b1, 0, none⟩) (hk.block b1 s1)]; exact h1, by rw [World.cell?_of_block (a := ⟨b2, 0, none⟩) (hk.block b2 s2)]; exact h2⟩
  have HY : Hid _ := hY
  have HJ : Hid (∀ j W1 W', J j W1 → Below W1.heap.size W1 W' → J j W') := hJ
  have H0 : Hid (J 0 W) := h0
  have HW : Hid (KS S w W) := hW
  have hx0 := (HC.out W hW).1
  clear hY h0 h1 h2 hW hJ hMO hmon hS s1 s2
  refine callsIn_of_wp Try.func73 rfl trivial ?_ rfl
  simp only [Try.ntmps73, List.size_toArray, List.length_cons, List.length_nil, Nat.reduceAdd, Nat.reduceSub, Array.replicate_succ, Array.replicate_zero, List.push_toArray, List.append_toArray, List.nil_append, List.cons_append]
  gi_wp2
  refine ⟨trivial, ?_⟩
  refine (callsIn_wide.2 (mlen_any (HM.out W HW.out))).mono ?_
  rintro e w1 ⟨rfl, rfl⟩
  have hwr : IntKind.i64.wrap ((M.length : Int) + 1) = (M.length : Int) + 1 := by rw [IntKind.wrap_i64]; omega
  clear hx0
  gi_wp2
  gi_loopw [4, 9] (fun vp vi wr => ∃ j : Nat, j ≤ M.length + 1 ∧ vi = .int .i64 (j : Nat) ∧ vp = .int .i64 (pwN A.k.toNat N i j : Nat) ∧ J j wr ∧ KS S w wr) (fun _ vi _ => M.length + 1 - (Go.RowKit.intOf vi).toNat)
  case atStart => exact ⟨0, Nat.zero_le _, rfl, rfl, H0.out, HW.out⟩
  case round =>
    obtain ⟨j, hj, rfl, rfl, hJj, hK⟩ := hrel
    have HJj : Hid (J j wr) := hJj
    have HK : Hid (KS S w wr) := hK
    clear hJj hK
    by_cases hlt : j < M.length + 1
    · have hjI : (j : Int) < (M.length : Int) + 1 := by omega
      obtain ⟨fn, tmps, assign, body, hy, hR⟩ := HY.out j wr hlt HJj.out HK.out
      unfold pwV at hy
      obtain ⟨p, hp⟩ : ∃ p, pwN A.k.toNat N i j = p := ⟨_, rfl⟩
      have HP : Hid (pr A.k.toNat N p i = pwN A.k.toNat N i (j + 1)) := by show _ = _; rw [pwN_succ, hp]
      have hpl : p < M.length := by rw [← hp]; exact HMon.out.pw_lt hi j
      rw [hp] at hy ⊢
      have HR : Hid (RoundIn Fence.wide (n - 1) Try.prog l fn tmps assign body wr _) := hR
      have HLT : Hid (j < M.length + 1) := hlt
      clear hR hp hlt
      gi_wp2
      refine HR.out.mono ?_
      clear HR hy
      rintro e W3 (⟨rfl, hJ3, hk3⟩ | ⟨rfl, hJx3⟩)
      · have HJ3 : Hid (J (j + 1) W3) := hJ3
        have HK3 : Hid (KS S w W3) := HK.out.trans hk3
        have hc := HC.out W3 HK3.out
        have hc1 := hc.1
        have hc2 := hc.2
        clear hJ3 hk3 hc
        gi_wp2
        refine ⟨trivial, ?_⟩
        refine (callsIn_wide.2 (iprod_two (HM.out W3 HK3.out) p i hpl hi)).mono ?_
        rintro e W4 ⟨rfl, hb4⟩
        rw [HP.out]
        have HJ4 : Hid (J (j + 1) W4) := HJ.out _ _ _ HJ3.out hb4
        have HK4 : Hid (KS S w W4) := HK3.out.trans (KS.below (fun b hb => Nat.lt_of_lt_of_le (HS.out b hb) HK3.out.size) hb4)
        clear hb4 hc1 hc2
        gi_wp2
        go_roundw
        case rel => exact ⟨j + 1, HLT.out, by go_num, rfl, HJ4.out, HK4.out⟩
        case measure => have := HLT.out; simp [Go.RowKit.intOf]; omega
      · have HJx3 : Hid _ := hJx3
        clear hJx3
        gi_wp2
        refine bodyPost_ret (results_none rfl _ _ _) rfl ?_
        exact ⟨⟨_, rfl⟩, .inr HJx3.out⟩
    · have hjI : ¬ (j : Int) < (M.length : Int) + 1 := by omega
      have HE : Hid (j = M.length + 1) := by show _ = _; omega
      gi_wp2
      go_end0
      refine ⟨⟨_, rfl⟩, .inl ?_⟩
      rw [← HE.out]
      exact HJj.out
end Go.Proofs.Ytafcejipoioigaa
