/- E60 E61 E86 E85 E88, in one text. -/
import Derived.Test.YtlohfeogaalfcabW4
import Derived.Test.YtlohfeogaalfcabW1
namespace Go.Proofs.Ytlohfeogaalfcab
open Go Go.RowKit Go.Lib Go.Maps
set_option linter.unusedVariables false
attribute [-instance] List.instBEq instBEqProd

set_option maxHeartbeats 2000000 in
set_option maxRecDepth 100000 in
theorem rbuild_bad (v : Value) (A : Aut) (w : World) (h : AR w v A) (hm : A.nx.length ≤ 9223372036854775806) (hm2 : A.ac.length ≤ 9223372036854775806) (hE : owE A ByteArray.empty ≠ 0) : Calls Try.prog 9 #[v] w fun e w' => e = .returned (.tuple #[.pointer none, .int .i64 (owE A ByteArray.empty)]) ∧ Below w.heap.size w w' := by
  obtain ⟨an, cn, aa, ca, e, h1, h2⟩ := h.is
  have HCK : Hid (∀ y, Below w.heap.size w y → Calls Try.prog 18 #[v] y fun e w' => e = .returned (.int .i64 (chkA A)) ∧ Below y.heap.size y w') := fun y hy => racheck_any v A y (h.stay hy) hm hm2
  subst e
  obtain ⟨W, hW⟩ : ∃ W, W = w.alloc (.cells #[.int .i64 A.k, .slice an A.nx.length cn, .slice aa A.ac.length ca] 25) := ⟨_, rfl⟩
  have HB1 : Hid (Below w.heap.size w W) := by show Below _ _ _; rw [hW]; exact below_new _ _
  have HBX1 : Hid (W.heap[w.heap.size]? = some (.cells #[.int .i64 A.k, .slice an A.nx.length cn, .slice aa A.ac.length ca] 25 (0, 0))) := by show _ = _; rw [hW]; exact heap_last _ _
  have HW1 : Hid (W = w.alloc (.cells #[.int .i64 A.k, .slice an A.nx.length cn, .slice aa A.ac.length ca] 25)) := hW
  clear hW h h1 h2
  by_cases hc : chkA A = 0
  · have h64 : 64 < A.ac.length := by
      rcases Nat.lt_or_ge 64 A.ac.length with q | q
      · exact q
      · exact absurd (owE_good (chkA_good hc) q) hE
    have HE : Hid (owE A ByteArray.empty = 81) := by show _ = _; unfold owE; rw [if_pos hc, if_pos (by omega)]
    rw [hc] at HCK
    have h64I : (64 : Int) < (A.ac.length : Nat) := by omega
    have h64d : decide ((64 : Int) < (A.ac.length : Nat)) = true := decide_eq_true h64I
    have h64e : decide (64 < A.ac.length) = true := decide_eq_true h64
    clear hE hc
    go_enter Try.func9, Try.ntmps9
    go_wp2_with fail
    rw [← HW1.out]
    refine (HCK.out _ HB1.out).mono ?_
    rintro e w1 ⟨rfl, hb⟩
    have HB2 : Hid (Below w.heap.size w w1) := go_on HB1.out hb
    have cs2 : w1.cell? ⟨w.heap.size, 2, none⟩ = some (.slice aa A.ac.length ca) := cell_at ((hb.block _ (Array.getElem?_eq_some_iff.1 HBX1.out).1).trans HBX1.out) rfl
    clear hb
    go_wp2_with fail
    go_ret2
    exact ⟨by rw [HE.out]; rfl, HB2.out⟩
  · have hG : ¬ Good A := fun G => hc (chkA_ok G)
    have HE : Hid (owE A ByteArray.empty = 80) := by show _ = _; unfold owE; rw [if_neg hc]
    rw [chkA_no hG] at HCK
    clear hE hc hG
    go_enter Try.func9, Try.ntmps9
    go_wp2_with fail
    rw [← HW1.out]
    refine (HCK.out _ HB1.out).mono ?_
    rintro e w1 ⟨rfl, hb⟩
    have HB2 : Hid (Below w.heap.size w w1) := go_on HB1.out hb
    have cs2 : w1.cell? ⟨w.heap.size, 2, none⟩ = some (.slice aa A.ac.length ca) := cell_at ((hb.block _ (Array.getElem?_eq_some_iff.1 HBX1.out).1).trans HBX1.out) rfl
    clear hb
    go_wp2_with fail
    go_ret2
    exact ⟨by rw [HE.out]; rfl, HB2.out⟩

theorem rbuild_any (v : Value) (A : Aut) (w : World) (h : AR w v A) (hm : A.nx.length ≤ 9223372036854775806) (hm2 : A.ac.length ≤ 9223372036854775806) : Calls Try.prog 9 #[v] w (RbQ A w) := by
  by_cases hE : owE A ByteArray.empty = 0
  · obtain ⟨G, h64⟩ := owE_ok hE
    exact rbuild_ok v A w h G h64
  · refine (rbuild_bad v A w h hm hm2 hE).mono ?_
    rintro e w' ⟨rfl, hb⟩
    have e1 : bdE A = owE A ByteArray.empty := by unfold bdE; rw [if_neg hE]
    exact .inl ⟨by rw [e1]; exact hE, by rw [e1], hb⟩

end Go.Proofs.Ytlohfeogaalfcab

namespace Go.Proofs.Ytlohfeogaalfcab
open Go Go.RowKit Go.Lib Go.Maps
set_option linter.unusedVariables false
attribute [-instance] List.instBEq instBEqProd

/-- A monoid that Build made, of whose automaton's lists nothing lies below lo. -/
def MOb (lo : Nat) (w : World) (ob : Nat) (A : Aut) (M : List (List Nat)) (N : List Nat) : Prop := ∃ base bt b mb gw ga R n a c d vl D an cn aa ca, lo ≤ base ∧ MP w ob A M N base bt b mb gw ga R n a c d vl D an cn aa ca (.pointer (some ⟨ob, 0, none⟩))

theorem MOb.mo {lo : Nat} {w : World} {ob : Nat} {A : Aut} {M : List (List Nat)} {N : List Nat} (h : MOb lo w ob A M N) : MO w ob A M N := by
  obtain ⟨base, bt, b, mb, gw, ga, R, n, a, c, d, vl, D, an, cn, aa, ca, _, h⟩ := h
  exact ⟨base, bt, b, mb, gw, ga, R, n, a, c, d, vl, D, an, cn, aa, ca, h⟩

theorem MOb.below {lo : Nat} {w w' : World} {ob : Nat} {A : Aut} {M : List (List Nat)} {N : List Nat} (h : MOb lo w ob A M N) (hb : Below w.heap.size w w') : MOb lo w' ob A M N := by
  obtain ⟨base, bt, b, mb, gw, ga, R, n, a, c, d, vl, D, an, cn, aa, ca, l, h⟩ := h
  exact ⟨base, bt, b, mb, gw, ga, R, n, a, c, d, vl, D, an, cn, aa, ca, l, h.keep hb⟩

theorem MOb.set {lo : Nat} {w : World} {ob : Nat} {A : Aut} {M : List (List Nat)} {N : List Nat} (h : MOb lo w ob A M N) {g o : Nat} {v : Value} {cs : Array Value} (hg : g < lo) (hc : w.heap[g]? = some (.cells cs 3 (0, 0))) : MOb lo (w.setCell ⟨g, o, none⟩ v) ob A M N := by
  obtain ⟨base, bt, b, mb, gw, ga, R, n, a, c, d, vl, D, an, cn, aa, ca, l, h⟩ := h
  have kt : ∀ (j : Nat) (cur : Array Value) (ty : TypeId), w.heap[j]? = some (.cells cur ty (0, 0)) → ty ≠ 3 → (w.setCell ⟨g, o, none⟩ v).heap[j]? = w.heap[j]? := fun j cur ty hj hn => heap_set_other (blk_ne hj hc hn)
  obtain ⟨cw, hw, _⟩ := id h.wp
  obtain ⟨cb, hb, _⟩ := id h.bp
  obtain ⟨cr, hr, _⟩ := id h.rt
  refine ⟨base, bt, b, mb, gw, ga, R, n, a, c, d, vl, D, an, cn, aa, ca, l, ⟨(kt _ _ _ h.box (by decide)).trans h.box, own_keep h.nx (fun j cur hj _ => heap_set_other (by have := (h.nx.lt j hj).1; omega)), own_keep h.ac (fun j cur _ hc => kt j _ _ hc (by decide)), h.tb.keep (fun j hj _ => heap_set_other (fun e => by subst e; exact h.tb.not_ts hc (by decide) (by decide) hj)), h.wp.keep (kt _ _ _ hw (by decide)), h.bp.keep (kt _ _ _ hb (by decide)), h.rt.keep (kt _ _ _ hr (by decide)), h.mon, h.num⟩⟩

/-- What Build answers of an automaton of at most 64 states. -/
def BdL (A : Aut) (w : World) (e : Ending) (w' : World) : Prop :=
  (mEl A = none ∧ e = .returned (.tuple #[.pointer none, .int .i64 140]) ∧ Below w.heap.size w w') ∨
  ∃ ob M N, e = .returned (.tuple #[.pointer (some ⟨ob, 0, none⟩), .int .i64 0]) ∧ mEl A = some (M, N) ∧ MOb w.heap.size w' ob A M N ∧ Below w.heap.size w w'

set_option maxHeartbeats 4000000 in
set_option maxRecDepth 100000 in
theorem build_low (v : Value) (A : Aut) (w : World) (h : AR w v A) (G : Good A) (h64 : A.ac.length ≤ 64) :
    Calls Try.prog 10 #[v] w (BdL A w) := by
  have hks := G.ks
  have hn1 := G.n1
  have hln := G.len
  have hxl : 1 ≤ A.nx.length ∧ A.nx.length ≤ 40000 := by
    have h1 : (1 : Int) * 1 ≤ (A.ac.length : Int) * A.k := Int.mul_le_mul (by omega) G.k1 (by omega) (by omega)
    have h2 : (A.ac.length : Int) * A.k ≤ 64 * 8 := Int.mul_le_mul (by omega) G.k8 (by have := G.k1; omega) (by omega)
    omega
  obtain ⟨an, cn, aa, ca, e, h1, h2⟩ := h.is
  have HA : Hid (∀ w', Below w.heap.size w w' → AR w' v A) := fun w' hb => h.stay hb
  clear h h1 h2 hln
  subst e
  have HGd : Hid (Good A) := G
  obtain ⟨w0, hw0⟩ : ∃ w0, w0 = w.alloc (.cells #[.int .i64 A.k, .slice an A.nx.length cn, .slice aa A.ac.length ca] 25) := ⟨_, rfl⟩
  have HB0 : Hid (Below w.heap.size w w0) := by show Below _ _ _; rw [hw0]; exact below_new _ _
  have HR0 : Hid (RowAt w0 w.heap.size #[.int .i64 A.k, .slice an A.nx.length cn, .slice aa A.ac.length ca]) := by show RowAt _ _ _; rw [hw0]; exact RowAt.last _ _ _
  have HW0 : Hid (w0 = w.alloc (.cells #[.int .i64 A.k, .slice an A.nx.length cn, .slice aa A.ac.length ca] 25)) := hw0
  clear hw0 G
  go_enter Try.func10, Try.ntmps10
  go_wp2_with fail
  rw [← HW0.out]
  refine (find_any _ A w0 (HA.out _ HB0.out) HGd.out h64).mono ?_
  rintro e w1 (⟨hno, rfl, hB1⟩ | ⟨base, fb, b, mb, vl, vw, vr, M, W, N, D, rfl, hE, hWY, hF, hlo, hB1⟩)
  · have HNO : Hid (mEl A = none) := hno
    have HB1 : Hid (Below w.heap.size w w1) := go_on HB0.out hB1
    clear hno hB1
    go_wp2_with fail
    go_ret2
    exact .inl ⟨HNO.out, rfl, HB1.out⟩
  · have HMon : Hid (Mon A M N) := mon_of HGd.out h64 hE
    have HE : Hid (mEl A = some (M, N)) := hE
    have HWY : Hid (WyO A.k.toNat M W N) := hWY
    have HF : Hid (FN base w1 fb b mb A.k.toNat A.ac.length vl vw vr M W N D) := hF
    have HB1 : Hid (Below w.heap.size w w1) := go_on HB0.out hB1
    have HR1 : Hid (RowAt w1 w.heap.size #[.int .i64 A.k, .slice an A.nx.length cn, .slice aa A.ac.length ca]) := HR0.out.stay hB1
    have S0 : ((∀ o, (w1.drew).cell? ⟨w.heap.size, o, none⟩ = (#[.int .i64 A.k, .slice an A.nx.length cn, .slice aa A.ac.length ca] : Array Value)[o]?) ∧ (w1.drew).cell? ⟨fb, 1, none⟩ = some (.pointer (some ⟨b, 0, none⟩))) := ⟨HR1.out.cell, cell_at HF.out.box rfl⟩
    have HSK : Hid (∀ y y' : World, ((∀ o, y.cell? ⟨w.heap.size, o, none⟩ = (#[.int .i64 A.k, .slice an A.nx.length cn, .slice aa A.ac.length ca] : Array Value)[o]?) ∧ y.cell? ⟨fb, 1, none⟩ = some (.pointer (some ⟨b, 0, none⟩))) → Below y.heap.size y y' → ((∀ o, y'.cell? ⟨w.heap.size, o, none⟩ = (#[.int .i64 A.k, .slice an A.nx.length cn, .slice aa A.ac.length ca] : Array Value)[o]?) ∧ y'.cell? ⟨fb, 1, none⟩ = some (.pointer (some ⟨b, 0, none⟩)))) := fun y y' hy hb => by
      have k1 : w.heap.size < y.heap.size := World.block_lt_of_cell? y ⟨w.heap.size, 0, none⟩ (hy.1 0)
      have k2 : fb < y.heap.size := World.block_lt_of_cell? y ⟨fb, 1, none⟩ hy.2
      exact ⟨fun o => by rw [below_cellJ hb k1]; exact hy.1 o, by rw [below_cellJ hb k2]; exact hy.2⟩
    clear hE hWY hF hB1 HR0 HW0
    go_wp2_with fail
    go_region_held3 (fun y => ((∀ o, y.cell? ⟨w.heap.size, o, none⟩ = (#[.int .i64 A.k, .slice an A.nx.length cn, .slice aa A.ac.length ca] : Array Value)[o]?) ∧ y.cell? ⟨fb, 1, none⟩ = some (.pointer (some ⟨b, 0, none⟩)))) (first | assumption | exact S0 | exact HSK.out _ _ (by assumption) (by assumption) | exact HSK.out _ _ (by assumption) (below_new _ _)) (first
      | (go_at_call 21; refine (fresh_any _ A _ (HA.out _ HB1.out.drew) hxl.1 hn1 hxl.2 (by omega)).mono ?_; rintro e y1 ⟨v1, rfl, ⟨an1, cn1, aa1, ca1, rfl, hx1, hc1⟩, hy1⟩; have K1 : Hid (Below w1.heap.size w1 y1) := go_on (Below.refl _ _).drew hy1; have HX1 : Hid (y1.ownsRow w1.drew.heap.size 3 1 (.slice an1 A.nx.length cn1) A.nx.length (zC A.nx)) := hx1; have HC1 : Hid (y1.ownsRow w1.drew.heap.size 4 1 (.slice aa1 A.ac.length ca1) A.ac.length (bC A.ac)) := hc1; have HY2 : Hid (∀ z, Below y1.heap.size y1 z → Below y1.heap.size y1 z) := fun _ q => q; clear hx1 hc1)
      | (go_at_call 22; refine (words_any (HF.out.below K1.out) HWY.out HMon.out.fst ⟨hks.1, hks.2.1⟩ HMon.out.pos).mono ?_; rintro e y2 ⟨g2, rfl, hy2, hg2, hw2⟩; have K2 : Hid (Below w1.heap.size w1 y2) := go_on K1.out hy2; have HW2 : Hid (WP y2 g2 A.k.toNat M.length N M.length) := hw2; clear hw2 hg2)
      | (go_at_call 23; refine (accepted_any (HF.out.below K2.out) HWY.out.len _ (HA.out _ (go_on HB1.out K2.out)) hn1).mono ?_; rintro e y3 ⟨g3, rfl, hy3, hg3, hb3⟩; have K3 : Hid (Below w1.heap.size w1 y3) := go_on K2.out hy3; have HP3 : Hid (BP y3 g3 A M M.length) := hb3; have HY3 : Hid (Below y2.heap.size y2 y3) := hy3; clear hb3 hg3)
      | (go_at_call 24; refine (lay_any (HF.out.below K3.out) HWY.out HMon.out.fst ⟨hks.1, hks.2.1⟩ HMon.out.pos HMon.out.len (fun a b ha hb => HMon.out.pr_lt ha hb) (fun p hp => HMon.out.nl hp)).mono ?_; rintro e y4 ⟨R, n, a, c, d, hn, ha, hc, hd, rfl, hy4, hR, hRT⟩; have K4 : Hid (Below w1.heap.size w1 y4) := go_on K3.out hy4; have HRT : Hid (RT y4 R n A.k.toNat N (fun _ _ => True) (fun _ _ => True)) := hRT; have HNM : Hid (M.length = n ∧ n * A.k.toNat = a ∧ n * n = c ∧ a + a = d) := ⟨hn, ha, hc, hd⟩; have HY4 : Hid (Below y3.heap.size y3 y4) := hy4; clear hRT hn ha hc hd hR))
    have HMP : Hid (MP (y4.alloc (.cells #[.pointer (some ⟨y4.heap.size, 0, none⟩), .int .i64 A.k, .slice an1 A.nx.length cn1, .slice aa1 A.ac.length ca1, .pointer (some ⟨b, 0, none⟩), .slice (some ⟨g2, 0, none⟩) M.length M.length, .slice (some ⟨g3, 0, none⟩) M.length M.length, .int .i64 A.k, .slice (some ⟨R, 0, none⟩) a a, .int .i64 A.k, .slice (some ⟨R, a, none⟩) a a, .int .i64 (n : Int), .slice (some ⟨R, d, none⟩) c c] 52)) y4.heap.size A M N w1.drew.heap.size base b mb g2 g3 R n a c d vl D an1 cn1 aa1 ca1 (.pointer (some ⟨y4.heap.size, 0, none⟩))) := by
      have hY14 : Below y1.heap.size y1 y4 := go_on (go_on hy2 HY3.out) HY4.out
      have hb : Below y4.heap.size y4 (y4.alloc (.cells #[.pointer (some ⟨y4.heap.size, 0, none⟩), .int .i64 A.k, .slice an1 A.nx.length cn1, .slice aa1 A.ac.length ca1, .pointer (some ⟨b, 0, none⟩), .slice (some ⟨g2, 0, none⟩) M.length M.length, .slice (some ⟨g3, 0, none⟩) M.length M.length, .int .i64 A.k, .slice (some ⟨R, 0, none⟩) a a, .int .i64 A.k, .slice (some ⟨R, a, none⟩) a a, .int .i64 (n : Int), .slice (some ⟨R, d, none⟩) c c] 52)) := below_new _ _
      have hnm := HNM.out
      refine ⟨?_, own_below (own_below HX1.out hY14) hb, own_below (own_below HC1.out hY14) hb, (HF.out.tb.below K4.out).below hb, ?_, ?_, HRT.out.keep (hb.block _ HRT.out.lt), HMon.out, hnm⟩
      · rw [hks.2.2]
        have q0 := heap_last y4 (.cells #[.pointer (some ⟨y4.heap.size, 0, none⟩), .int .i64 A.k, .slice an1 A.nx.length cn1, .slice aa1 A.ac.length ca1, .pointer (some ⟨b, 0, none⟩), .slice (some ⟨g2, 0, none⟩) M.length M.length, .slice (some ⟨g3, 0, none⟩) M.length M.length, .int .i64 A.k, .slice (some ⟨R, 0, none⟩) a a, .int .i64 A.k, .slice (some ⟨R, a, none⟩) a a, .int .i64 (n : Int), .slice (some ⟨R, d, none⟩) c c] 52)
        have e := hnm.1
        rw [q0]
        congr 3
        rw [e]
      · have h24 : Below y2.heap.size y2 y4 := go_on HY3.out HY4.out
        have q0 := HW2.out
        rw [hnm.1] at q0
        exact (q0.keep (h24.block g2 HW2.out.lt)).keep (hb.block g2 (by have := HW2.out.lt; have := h24.size; omega))
      · have q0 := HP3.out
        rw [hnm.1] at q0
        exact (q0.keep (HY4.out.block g3 HP3.out.lt)).keep (hb.block g3 (by have := HP3.out.lt; have := HY4.out.size; omega))
    have HBF : Hid (Below w.heap.size w (y4.alloc (.cells #[.pointer (some ⟨y4.heap.size, 0, none⟩), .int .i64 A.k, .slice an1 A.nx.length cn1, .slice aa1 A.ac.length ca1, .pointer (some ⟨b, 0, none⟩), .slice (some ⟨g2, 0, none⟩) M.length M.length, .slice (some ⟨g3, 0, none⟩) M.length M.length, .int .i64 A.k, .slice (some ⟨R, 0, none⟩) a a, .int .i64 A.k, .slice (some ⟨R, a, none⟩) a a, .int .i64 (n : Int), .slice (some ⟨R, d, none⟩) c c] 52))) := by
      have q := go_on HB1.out K4.out
      exact go_on q (below_new _ _)
    clear S0 hy1 hy2 hy3 hy4
    go_wp2_with fail
    go_ret2
    exact .inr ⟨y4.heap.size, M, N, rfl, HE.out, ⟨_, _, _, _, _, _, _, _, _, _, _, _, _, _, _, _, _, HB1.out.size, HMP.out⟩, HBF.out⟩

/-- What Build answers. -/
def BdB (A : Aut) (w : World) (e : Ending) (w' : World) : Prop :=
  (bdE A ≠ 0 ∧ e = .returned (.tuple #[.pointer none, .int .i64 (bdE A)]) ∧ Below w.heap.size w w') ∨
  ∃ ob M N, e = .returned (.tuple #[.pointer (some ⟨ob, 0, none⟩), .int .i64 0]) ∧ Good A ∧ A.ac.length ≤ 64 ∧ mEl A = some (M, N) ∧ MOb w.heap.size w' ob A M N ∧ Below w.heap.size w w'

theorem build_lows (v : Value) (A : Aut) (w : World) (h : AR w v A) (hm : A.nx.length ≤ 9223372036854775806) (hm2 : A.ac.length ≤ 9223372036854775806) :
    Calls Try.prog 10 #[v] w (BdB A w) := by
  by_cases hE : owE A ByteArray.empty = 0
  · obtain ⟨G, h64⟩ := owE_ok hE
    refine (build_low v A w h G h64).mono ?_
    rintro e w' (⟨hn, rfl, hb⟩ | ⟨ob, M, N, rfl, he, hmo, hb⟩)
    · have e1 : bdE A = 140 := by unfold bdE; rw [if_pos hE, hn]; rfl
      exact .inl ⟨by rw [e1]; decide, by rw [e1], hb⟩
    · exact .inr ⟨ob, M, N, rfl, G, h64, he, hmo, hb⟩
  · refine (build_bad v A w h hm hm2 hE).mono ?_
    rintro e w' ⟨rfl, hb⟩
    have e1 : bdE A = owE A ByteArray.empty := by unfold bdE; rw [if_neg hE]
    exact .inl ⟨by rw [e1]; exact hE, by rw [e1], hb⟩

end Go.Proofs.Ytlohfeogaalfcab

namespace Go.Proofs.Ytlohfeogaalfcab
open Go Go.RowKit Go.Lib Go.Maps
set_option linter.unusedVariables false
attribute [-instance] List.instBEq instBEqProd

theorem eq_Gnil (a : Addr) (w : World) : (binOp .eql 72 (.pointer (some a)) (.pointer none)).run Try.prog w = .ok (.bool false) w := by
  simp only [binOp]
  simp only [Op.equal, Op.maxDepth]
  rw [show (10000 : Nat) = 9999 + 1 from rfl, Op.equalIn]
  simp [Sem.run_bind, run_underlying Try.underlying72]

set_option maxHeartbeats 4000000 in
set_option maxRecDepth 100000 in
theorem knows17_any (w : World) : Calls Try.prog 11 #[] w fun e w' => e = .returned (.bool true) ∧ Below w.heap.size w w' := by
  go_enter Try.func11, Try.ntmps11
  go_wp2_with fail
  refine (even_any w).mono ?_
  rintro e w1 ⟨v, rfl, hAR, hB1⟩
  have HB1 : Hid (Below w.heap.size w w1) := hB1
  have HAR : Hid (AR w1 v eA) := hAR
  clear hB1 hAR
  go_wp2_with fail
  refine (build_any v eA w1 HAR.out eA_good (by decide)).mono ?_
  rintro e w2 (⟨hno, _⟩ | ⟨ob, M, N, rfl, hE, hMO, hB2⟩)
  · rw [eA_el] at hno
    cases hno
  rw [eA_el] at hE
  simp only [Option.some.injEq, Prod.mk.injEq] at hE
  obtain ⟨rfl, rfl⟩ := hE
  have HM : Hid (MO w2 ob eA eM eN) := hMO
  have HB2 : Hid (Below w.heap.size w w2) := go_on HB1.out hB2
  clear hMO hB2
  have HOF : Hid _ := of_any HM.out 0
  go_wp2_with fail
  refine Calls.mono HOF.out ?_
  rintro en w3 ⟨hof, hb2⟩
  have HB3 : Hid (Below w.heap.size w w3) := go_on HB2.out hb2
  clear HOF
  rcases hof with ⟨_, _, gb, gm, cm, mb, pb, ib, D, P, I, tv, rfl, hgb, hgx⟩ | ⟨_, q, _⟩ | ⟨q, _⟩
  rotate_left
  · exact absurd q (by decide +kernel)
  · exact absurd (by decide +kernel) q
  have hgy : GX w3 gb 1 eN 0 [0, 1] gm cm mb pb ib D P I tv := gx_even hgx
  have HOD : Hid (∀ y, Below w3.heap.size w3 y → Calls Try.prog 27 #[.pointer (some ⟨gb, 0, none⟩)] y fun e w' => e = .returned (.int .i64 2) ∧ y = w') := fun y hy => gorder_any (hgy.below hy)
  have HCY : Hid (∀ y, Below w3.heap.size w3 y → Calls Try.prog 28 #[.pointer (some ⟨gb, 0, none⟩)] y fun e w' => e = .returned (.bool true) ∧ Below y.heap.size y w') := fun y hy => by
    have q := gcyclic_any (hgy.below hy) (by decide)
    rw [show decide (([0, 1] : List Nat).length ∈ P) = true from eA_cyc hgy.pi hgy.pl] at q
    exact q
  have HMB : Hid (∀ y, Below w3.heap.size w3 y → Calls Try.prog 30 #[.pointer (some ⟨gb, 0, none⟩)] y fun e w' => ∃ v, e = .returned v ∧ OwnN w' y.heap.size v [0, 1] ∧ Below y.heap.size y w') := fun y hy => gmembers_any (hgy.below hy) (by decide) (by decide)
  have hne := eq_Gnil ⟨gb, 0, none⟩
  clear hgx hgy hgb hb2 HB2 HB1 HAR HM
  have HB3' : Hid (Below w3.heap.size w3 w3) := Below.refl _ _
  go_wp2_with (first | (go_at_call 8; refine (num17_any _ _).mono ?_; rintro e yn ⟨rfl, hyn⟩; subst yn) | (go_at_call 27; refine Calls.mono (HOD.out _ HB3'.out) ?_; rintro en yn ⟨rfl, hyn⟩; subst yn) | (go_at_call 28; refine Calls.mono (HCY.out _ HB3'.out) ?_; rintro en yc ⟨rfl, hb⟩; have HBC : Hid (Below w3.heap.size w3 yc) := hb; clear hb) | (go_at_call 30; refine Calls.mono (HMB.out _ HBC.out) ?_; rintro en ym ⟨v, rfl, ho, hb⟩; obtain ⟨la, lc, rfl⟩ := own_shape ho; have HL : Hid (SR ym la (zC [0, 1])) := (by have q := own_sr ho; rw [nC_zC] at q; exact q); have HBM : Hid (Below w3.heap.size w3 ym) := go_on HBC.out hb; have HSM : Hid (Calls Try.prog 29 #[.slice la 2 lc, .slice (some ⟨ym.heap.size, 0, none⟩) 2 2] (ym.alloc (.cells #[.int .i64 0, .int .i64 1] 3)) fun e w' => e = .returned (.bool true) ∧ Below (ym.alloc (.cells #[.int .i64 0, .int .i64 1] 3)).heap.size (ym.alloc (.cells #[.int .i64 0, .int .i64 1] 3)) w') := isame_any la _ lc 2 [0, 1] _ (HL.out.stay (below_new _ _)) (sr_newZ ym [0, 1] 3) (by decide); clear hb ho) | (go_at_call 29; refine HSM.out.mono ?_; rintro e yz ⟨rfl, hb⟩; have HBZ : Hid (Below w3.heap.size w3 yz) := go_on (go_on HBM.out (below_new _ _)) hb; clear hb HSM))
  go_ret
  exact ⟨rfl, go_on HB3.out HBZ.out⟩
end Go.Proofs.Ytlohfeogaalfcab

namespace Go.Proofs.Ytlohfeogaalfcab
open Go Go.RowKit Go.Lib Go.Maps
set_option linter.unusedVariables false
attribute [-instance] List.instBEq instBEqProd

/-- What built answers. -/
def BuQ (A : Aut) (w : World) (e : Ending) (w' : World) : Prop :=
  (bdE A ≠ 0 ∧ e = .returned (.tuple #[.pointer none, .pointer none, .bool false, .bool true]) ∧ Below w.heap.size w w') ∨
  ∃ ob rb M N, e = .returned (.tuple #[.pointer (some ⟨ob, 0, none⟩), .pointer (some ⟨rb, 0, none⟩), .bool true, .bool true]) ∧ Good A ∧ A.ac.length ≤ 64 ∧ mEl A = some (M, N) ∧ MO w' ob A M N ∧ RF w' rb A M N ∧ Below w.heap.size w w'

theorem bdE_in {A : Aut} (G : Good A) (h64 : A.ac.length ≤ 64) {M : List (List Nat)} {N : List Nat} (he : mEl A = some (M, N)) : bdE A = 0 := by
  unfold bdE
  rw [if_pos (owE_good G h64), he]
  rfl

theorem results_tuple4 {fn : Func} {t u v x : Tmp} (h : fn.results = #[.tmp t, .tmp u, .tmp v, .tmp x]) (tmps : Array Value) (P : Program) (w : World) :
    (results fn tmps).run P w = .ok (.tuple #[tmps.getD t undef, tmps.getD u undef, tmps.getD v undef, tmps.getD x undef]) w := by
  simp [results, h]

set_option maxHeartbeats 4000000 in
set_option maxRecDepth 100000 in
theorem built17_any (v : Value) (A : Aut) (w : World) (h : AR w v A) (hm : A.nx.length ≤ 9223372036854775806) (hm2 : A.ac.length ≤ 9223372036854775806) :
    Calls Try.prog 4 #[v] w (BuQ A w) := by
  obtain ⟨an, cn, aa, ca, e, h1, h2⟩ := h.is
  have HRB : Hid (∀ w', Below w.heap.size w w' → Calls Try.prog 9 #[v] w' (RbQ A w')) := fun w' hb => rbuild_any v A w' (h.stay hb) hm hm2
  have HBD : Hid (∀ w', Below w.heap.size w w' → Calls Try.prog 10 #[v] w' (BdA A w')) := fun w' hb => build_all v A w' (h.stay hb) hm hm2
  clear h h1 h2 hm hm2
  subst e
  obtain ⟨w0, hw0⟩ : ∃ w0, w0 = w.alloc (.cells #[.int .i64 A.k, .slice an A.nx.length cn, .slice aa A.ac.length ca] 25) := ⟨_, rfl⟩
  have HB0 : Hid (Below w.heap.size w w0) := by show Below _ _ _; rw [hw0]; exact below_new _ _
  have HR0 : Hid (RowAt w0 w.heap.size #[.int .i64 A.k, .slice an A.nx.length cn, .slice aa A.ac.length ca]) := by show RowAt _ _ _; rw [hw0]; exact RowAt.last _ _ _
  have HW0 : Hid (w0 = w.alloc (.cells #[.int .i64 A.k, .slice an A.nx.length cn, .slice aa A.ac.length ca] 25)) := hw0
  clear hw0
  go_enter Try.func4, Try.ntmps4
  go_wp2_with fail
  rw [← HW0.out]
  refine (HRB.out _ HB0.out).mono ?_
  rintro e w1 (⟨hne, rfl, hb1⟩ | ⟨rb, M, N, rfl, G, h64, hE, hrf, hb1⟩)
  · have HB1 : Hid (Below w.heap.size w w1) := go_on HB0.out hb1
    have HNE : Hid (bdE A ≠ 0) := hne
    obtain ⟨E, hEE⟩ : ∃ E, bdE A = E := ⟨_, rfl⟩
    have HEE : Hid (bdE A = E) := hEE
    have hE0 : E ≠ 0 := by rw [← hEE]; exact hne
    have cs1 := (HR0.out.stay hb1).cell
    rw [hEE]
    clear hb1 hne hEE
    go_wp2_with fail
    refine (HBD.out _ HB1.out).mono ?_
    rintro e w2 (⟨_, rfl, hb2⟩ | ⟨ob, M, N, _, G, h64, hel, _⟩)
    · rw [HEE.out]
      have HB2 : Hid (Below w.heap.size w w2) := go_on HB1.out hb2
      have hq0 : (E != 0) = true := by rw [bne_iff_ne]; exact hE0
      have hqd : decide (E = 0) = false := decide_eq_false hE0
      have hqE : (E == E) = true := by simp
      clear hb2 hE0 cs1
      go_wp2_with (first | (go_at_call 8; refine (num17_any _ _).mono ?_; rintro e yn ⟨rfl, hyn⟩; subst yn) | (go_at_call 11; refine (knows17_any _).mono ?_; rintro e w3 ⟨rfl, hb3⟩; have HB3 : Hid (Below w.heap.size w w3) := go_on HB2.out hb3; clear hb3))
      (try simp only [Exit.inBlock, Exit.then])
      refine bodyPost_ret (results_tuple4 rfl _ _ _) rfl ?_
      exact .inl ⟨HNE.out, rfl, HB3.out⟩
    · exact absurd (bdE_in G h64 hel) HNE.out
  · have HB1 : Hid (Below w.heap.size w w1) := go_on HB0.out hb1
    have HOK : Hid (Good A ∧ A.ac.length ≤ 64 ∧ mEl A = some (M, N)) := ⟨G, h64, hE⟩
    have HRF1 : Hid (RF w1 rb A M N) := hrf.rf
    have cs1 := (HR0.out.stay hb1).cell
    clear hb1 hrf G h64 hE
    go_wp2_with fail
    refine (HBD.out _ HB1.out).mono ?_
    rintro e w2 (⟨hne, _, _⟩ | ⟨ob, M', N', rfl, _, _, hel, hmo, hb2⟩)
    · exact absurd (bdE_in HOK.out.1 HOK.out.2.1 HOK.out.2.2) hne
    · have hMN : M' = M ∧ N' = N := by
        have := HOK.out.2.2
        rw [hel, Option.some.injEq, Prod.mk.injEq] at this
        exact this
      obtain ⟨e1, e2⟩ := hMN
      rw [e1, e2] at hmo
      have HM2 : Hid (MO w2 ob A M N) := hmo
      have HB2 : Hid (Below w.heap.size w w2) := go_on HB1.out hb2
      have HRF2 : Hid (RF w2 rb A M N) := HRF1.out.below hb2
      have heq := eq_Mnil ⟨ob, 0, none⟩
      clear hb2 hmo hel e1 e2 cs1
      go_wp2_with (first | (go_at_call 8; refine (num17_any _ _).mono ?_; rintro e yn ⟨rfl, hyn⟩; subst yn) | (go_at_call 6; refine (mlen_any HM2.out).mono ?_; rintro e yn ⟨rfl, hyn⟩; subst yn) | (go_at_call 12; refine (rlen_any HRF2.out).mono ?_; rintro e yn ⟨rfl, hyn⟩; subst yn) | (go_at_call 11; refine (knows17_any _).mono ?_; rintro e w3 ⟨rfl, hb3⟩; have HB3 : Hid (Below w.heap.size w w3) := go_on HB2.out hb3; have HM3 : Hid (MO w3 ob A M N) := HM2.out.below hb3; have HRF3 : Hid (RF w3 rb A M N) := HRF2.out.below hb3; clear hb3))
      (try simp only [Exit.inBlock, Exit.then])
      refine bodyPost_ret (results_tuple4 rfl _ _ _) rfl ?_
      exact .inr ⟨ob, rb, M, N, rfl, HOK.out.1, HOK.out.2.1, HOK.out.2.2, HM3.out, HRF3.out, HB3.out⟩
end Go.Proofs.Ytlohfeogaalfcab

namespace Go.Proofs.Ytlohfeogaalfcab
open Go Go.RowKit Go.Lib Go.Maps
set_option linter.unusedVariables false
attribute [-instance] List.instBEq instBEqProd

theorem fill_step (ys : List Nat) (k : Nat) (hk : k < ys.length) : (ys.take k ++ List.replicate (ys.length - k) 0).set k (ys.getD k 0) = ys.take (k + 1) ++ List.replicate (ys.length - (k + 1)) 0 := by
  have e1 : List.replicate (ys.length - k) 0 = 0 :: List.replicate (ys.length - (k + 1)) 0 := by
    rw [show ys.length - k = (ys.length - (k + 1)) + 1 by omega, List.replicate_succ]
  have e2 : ys.take (k + 1) = ys.take k ++ [ys.getD k 0] := by
    rw [List.take_add_one, List.getD_eq_getElem?_getD, List.getElem?_eq_getElem hk]
    rfl
  have hl : (ys.take k).length = k := by rw [List.length_take]; omega
  rw [e1, e2, List.set_append_right _ _ (by omega), hl, Nat.sub_self, List.append_assoc]
  rfl

/-- The orders of the groups at all idempotents. -/
noncomputable def ordsL (K n : Nat) (N : List Nat) : List Nat := (thL n (idE K N)).map fun e => (thL n (hcE K N e)).length

/-- What Orders answers. -/
def OrQ (K n : Nat) (N : List Nat) (w : World) (en : Ending) (w' : World) : Prop :=
  ∃ g, en = .returned (.tuple #[.slice (some ⟨g, 0, none⟩) (ordsL K n N).length (ordsL K n N).length, .int .i64 0]) ∧ PR w' g (ordsL K n N) [] ∧ Below w.heap.size w w'

set_option maxHeartbeats 4000000 in
set_option maxRecDepth 100000 in
theorem orders_any {w : World} {ob : Nat} {A : Aut} {M : List (List Nat)} {N : List Nat} (h : MO w ob A M N) :
    Calls Try.prog 5 #[.pointer (some ⟨ob, 0, none⟩)] w (OrQ A.k.toNat M.length N w) := by
  have HM : Hid (MO w ob A M N) := h
  have HI : Hid _ := iList_any h
  have HMON : Hid (Mon A M N) := h.mon
  obtain ⟨L, hL⟩ : ∃ L, thL M.length (idE A.k.toNat N) = L := ⟨_, rfl⟩
  have HL : Hid (thL M.length (idE A.k.toNat N) = L) := hL
  obtain ⟨O, hO⟩ : ∃ O, ordsL A.k.toNat M.length N = O := ⟨_, rfl⟩
  have HO : Hid (ordsL A.k.toNat M.length N = O) := hO
  have hlen : O.length = L.length := by rw [← hO, ← hL]; unfold ordsL; rw [List.length_map]
  have HE : Hid (∀ k, k < L.length → L.getD k 0 < M.length ∧ pr A.k.toNat N (L.getD k 0) (L.getD k 0) = L.getD k 0 ∧ O.getD k 0 = (thL M.length (hcE A.k.toNat N (L.getD k 0))).length) := fun k hk => by
    have hm : L.getD k 0 ∈ thL M.length (idE A.k.toNat N) := by rw [hL, List.getD_eq_getElem?_getD, List.getElem?_eq_getElem hk]; exact List.getElem_mem hk
    have q := mem_thL.1 hm
    refine ⟨q.1, by have q2 := q.2; unfold idE at q2; exact of_decide_eq_true q2, ?_⟩
    rw [← hO]
    unfold ordsL
    rw [hL, List.getD_eq_getElem?_getD, List.getElem?_map, List.getElem?_eq_getElem hk, List.getD_eq_getElem?_getD, List.getElem?_eq_getElem hk]
    rfl
  have h5 : L.length ≤ 512 := by rw [← hL]; exact Nat.le_trans (thL_len _ _) h.mon.most
  have HLN : Hid (O.length = L.length ∧ L.length ≤ 512) := ⟨hlen, h5⟩
  unfold LsQ at HI
  rw [hL] at HI
  unfold OrQ
  rw [hO]
  obtain ⟨i0, hi0, hz0, hz1, hz2⟩ := info_parts Try.info_int
  have hmk := fun w0 => run_make (P := Try.prog) w0 22 3 i0 (.int .i64 0) Try.underlying22 hi0 hz0 .i64 .i64 (L.length : Int) (L.length : Int) (by omega) (by omega) (by rw [hz2]; omega) (by omega)
  rw [hz1] at hmk
  simp only [Nat.mul_one] at hmk
  clear hi0 hz0 hz1 hz2 h hL hO hlen
  rw [HLN.out.1]
  go_enter Try.func5, Try.ntmps5
  go_wp2_with fail
  refine Calls.mono HI.out ?_
  rintro en w1 ⟨v, rfl, ho, hb⟩
  obtain ⟨a, c, rfl⟩ := own_shape ho
  have HB1 : Hid (Below w.heap.size w w1) := hb
  have HSR : Hid (SR w1 a (nC L)) := own_sr ho
  obtain ⟨W, hW⟩ : ∃ W, W = w1.alloc (.cells (madeCells #[Value.int .i64 0] L.length) 3) := ⟨_, rfl⟩
  have HW : Hid (W = w1.alloc (.cells (madeCells #[Value.int .i64 0] L.length) 3)) := hW
  have HBW : Hid (Below w1.heap.size w1 W) := by show Below _ _ _; rw [hW]; exact below_new _ _
  have HP : Hid (PR W w1.heap.size (List.replicate L.length 0) []) := by
    show _ = _
    rw [hW, heap_last, made_nC, List.append_nil]
  clear hb ho hW HI
  go_wp2_with fail
  rw [← HW.out]
  clear hmk
  go_loopw [22] (fun vt wr => ∃ k : Nat, vt = .int .i64 (k : Nat) ∧ k ≤ L.length ∧ PR wr w1.heap.size (O.take k ++ List.replicate (O.length - k) 0) [] ∧ Below w1.heap.size w1 wr) (fun vt _ => L.length - (Go.RowKit.intOf vt).toNat)
  case atStart => exact ⟨0, rfl, Nat.zero_le _, by rw [List.take_zero, HLN.out.1]; exact HP.out, HBW.out⟩
  case round =>
    obtain ⟨k, rfl, hk, hp, hb⟩ := hrel
    have HPR : Hid (PR wr w1.heap.size (O.take k ++ List.replicate (O.length - k) 0) []) := hp
    have HC : Hid (Below w1.heap.size w1 wr) := hb
    obtain ⟨g, hg⟩ : ∃ g, w1.heap.size = g := ⟨_, rfl⟩
    have HG : Hid (w1.heap.size = g) := hg
    rw [hg] at HPR ⊢
    clear hp hb hg
    by_cases hlt : k < L.length
    · have hkI : (k : Int) < L.length := by omega
      have hkd : decide ((k : Int) < L.length) = true := decide_eq_true hkI
      have hk5 : k < 512 := by omega
      have HKL : Hid (k < L.length) := hlt
      obtain ⟨ga, oa, rfl, _, hc⟩ := (HSR.out.stay HC.out).nat hlt
      have he := HE.out k hlt
      obtain ⟨x, hx⟩ : ∃ x, L.getD k 0 = x := ⟨_, rfl⟩
      rw [hx] at hc he
      obtain ⟨l, hl⟩ : ∃ l, thL M.length (hcE A.k.toNat N x) = l := ⟨_, rfl⟩
      have HMA : Hid _ := membersAt_any (HM.out.below (go_on HB1.out HC.out)) x he.1 he.2.1
      unfold MmQ at HMA
      rw [hl] at HMA
      have HOK : Hid (O.getD k 0 = l.length) := by show _ = _; rw [he.2.2, hl]
      clear hlt hk he hx hl
      go_wp2_with (go_at_call 14; refine Calls.mono HMA.out ?_; rintro en y1 ⟨v, rfl, ho, hb⟩; obtain ⟨la, lc, rfl⟩ := own_shape ho; have HY : Hid (Below wr.heap.size wr y1) := hb; have HPY : Hid (PR y1 g (O.take k ++ List.replicate (O.length - k) 0) []) := HPR.out.below hb; have hcy := PR.cell HPY.out (i := k) (by rw [List.length_append, List.length_take, List.length_replicate]; have := HKL.out; have := HLN.out; omega); have hfy := PR.frz (o := k) HPY.out; clear hb ho)
      go_roundw
      case rel =>
        refine ⟨k + 1, by go_num, HKL.out, ?_, ?_⟩
        · rw [← fill_step O k (by have := HKL.out; have := HLN.out; omega), HOK.out]
          exact HPY.out.set _ (by rw [List.length_append, List.length_take, List.length_replicate]; have := HKL.out; have := HLN.out; omega)
        · have q := (go_on HC.out HY.out).setCell (p := ⟨g, k, none⟩) (by rw [HG.out]; exact Nat.le_refl _) (.int .i64 (l.length : Nat))
          rw [HG.out] at q
          exact q
      case measure => have := HKL.out; simp [Go.RowKit.intOf]; omega
    · have hkI : ¬ (k : Int) < L.length := by omega
      have hkd : decide ((k : Int) < L.length) = false := decide_eq_false hkI
      have HE2 : Hid (k = L.length) := by show _ = _; omega
      clear hlt hk
      go_wp2_with fail
      go_ret2
      refine ⟨g, rfl, ?_, go_on HB1.out HC.out⟩
      have := HPR.out
      rw [HE2.out, HLN.out.1, Nat.sub_self, List.replicate_zero, List.append_nil, List.take_of_length_le (by have := HLN.out; omega)] at this
      exact this
end Go.Proofs.Ytlohfeogaalfcab
