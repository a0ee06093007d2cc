/- The monoid in memory; monoid.Build of an automaton that is one, of at most 64 states. -/
import Derived.Test.YtflclnkaccbfcaaE16
import Derived.Test.YtflclnkaccbfcaaE17
namespace Go.Proofs.Ytflclnkaccbfcaa
open Go Go.RowKit Go.Lib Go.Maps
set_option linter.unusedVariables false
attribute [-instance] List.instBEq instBEqProd

/-- All that a monoid's block leads to. -/
structure MP (w : World) (ob : Nat) (A : Aut) (M : List (List Nat)) (N : List Nat) (base bt b mb gw ga R n a c d : Nat) (vl : Value) (D : DataW Unit) (an : Option Addr) (cn : Nat) (aa : Option Addr) (ca : Nat) (sf : Value) : Prop where
  box : w.heap[ob]? = some (.cells #[sf, .int .i64 A.k, .slice an A.nx.length cn, .slice aa A.ac.length ca, .pointer (some ⟨b, 0, none⟩), .slice (some ⟨gw, 0, none⟩) n n, .slice (some ⟨ga, 0, none⟩) n n, .int .i64 (A.k.toNat : Int), .slice (some ⟨R, 0, none⟩) a a, .int .i64 (A.k.toNat : Int), .slice (some ⟨R, a, none⟩) a a, .int .i64 (n : Int), .slice (some ⟨R, d, none⟩) c c] 35 (0, 0))
  nx : w.ownsRow base 3 1 (.slice an A.nx.length cn) A.nx.length (zC A.nx)
  ac : w.ownsRow base 4 1 (.slice aa A.ac.length ca) A.ac.length (bC A.ac)
  tb : TB bt w b mb A.ac.length vl M D
  wp : WP w gw A.k.toNat n N n
  bp : BP w ga A M n
  rt : RT w R n A.k.toNat N (fun _ _ => True) (fun _ _ => True)
  mon : Mon A M N
  num : M.length = n ∧ n * A.k.toNat = a ∧ n * n = c ∧ a + a = d
/-- A monoid that Build made lies in block ob. -/
def MO (w : World) (ob : Nat) (A : Aut) (M : List (List Nat)) (N : List Nat) : Prop := ∃ base bt b mb gw ga R n a c d vl D an cn aa ca, MP w ob A M N base bt b mb gw ga R n a c d vl D an cn aa ca (.pointer (some ⟨ob, 0, none⟩))
theorem MP.keep {w w' : World} {ob : Nat} {A : Aut} {M : List (List Nat)} {N : List Nat} {base bt b mb gw ga R n a c d : Nat} {vl : Value} {D : DataW Unit} {an : Option Addr} {cn : Nat} {aa : Option Addr} {ca : Nat} {sf : Value} (h : MP w ob A M N base bt b mb gw ga R n a c d vl D an cn aa ca sf) (hb : Below w.heap.size w w') : MP w' ob A M N base bt b mb gw ga R n a c d vl D an cn aa ca sf :=
  ⟨(hb.block _ (Array.getElem?_eq_some_iff.1 h.box).1).trans h.box, own_below h.nx hb, own_below h.ac hb, h.tb.below hb, h.wp.keep (hb.block _ h.wp.lt), h.bp.keep (hb.block _ h.bp.lt), h.rt.keep (hb.block _ h.rt.lt), h.mon, h.num⟩
theorem MO.below {w w' : World} {ob : Nat} {A : Aut} {M : List (List Nat)} {N : List Nat} (h : MO w ob A M N) (hb : Below w.heap.size w w') : MO w' ob A M N := by
  obtain ⟨base, bt, b, mb, gw, ga, R, n, a, c, d, vl, D, an, cn, aa, ca, h⟩ := h
  exact ⟨base, bt, b, mb, gw, ga, R, n, a, c, d, vl, D, an, cn, aa, ca, h.keep hb⟩
theorem Mon.nl {A : Aut} {M : List (List Nat)} {N : List Nat} (h : Mon A M N) {p : Nat} (hp : p < N.length) : N.getD p 0 < M.length := by
  rw [getD_of (List.getElem?_eq_getElem hp)]
  exact h.bi.small (List.getElem?_eq_getElem hp)
/-- What Build answers of an automaton of at most 64 states. -/
def BdQ (A : Aut) (w : World) (e : Ending) (w' : World) : Prop :=
  (mEl A = none ∧ e = .returned (.tuple #[.pointer none, .int .i64 140]) ∧ Below w.heap.size w w') ∨
  ∃ ob M N, e = .returned (.tuple #[.pointer (some ⟨ob, 0, none⟩), .int .i64 0]) ∧ mEl A = some (M, N) ∧ MO w' ob A M N ∧ Below w.heap.size w w'
set_option maxHeartbeats 4000000 in
set_option maxRecDepth 100000 in
theorem build_any (v : Value) (A : Aut) (w : World) (h : AR w v A) (G : Good A) (h64 : A.ac.length ≤ 64) :
    Calls Try.prog 33 #[v] w (BdQ A w) := by
  have hks := G.ks
  have hn1 := G.n1
  have hln := G.len
  have hxl : 1 ≤ A.nx.length ∧ A.nx.length ≤ 40000 := by
    have h1 : (1 : Int) * 1 ≤ (A.ac.length : Int) * A.k := Int.mul_le_mul (by omega) G.k1 (by omega) (by omega)
    have h2 : (A.ac.length : Int) * A.k ≤ 64 * 8 := Int.mul_le_mul (by omega) G.k8 (by have := G.k1; omega) (by omega)
    omega
  obtain ⟨an, cn, aa, ca, e, h1, h2⟩ := h.is
  have HA : Hid (∀ w', Below w.heap.size w w' → AR w' v A) := fun w' hb => h.stay hb
  clear h h1 h2 hln
  subst e
  have HGd : Hid (Good A) := G
  obtain ⟨w0, hw0⟩ : ∃ w0, w0 = w.alloc (.cells #[.int .i64 A.k, .slice an A.nx.length cn, .slice aa A.ac.length ca] 26) := ⟨_, rfl⟩
  have HB0 : Hid (Below w.heap.size w w0) := by show Below _ _ _; rw [hw0]; exact below_new _ _
  have HR0 : Hid (RowAt w0 w.heap.size #[.int .i64 A.k, .slice an A.nx.length cn, .slice aa A.ac.length ca]) := by show RowAt _ _ _; rw [hw0]; exact RowAt.last _ _ _
  have HW0 : Hid (w0 = w.alloc (.cells #[.int .i64 A.k, .slice an A.nx.length cn, .slice aa A.ac.length ca] 26)) := hw0
  clear hw0 G
  go_enter Try.func33, Try.ntmps33
  go_wp2_with fail
  rw [← HW0.out]
  refine (find_any _ A w0 (HA.out _ HB0.out) HGd.out h64).mono ?_
  rintro e w1 (⟨hno, rfl, hB1⟩ | ⟨base, fb, b, mb, vl, vw, vr, M, W, N, D, rfl, hE, hWY, hF, hlo, hB1⟩)
  · have HNO : Hid (mEl A = none) := hno
    have HB1 : Hid (Below w.heap.size w w1) := go_on HB0.out hB1
    clear hno hB1
    go_wp2_with fail
    go_ret2
    exact .inl ⟨HNO.out, rfl, HB1.out⟩
  · have HMon : Hid (Mon A M N) := mon_of HGd.out h64 hE
    have HE : Hid (mEl A = some (M, N)) := hE
    have HWY : Hid (WyO A.k.toNat M W N) := hWY
    have HF : Hid (FN base w1 fb b mb A.k.toNat A.ac.length vl vw vr M W N D) := hF
    have HB1 : Hid (Below w.heap.size w w1) := go_on HB0.out hB1
    have HR1 : Hid (RowAt w1 w.heap.size #[.int .i64 A.k, .slice an A.nx.length cn, .slice aa A.ac.length ca]) := HR0.out.stay hB1
    have S0 : ((∀ o, (w1.drew).cell? ⟨w.heap.size, o, none⟩ = (#[.int .i64 A.k, .slice an A.nx.length cn, .slice aa A.ac.length ca] : Array Value)[o]?) ∧ (w1.drew).cell? ⟨fb, 1, none⟩ = some (.pointer (some ⟨b, 0, none⟩))) := ⟨HR1.out.cell, cell_at HF.out.box rfl⟩
    have HSK : Hid (∀ y y' : World, ((∀ o, y.cell? ⟨w.heap.size, o, none⟩ = (#[.int .i64 A.k, .slice an A.nx.length cn, .slice aa A.ac.length ca] : Array Value)[o]?) ∧ y.cell? ⟨fb, 1, none⟩ = some (.pointer (some ⟨b, 0, none⟩))) → Below y.heap.size y y' → ((∀ o, y'.cell? ⟨w.heap.size, o, none⟩ = (#[.int .i64 A.k, .slice an A.nx.length cn, .slice aa A.ac.length ca] : Array Value)[o]?) ∧ y'.cell? ⟨fb, 1, none⟩ = some (.pointer (some ⟨b, 0, none⟩)))) := fun y y' hy hb => by
      have k1 : w.heap.size < y.heap.size := World.block_lt_of_cell? y ⟨w.heap.size, 0, none⟩ (hy.1 0)
      have k2 : fb < y.heap.size := World.block_lt_of_cell? y ⟨fb, 1, none⟩ hy.2
      exact ⟨fun o => by rw [below_cellJ hb k1]; exact hy.1 o, by rw [below_cellJ hb k2]; exact hy.2⟩
    clear hE hWY hF hB1 HR0 HW0
    go_wp2_with fail
    go_region_held3 (fun y => ((∀ o, y.cell? ⟨w.heap.size, o, none⟩ = (#[.int .i64 A.k, .slice an A.nx.length cn, .slice aa A.ac.length ca] : Array Value)[o]?) ∧ y.cell? ⟨fb, 1, none⟩ = some (.pointer (some ⟨b, 0, none⟩)))) (first | assumption | exact S0 | exact HSK.out _ _ (by assumption) (by assumption) | exact HSK.out _ _ (by assumption) (below_new _ _)) (first
      | (go_at_call 60; refine (fresh_any _ A _ (HA.out _ HB1.out.drew) hxl.1 hn1 hxl.2 (by omega)).mono ?_; rintro e y1 ⟨v1, rfl, ⟨an1, cn1, aa1, ca1, rfl, hx1, hc1⟩, hy1⟩; have K1 : Hid (Below w1.heap.size w1 y1) := go_on (Below.refl _ _).drew hy1; have HX1 : Hid (y1.ownsRow w1.drew.heap.size 3 1 (.slice an1 A.nx.length cn1) A.nx.length (zC A.nx)) := hx1; have HC1 : Hid (y1.ownsRow w1.drew.heap.size 4 1 (.slice aa1 A.ac.length ca1) A.ac.length (bC A.ac)) := hc1; have HY2 : Hid (∀ z, Below y1.heap.size y1 z → Below y1.heap.size y1 z) := fun _ q => q; clear hx1 hc1)
      | (go_at_call 61; refine (words_any (HF.out.below K1.out) HWY.out HMon.out.fst ⟨hks.1, hks.2.1⟩ HMon.out.pos).mono ?_; rintro e y2 ⟨g2, rfl, hy2, hg2, hw2⟩; have K2 : Hid (Below w1.heap.size w1 y2) := go_on K1.out hy2; have HW2 : Hid (WP y2 g2 A.k.toNat M.length N M.length) := hw2; clear hw2 hg2)
      | (go_at_call 62; refine (accepted_any (HF.out.below K2.out) HWY.out.len _ (HA.out _ (go_on HB1.out K2.out)) hn1).mono ?_; rintro e y3 ⟨g3, rfl, hy3, hg3, hb3⟩; have K3 : Hid (Below w1.heap.size w1 y3) := go_on K2.out hy3; have HP3 : Hid (BP y3 g3 A M M.length) := hb3; have HY3 : Hid (Below y2.heap.size y2 y3) := hy3; clear hb3 hg3)
      | (go_at_call 63; refine (lay_any (HF.out.below K3.out) HWY.out HMon.out.fst ⟨hks.1, hks.2.1⟩ HMon.out.pos HMon.out.len (fun a b ha hb => HMon.out.pr_lt ha hb) (fun p hp => HMon.out.nl hp)).mono ?_; rintro e y4 ⟨R, n, a, c, d, hn, ha, hc, hd, rfl, hy4, hR, hRT⟩; have K4 : Hid (Below w1.heap.size w1 y4) := go_on K3.out hy4; have HRT : Hid (RT y4 R n A.k.toNat N (fun _ _ => True) (fun _ _ => True)) := hRT; have HNM : Hid (M.length = n ∧ n * A.k.toNat = a ∧ n * n = c ∧ a + a = d) := ⟨hn, ha, hc, hd⟩; have HY4 : Hid (Below y3.heap.size y3 y4) := hy4; clear hRT hn ha hc hd hR))
    have HMP : Hid (MP (y4.alloc (.cells #[.pointer (some ⟨y4.heap.size, 0, none⟩), .int .i64 A.k, .slice an1 A.nx.length cn1, .slice aa1 A.ac.length ca1, .pointer (some ⟨b, 0, none⟩), .slice (some ⟨g2, 0, none⟩) M.length M.length, .slice (some ⟨g3, 0, none⟩) M.length M.length, .int .i64 A.k, .slice (some ⟨R, 0, none⟩) a a, .int .i64 A.k, .slice (some ⟨R, a, none⟩) a a, .int .i64 (n : Int), .slice (some ⟨R, d, none⟩) c c] 35)) y4.heap.size A M N w1.drew.heap.size base b mb g2 g3 R n a c d vl D an1 cn1 aa1 ca1 (.pointer (some ⟨y4.heap.size, 0, none⟩))) := by
      have hY14 : Below y1.heap.size y1 y4 := go_on (go_on hy2 HY3.out) HY4.out
      have hb : Below y4.heap.size y4 (y4.alloc (.cells #[.pointer (some ⟨y4.heap.size, 0, none⟩), .int .i64 A.k, .slice an1 A.nx.length cn1, .slice aa1 A.ac.length ca1, .pointer (some ⟨b, 0, none⟩), .slice (some ⟨g2, 0, none⟩) M.length M.length, .slice (some ⟨g3, 0, none⟩) M.length M.length, .int .i64 A.k, .slice (some ⟨R, 0, none⟩) a a, .int .i64 A.k, .slice (some ⟨R, a, none⟩) a a, .int .i64 (n : Int), .slice (some ⟨R, d, none⟩) c c] 35)) := below_new _ _
      have hnm := HNM.out
      refine ⟨?_, own_below (own_below HX1.out hY14) hb, own_below (own_below HC1.out hY14) hb, (HF.out.tb.below K4.out).below hb, ?_, ?_, HRT.out.keep (hb.block _ HRT.out.lt), HMon.out, hnm⟩
      · rw [hks.2.2]
        have q0 := heap_last y4 (.cells #[.pointer (some ⟨y4.heap.size, 0, none⟩), .int .i64 A.k, .slice an1 A.nx.length cn1, .slice aa1 A.ac.length ca1, .pointer (some ⟨b, 0, none⟩), .slice (some ⟨g2, 0, none⟩) M.length M.length, .slice (some ⟨g3, 0, none⟩) M.length M.length, .int .i64 A.k, .slice (some ⟨R, 0, none⟩) a a, .int .i64 A.k, .slice (some ⟨R, a, none⟩) a a, .int .i64 (n : Int), .slice (some ⟨R, d, none⟩) c c] 35)
        have e := hnm.1
        rw [q0]
        congr 3
        rw [e]
      · have h24 : Below y2.heap.size y2 y4 := go_on HY3.out HY4.out
        have q0 := HW2.out
        rw [hnm.1] at q0
        exact (q0.keep (h24.block g2 HW2.out.lt)).keep (hb.block g2 (by have := HW2.out.lt; have := h24.size; omega))
      · have q0 := HP3.out
        rw [hnm.1] at q0
        exact (q0.keep (HY4.out.block g3 HP3.out.lt)).keep (hb.block g3 (by have := HP3.out.lt; have := HY4.out.size; omega))
    have HBF : Hid (Below w.heap.size w (y4.alloc (.cells #[.pointer (some ⟨y4.heap.size, 0, none⟩), .int .i64 A.k, .slice an1 A.nx.length cn1, .slice aa1 A.ac.length ca1, .pointer (some ⟨b, 0, none⟩), .slice (some ⟨g2, 0, none⟩) M.length M.length, .slice (some ⟨g3, 0, none⟩) M.length M.length, .int .i64 A.k, .slice (some ⟨R, 0, none⟩) a a, .int .i64 A.k, .slice (some ⟨R, a, none⟩) a a, .int .i64 (n : Int), .slice (some ⟨R, d, none⟩) c c] 35))) := by
      have q := go_on HB1.out K4.out
      exact go_on q (below_new _ _)
    clear S0 hy1 hy2 hy3 hy4
    go_wp2_with fail
    go_ret2
    exact .inr ⟨y4.heap.size, M, N, rfl, HE.out, ⟨_, _, _, _, _, _, _, _, _, _, _, _, _, _, _, _, _, HMP.out⟩, HBF.out⟩
end Go.Proofs.Ytflclnkaccbfcaa
