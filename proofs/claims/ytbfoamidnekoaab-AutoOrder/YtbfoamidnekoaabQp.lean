/- auto's products: checkTwo, product, Both, Either, But. -/
import Derived.Test.YtbfoamidnekoaabQo
import Derived.Test.YtbfoamidnekoaabJl
namespace Go.Proofs.Ytbfoamidnekoaab
open Go Go.RowKit Go.Lib Go.Maps
set_option linter.unusedVariables false
attribute [-instance] instBEqProd

noncomputable def twE (A B : Aut) : Int := if chkA A = 0 then (if chkA B = 0 then (if A.k = B.k then 0 else 20) else 80) else 80
set_option maxHeartbeats 4000000 in
set_option maxRecDepth 100000 in
theorem checkTwo_any (v1 v2 : Value) (A B : Aut) (w : World) (h1 : AR w v1 A) (h2 : AR w v2 B) (hm : A.nx.length ≤ 9223372036854775806) (hm2 : A.ac.length ≤ 9223372036854775806) (hm3 : B.nx.length ≤ 9223372036854775806) (hm4 : B.ac.length ≤ 9223372036854775806) :
    Calls Try.prog 46 #[v1, v2] w fun e w' => e = .returned (.int .i64 (twE A B)) ∧ Below w.heap.size w w' := by
  obtain ⟨an, cn, aa, ca, e1, _, _⟩ := h1.is
  obtain ⟨bn, dn, ba, da, e2, _, _⟩ := h2.is
  have HA : Hid (∀ y, Below w.heap.size w y → Calls Try.prog 33 #[v1] y fun e w' => e = .returned (.int .i64 (chkA A)) ∧ Below y.heap.size y w') := fun y hy => acheck_any v1 A y (h1.stay hy) hm hm2
  have HB : Hid (∀ y, Below w.heap.size w y → Calls Try.prog 33 #[v2] y fun e w' => e = .returned (.int .i64 (chkA B)) ∧ Below y.heap.size y w') := fun y hy => acheck_any v2 B y (h2.stay hy) hm3 hm4
  subst e1 e2
  clear h1 h2
  obtain ⟨W, hW⟩ : ∃ W, W = (w.alloc (.cells #[.int .i64 A.k, .slice an A.nx.length cn, .slice aa A.ac.length ca] 25)).alloc (.cells #[.int .i64 B.k, .slice bn B.nx.length dn, .slice ba B.ac.length da] 25) := ⟨_, rfl⟩
  have HWE : Hid (W = (w.alloc (.cells #[.int .i64 A.k, .slice an A.nx.length cn, .slice aa A.ac.length ca] 25)).alloc (.cells #[.int .i64 B.k, .slice bn B.nx.length dn, .slice ba B.ac.length da] 25)) := hW
  have HR1 : Hid (RowAt W w.heap.size #[.int .i64 A.k, .slice an A.nx.length cn, .slice aa A.ac.length ca]) := by
    show RowAt W w.heap.size _
    rw [hW]
    exact (RowAt.last _ _ _).alloc _
  have HR2 : Hid (RowAt W (w.heap.size + 1) #[.int .i64 B.k, .slice bn B.nx.length dn, .slice ba B.ac.length da]) := by
    show RowAt W (w.heap.size + 1) _
    rw [hW]
    have := RowAt.last (w.alloc (.cells #[.int .i64 A.k, .slice an A.nx.length cn, .slice aa A.ac.length ca] 25)) #[.int .i64 B.k, .slice bn B.nx.length dn, .slice ba B.ac.length da] 25
    simpa using this
  have HB2 : Hid (Below w.heap.size w W) := by
    show Below w.heap.size w W
    rw [hW]
    exact go_on (below_new _ _) (below_new _ _)
  clear hW
  go_enter Try.func46, Try.ntmps46
  go_wp2_with fail
  rw [← HWE.out]
  refine (HA.out _ HB2.out).mono ?_
  rintro e w1 ⟨rfl, hb1⟩
  have HY1 : Hid (Below w.heap.size w w1) := go_on HB2.out hb1
  rcases chkA_cases A with ⟨hG, hc⟩ | ⟨hG, hc⟩
  · rw [hc]
    have cs := (HR2.out.stay hb1).cell
    have HS1 : Hid (Below W.heap.size W w1) := hb1
    clear hb1
    go_wp2_with fail
    refine (HB.out _ HY1.out).mono ?_
    rintro e w2 ⟨rfl, hb2⟩
    have HY2 : Hid (Below w.heap.size w w2) := go_on HY1.out hb2
    rcases chkA_cases B with ⟨hG2, hc2⟩ | ⟨hG2, hc2⟩
    · rw [hc2]
      have ca1 := (HR1.out.stay (go_on HS1.out hb2)).cell
      have cb1 := (HR2.out.stay (go_on HS1.out hb2)).cell
      by_cases hk : A.k = B.k
      · have HE : Hid (twE A B = 0) := by show _ = _; unfold twE; rw [if_pos hc, if_pos hc2, if_pos hk]
        clear hc hc2 hG hG2 hb2 cs
        go_wp2_with fail
        go_ret
        exact ⟨by rw [HE.out]; rfl, HY2.out⟩
      · have HE : Hid (twE A B = 20) := by show _ = _; unfold twE; rw [if_pos hc, if_pos hc2, if_neg hk]
        clear hc hc2 hG hG2 hb2 cs
        go_wp2_with fail
        go_ret
        exact ⟨by rw [HE.out]; rfl, HY2.out⟩
    · rw [hc2]
      have HE : Hid (twE A B = 80) := by show _ = _; unfold twE; rw [if_pos hc, if_neg (by rw [hc2]; decide)]
      clear hc hc2 hG hG2 hb2 cs
      go_wp2_with fail
      go_ret
      exact ⟨by rw [HE.out]; rfl, HY2.out⟩
  · rw [hc]
    have HE : Hid (twE A B = 80) := by show _ = _; unfold twE; rw [if_neg (by rw [hc]; decide)]
    clear hc hG hb1
    go_wp2_with fail
    go_ret
    exact ⟨by rw [HE.out]; rfl, HY1.out⟩

theorem Try.info_psz : (Try.prog.info? 70).map (·.size) = some 2 := by kernel_rfl
theorem results_pair {fn : Func} {p : Tmp} (h : fn.results = #[.cell p 70]) {tmps : Array Value} {b : Nat} {arr : Array Value} {w : World} (hp : tmps.getD p undef = .pointer (some ⟨b, 0, none⟩)) (hc : w.heap[b]? = some (.cells arr 70 (0, 0))) (hs : arr.size = 2) :
    (results fn tmps).run Try.prog w = .ok (.agg arr) w :=
  results_cell_row h tmps w b 70 arr (0, 0) _ hp hc Try.underlying70 rfl (by rw [Try.info_psz, hs])
def dP (A B : Aut) (s : Nat × Nat) (c : Nat) : Nat × Nat := (dN A s.1 c, dN B s.2 c)
set_option maxHeartbeats 4000000 in
set_option maxRecDepth 100000 in
theorem product1_any (A B : Aut) (w : World) (b1 b2 : Nat) (an aa bn ba : Option Addr) (cn ca dn da : Nat)
    (h1 : AR w (.agg #[.int .i64 A.k, .slice an A.nx.length cn, .slice aa A.ac.length ca]) A) (h2 : AR w (.agg #[.int .i64 B.k, .slice bn B.nx.length dn, .slice ba B.ac.length da]) B)
    (R1 : RowAt w b1 #[.int .i64 A.k, .slice an A.nx.length cn, .slice aa A.ac.length ca]) (R2 : RowAt w b2 #[.int .i64 B.k, .slice bn B.nx.length dn, .slice ba B.ac.length da])
    (G1 : Good A) (G2 : Good B) (s : Nat × Nat) (c : Nat) (hs1 : s.1 < A.ac.length) (hs2 : s.2 < B.ac.length) (hc1 : (c : Int) < A.k) (hc2 : (c : Int) < B.k) :
    Calls Try.prog 47 #[prV s, .int .i64 c, .pointer (some ⟨b1, 0, none⟩), .pointer (some ⟨b2, 0, none⟩)] w fun e w' => e = .returned (prV (dP A B s c)) ∧ Below w.heap.size w w' := by
  obtain ⟨D1, hD1⟩ : ∃ D, dN A s.1 c = D := ⟨_, rfl⟩
  obtain ⟨D2, hD2⟩ : ∃ D, dN B s.2 c = D := ⟨_, rfl⟩
  have HD : Hid (dP A B s c = (D1, D2)) := by show _ = _; unfold dP; rw [hD1, hD2]
  have HA : Hid (∀ y, Below w.heap.size w y → Calls Try.prog 40 #[.agg #[.int .i64 A.k, .slice an A.nx.length cn, .slice aa A.ac.length ca], .int .i64 s.1, .int .i64 c] y fun e w' => e = .returned (.int .i64 D1) ∧ Below y.heap.size y w') := fun y hy => by rw [← hD1]; exact astep_any _ A y (h1.stay hy) G1 s.1 c hs1 hc1
  have HB : Hid (∀ y, Below w.heap.size w y → Calls Try.prog 40 #[.agg #[.int .i64 B.k, .slice bn B.nx.length dn, .slice ba B.ac.length da], .int .i64 s.2, .int .i64 c] y fun e w' => e = .returned (.int .i64 D2) ∧ Below y.heap.size y w') := fun y hy => by rw [← hD2]; exact astep_any _ B y (h2.stay hy) G2 s.2 c hs2 hc2
  have HR1 : Hid (RowAt w b1 #[.int .i64 A.k, .slice an A.nx.length cn, .slice aa A.ac.length ca]) := R1
  have HR2 : Hid (RowAt w b2 #[.int .i64 B.k, .slice bn B.nx.length dn, .slice ba B.ac.length da]) := R2
  obtain ⟨W, hW⟩ : ∃ W, W = (w.alloc (.cells #[.int .i64 (s.1 : Int), .int .i64 (s.2 : Int)] 70)).alloc (.cells #[.int .i64 0, .int .i64 0] 70) := ⟨_, rfl⟩
  have HWE : Hid (W = (w.alloc (.cells #[.int .i64 (s.1 : Int), .int .i64 (s.2 : Int)] 70)).alloc (.cells #[.int .i64 0, .int .i64 0] 70)) := hW
  have HBW : Hid (Below w.heap.size w W) := by show Below _ _ _; rw [hW]; exact go_on (below_new _ _) (below_new _ _)
  have HRP : Hid (RowAt W w.heap.size #[.int .i64 (s.1 : Int), .int .i64 (s.2 : Int)]) := by show RowAt _ _ _; rw [hW]; exact (RowAt.last _ _ _).alloc _
  have HRZ : Hid (W.heap[w.heap.size + 1]? = some (.cells #[.int .i64 0, .int .i64 0] 70 (0, 0))) := by
    show W.heap[w.heap.size + 1]? = _
    rw [hW]
    have := heap_alloc_last (w.alloc (.cells #[.int .i64 (s.1 : Int), .int .i64 (s.2 : Int)] 70)) (.cells #[.int .i64 0, .int .i64 0] 70)
    simpa using this
  have c1 : ∀ o, W.drew.cell? ⟨b1, o, none⟩ = (#[.int .i64 A.k, .slice an A.nx.length cn, .slice aa A.ac.length ca] : Array Value)[o]? := (R1.stay HBW.out).cell
  have c2 : ∀ o, W.drew.cell? ⟨b2, o, none⟩ = (#[.int .i64 B.k, .slice bn B.nx.length dn, .slice ba B.ac.length da] : Array Value)[o]? := (R2.stay HBW.out).cell
  have c3 : ∀ o, W.drew.cell? ⟨w.heap.size, o, none⟩ = (#[.int .i64 (s.1 : Int), .int .i64 (s.2 : Int)] : Array Value)[o]? := HRP.out.cell
  clear h1 h2 R1 R2 G1 G2 hs1 hs2 hc1 hc2 hD1 hD2 hW
  go_enter Try.func47, Try.ntmps47
  go_wp2_with fail
  rw [← HWE.out]
  go_region_law (first
    | (rw [if_pos (by rfl)]; go_wp2_with fail; refine (HA.out _ HBW.out.drew).mono ?_; rintro e y1 ⟨rfl, hy1⟩
       have HY1 : Hid (Below W.heap.size W y1) := go_on (Below.refl _ _).drew hy1
       have e2 : ∀ o, y1.cell? ⟨b2, o, none⟩ = (#[.int .i64 B.k, .slice bn B.nx.length dn, .slice ba B.ac.length da] : Array Value)[o]? := (HR2.out.stay (go_on HBW.out HY1.out)).cell
       have e3 : ∀ o, y1.cell? ⟨w.heap.size, o, none⟩ = (#[.int .i64 (s.1 : Int), .int .i64 (s.2 : Int)] : Array Value)[o]? := (HRP.out.stay HY1.out).cell
       clear hy1 HA)
    | (rw [if_pos (by rfl)]; go_wp2_with fail; refine (HB.out _ (go_on HBW.out HY1.out)).mono ?_; rintro e y2 ⟨rfl, hy2⟩
       have HY2 : Hid (Below W.heap.size W y2) := go_on HY1.out hy2
       have hz2 := (HY2.out.block _ (Array.getElem?_eq_some_iff.1 HRZ.out).1).trans HRZ.out
       have HZ2 : Hid (y2.heap[w.heap.size + 1]? = some (.cells #[.int .i64 0, .int .i64 0] 70 (0, 0))) := hz2
       have g0 : y2.cell? ⟨w.heap.size + 1, 0, none⟩ = some (.int .i64 0) := cell_of hz2
       have g1 : y2.cell? ⟨w.heap.size + 1, 1, none⟩ = some (.int .i64 0) := cell_of hz2
       have g2 : ∀ j, y2.frozen? ⟨w.heap.size + 1, j, none⟩ = false := fun j => froz_of hz2
       clear hy2 hz2))
  all_goals (
    go_wp2_with fail
    refine bodyPost_ret (results_pair rfl rfl (heap_set (heap_set HZ2.out)) rfl) rfl ⟨?_, ((go_on HBW.out HY2.out).setCell (p := ⟨w.heap.size + 1, 0, none⟩) (by simp) _).setCell (p := ⟨w.heap.size + 1, 1, none⟩) (by simp) _⟩
    rw [HD.out]
    rfl)
end Go.Proofs.Ytbfoamidnekoaab
