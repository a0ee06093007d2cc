/- equal: check, Differ, Escape, Meet, Equal, Inside. -/
import Derived.Test.YtceoceecgekkjaaIi
import Derived.Test.YtceoceecgekkjaaJc
import Derived.OwnWalk
namespace Go.Proofs.Ytceoceecgekkjaa
open Go Go.RowKit Go.Lib Go.Maps
set_option linter.unusedVariables false
attribute [-instance] instBEqProd

/-- What check answers. -/
noncomputable def ckE (A B : Aut) : Int := if chkA A = 0 ∧ chkA B = 0 then (if A.k = B.k then 0 else 20) else 80
theorem ckE_cases (A B : Aut) : (Good A ∧ Good B ∧ A.k = B.k ∧ chkA A = 0 ∧ chkA B = 0 ∧ ckE A B = 0) ∨ (chkA A = 0 ∧ chkA B = 0 ∧ A.k ≠ B.k ∧ ckE A B = 20) ∨ (chkA A = 80 ∧ ckE A B = 80) ∨ (chkA A = 0 ∧ chkA B = 80 ∧ ckE A B = 80) := by
  unfold ckE
  rcases chkA_cases A with ⟨G, hc⟩ | ⟨G, hc⟩
  · rcases chkA_cases B with ⟨G', hc'⟩ | ⟨G', hc'⟩
    · by_cases q : A.k = B.k
      · exact .inl ⟨G, G', q, hc, hc', by rw [if_pos ⟨hc, hc'⟩, if_pos q]⟩
      · exact .inr (.inl ⟨hc, hc', q, by rw [if_pos ⟨hc, hc'⟩, if_neg q]⟩)
    · exact .inr (.inr (.inr ⟨hc, hc', by rw [if_neg (fun e => by rw [hc'] at e; exact absurd e.2 (by decide))]⟩))
  · exact .inr (.inr (.inl ⟨hc, by rw [if_neg (fun e => by rw [hc] at e; exact absurd e.1 (by decide))]⟩))
set_option maxHeartbeats 4000000 in
set_option maxRecDepth 100000 in
theorem echeck_any (va vb : Value) (A B : Aut) (w : World) (ha : AR w va A) (hb : AR w vb B) (hm : A.nx.length ≤ 9223372036854775806) (hm2 : A.ac.length ≤ 9223372036854775806) (hm3 : B.nx.length ≤ 9223372036854775806) (hm4 : B.ac.length ≤ 9223372036854775806) :
    Calls Try.prog 35 #[va, vb] w fun e w' => e = .returned (.int .i64 (ckE A B)) ∧ Below w.heap.size w w' := by
  obtain ⟨an, cn, aa, ca, e1, _, _⟩ := ha.is
  obtain ⟨bn, dn, ba, da, e2, _, _⟩ := hb.is
  have HA : Hid (∀ y, Below w.heap.size w y → Calls Try.prog 46 #[va] y fun e w' => e = .returned (.int .i64 (chkA A)) ∧ Below y.heap.size y w') := fun y hy => acheck_any va A y (ha.stay hy) hm hm2
  have HB : Hid (∀ y, Below w.heap.size w y → Calls Try.prog 46 #[vb] y fun e w' => e = .returned (.int .i64 (chkA B)) ∧ Below y.heap.size y w') := fun y hy => acheck_any vb B y (hb.stay hy) hm3 hm4
  subst e1
  subst e2
  obtain ⟨V, hV⟩ : ∃ V, V = (w.alloc (.cells #[.int .i64 A.k, .slice an A.nx.length cn, .slice aa A.ac.length ca] 25)).alloc (.cells #[.int .i64 B.k, .slice bn B.nx.length dn, .slice ba B.ac.length da] 25) := ⟨_, rfl⟩
  have HVE : Hid (V = (w.alloc (.cells #[.int .i64 A.k, .slice an A.nx.length cn, .slice aa A.ac.length ca] 25)).alloc (.cells #[.int .i64 B.k, .slice bn B.nx.length dn, .slice ba B.ac.length da] 25)) := hV
  have HBV : Hid (Below w.heap.size w V) := by show Below _ _ _; rw [hV]; exact go_on (below_new _ _) (below_new _ _)
  have HR1 : Hid (RowAt V w.heap.size #[.int .i64 A.k, .slice an A.nx.length cn, .slice aa A.ac.length ca]) := by show RowAt _ _ _; rw [hV]; exact (RowAt.last _ _ _).alloc _
  have HR2 : Hid (RowAt V (w.heap.size + 1) #[.int .i64 B.k, .slice bn B.nx.length dn, .slice ba B.ac.length da]) := by
    have := RowAt.last (w.alloc (.cells #[.int .i64 A.k, .slice an A.nx.length cn, .slice aa A.ac.length ca] 25)) #[.int .i64 B.k, .slice bn B.nx.length dn, .slice ba B.ac.length da] 25
    rw [World.size_alloc] at this
    show RowAt _ _ _; rw [hV]; exact this
  clear ha hb hV
  go_enter Try.func35, Try.ntmps35
  go_wp2_with fail
  rw [← HVE.out]
  refine (HA.out V HBV.out).mono ?_
  rintro e w1 ⟨rfl, hb1⟩
  have HB1 : Hid (Below w.heap.size w w1) := go_on HBV.out hb1
  have HR3 : Hid (RowAt w1 w.heap.size #[.int .i64 A.k, .slice an A.nx.length cn, .slice aa A.ac.length ca]) := HR1.out.stay hb1
  have HR4 : Hid (RowAt w1 (w.heap.size + 1) #[.int .i64 B.k, .slice bn B.nx.length dn, .slice ba B.ac.length da]) := HR2.out.stay hb1
  have cs := HR4.out.cell
  clear hb1
  rcases ckE_cases A B with ⟨_, _, hk, h1, h2, h3⟩ | ⟨h1, h2, hk, h3⟩ | ⟨h1, h3⟩ | ⟨h1, h2, h3⟩
  · have HE : Hid (ckE A B = _) := h3
    rw [h1]
    clear h1 h3
    rw [h2] at HB
    go_wp2_with fail
    refine (HB.out w1 HB1.out).mono ?_
    rintro e w2 ⟨rfl, hb2⟩
    have HB2 : Hid (Below w.heap.size w w2) := go_on HB1.out hb2
    have c1 := (HR3.out.stay hb2).cell
    have c2 := (HR4.out.stay hb2).cell
    clear hb2 cs
    go_wp2_with fail
    go_ret
    exact ⟨by rw [HE.out]; rfl, HB2.out⟩
  · have HE : Hid (ckE A B = _) := h3
    rw [h1]
    clear h1 h3
    rw [h2] at HB
    go_wp2_with fail
    refine (HB.out w1 HB1.out).mono ?_
    rintro e w2 ⟨rfl, hb2⟩
    have HB2 : Hid (Below w.heap.size w w2) := go_on HB1.out hb2
    have c1 := (HR3.out.stay hb2).cell
    have c2 := (HR4.out.stay hb2).cell
    have hd : decide (A.k = B.k) = false := decide_eq_false hk
    have hbn : (A.k != B.k) = true := by simpa using hk
    clear hb2 cs
    go_wp2_with fail
    go_ret
    exact ⟨by rw [HE.out]; rfl, HB2.out⟩
  · have HE : Hid (ckE A B = _) := h3
    rw [h1]
    clear h1 h3
    go_wp2_with fail
    go_ret
    exact ⟨by rw [HE.out]; rfl, HB1.out⟩
  · have HE : Hid (ckE A B = _) := h3
    rw [h1]
    clear h1 h3
    rw [h2] at HB
    go_wp2_with fail
    refine (HB.out w1 HB1.out).mono ?_
    rintro e w2 ⟨rfl, hb2⟩
    have HB2 : Hid (Below w.heap.size w w2) := go_on HB1.out hb2
    clear hb2 cs
    go_wp2_with fail
    go_ret
    exact ⟨by rw [HE.out]; rfl, HB2.out⟩

/-- Of the first alone; of both. -/
def se (A B : Aut) (p : Nat × Nat) : Bool := aN A p.1 && !aN B p.2
def sm (A B : Aut) (p : Nat × Nat) : Bool := aN A p.1 && aN B p.2
theorem differ1_any (p q : Bool) (w : World) : Calls Try.prog 38 #[.bool p, .bool q] w fun e w' => e = .returned (.bool (p != q)) ∧ w' = w := by
  cases p <;> cases q <;> (go_enter Try.func38, Try.ntmps38; go_wp2_with fail; go_ret; exact ⟨rfl, rfl⟩)
theorem escape1_any (p q : Bool) (w : World) : Calls Try.prog 40 #[.bool p, .bool q] w fun e w' => e = .returned (.bool (p && !q)) ∧ w' = w := by
  cases p <;> cases q <;> (go_enter Try.func40, Try.ntmps40; go_wp2_with fail; go_ret; exact ⟨rfl, rfl⟩)
theorem meet1_any (p q : Bool) (w : World) : Calls Try.prog 41 #[.bool p, .bool q] w fun e w' => e = .returned (.bool (p && q)) ∧ w' = w := by
  cases p <;> cases q <;> (go_enter Try.func41, Try.ntmps41; go_wp2_with fail; go_ret; exact ⟨rfl, rfl⟩)
/-- What Differ, Escape and Meet answer, by what shows it. -/
noncomputable def eqO (A B : Aut) (sh : Nat × Nat → Bool) : Option (List Nat) := if ckE A B = 0 then lsh (dd A B) A.k.toNat sh (0, 0) else none
def EqQ (A B : Aut) (sh : Nat × Nat → Bool) (N : Nat) (w : World) (e : Ending) (w' : World) : Prop := e = .returned (.tuple #[.string (apS (eqO A B sh)), .bool (apF (eqO A B sh)), .int .i64 (ckE A B)]) ∧ (∀ u, eqO A B sh = some u → u.length + 1 < N) ∧ Below w.heap.size w w'

set_option maxHeartbeats 4000000 in
set_option maxRecDepth 100000 in
theorem edf_any (va vb : Value) (A B : Aut) (w : World) (ha : AR w va A) (hb : AR w vb B) (hm : A.nx.length ≤ 9223372036854775806) (hm2 : A.ac.length ≤ 9223372036854775806) (hm3 : B.nx.length ≤ 9223372036854775806) (hm4 : B.ac.length ≤ 9223372036854775806) :
    Calls Try.prog 17 #[va, vb] w (EqQ A B (sx A B) (A.ac.length + B.ac.length) w) := by
  have HARa : Hid (∀ y, Below w.heap.size w y → AR y va A) := fun y hy => ha.stay hy
  have HARb : Hid (∀ y, Below w.heap.size w y → AR y vb B) := fun y hy => hb.stay hy
  have HCK : Hid (∀ y, Below w.heap.size w y → Calls Try.prog 35 #[va, vb] y fun e w' => e = .returned (.int .i64 (ckE A B)) ∧ Below y.heap.size y w') := fun y hy => echeck_any va vb A B y (ha.stay hy) (hb.stay hy) hm hm2 hm3 hm4
  obtain ⟨an, cn, aa, ca, e1, _, _⟩ := ha.is
  obtain ⟨bn, dn, ba, da, e2, _, _⟩ := hb.is
  obtain ⟨V, hV⟩ : ∃ V, V = (w.alloc (.cells #[.int .i64 A.k, .slice an A.nx.length cn, .slice aa A.ac.length ca] 25)).alloc (.cells #[.int .i64 B.k, .slice bn B.nx.length dn, .slice ba B.ac.length da] 25) := ⟨_, rfl⟩
  have HVE : Hid (V = (w.alloc (.cells #[.int .i64 A.k, .slice an A.nx.length cn, .slice aa A.ac.length ca] 25)).alloc (.cells #[.int .i64 B.k, .slice bn B.nx.length dn, .slice ba B.ac.length da] 25)) := hV
  have HBV : Hid (Below w.heap.size w V) := by show Below _ _ _; rw [hV]; exact go_on (below_new _ _) (below_new _ _)
  have HR1 : Hid (RowAt V w.heap.size #[.int .i64 A.k, .slice an A.nx.length cn, .slice aa A.ac.length ca]) := by show RowAt _ _ _; rw [hV]; exact (RowAt.last _ _ _).alloc _
  have HR2 : Hid (RowAt V (w.heap.size + 1) #[.int .i64 B.k, .slice bn B.nx.length dn, .slice ba B.ac.length da]) := by
    have := RowAt.last (w.alloc (.cells #[.int .i64 A.k, .slice an A.nx.length cn, .slice aa A.ac.length ca] 25)) #[.int .i64 B.k, .slice bn B.nx.length dn, .slice ba B.ac.length da] 25
    rw [World.size_alloc] at this
    show RowAt _ _ _; rw [hV]; exact this
  have HVS : Hid (V.heap.size = w.heap.size + 2) := by show _ = _; rw [hV]; simp
  subst e1
  subst e2
  clear ha hb hV
  go_enter Try.func17, Try.ntmps17
  go_wp2_with fail
  rw [← HVE.out]
  refine (HCK.out V HBV.out).mono ?_
  rintro e w1 ⟨rfl, hb1⟩
  have HB1 : Hid (Below w.heap.size w w1) := go_on HBV.out hb1
  have cs1 := (HR1.out.stay hb1).cell
  have cs2 := (HR2.out.stay hb1).cell
  have HS1 : Hid ((∀ o, w1.cell? ⟨w.heap.size, o, none⟩ = (#[.int .i64 A.k, .slice an A.nx.length cn, .slice aa A.ac.length ca] : Array Value)[o]?) ∧ (∀ o, w1.cell? ⟨w.heap.size + 1, o, none⟩ = (#[.int .i64 B.k, .slice bn B.nx.length dn, .slice ba B.ac.length da] : Array Value)[o]?)) := ⟨cs1, cs2⟩
  have hl0 : w.heap.size + 2 ≤ w1.heap.size := by have := hb1.size; have := HVS.out; omega
  have hl1 : w.heap.size < w1.heap.size := by omega
  have hl2 : w.heap.size + 1 < w1.heap.size := by omega
  clear hb1 HCK hl0
  have hcs : (Good A ∧ Good B ∧ A.k = B.k ∧ ckE A B = 0) ∨ (ckE A B = 20 ∨ ckE A B = 80) := by
    rcases ckE_cases A B with ⟨g1, g2, hk, _, _, h3⟩ | ⟨_, _, _, h3⟩ | ⟨_, h3⟩ | ⟨_, _, h3⟩
    · exact .inl ⟨g1, g2, hk, h3⟩
    · exact .inr (.inl h3)
    · exact .inr (.inr h3)
    · exact .inr (.inr h3)
  rcases hcs with ⟨g1, g2, hk, h3⟩ | h3
  · have HE : Hid (ckE A B = 0) := h3
    have HG : Hid (Good A ∧ Good B ∧ A.k = B.k) := ⟨g1, g2, hk⟩
    have hn1 := g1.n1
    have hn2 := g1.n2
    have hm2' := g2.n2
    rw [h3]
    clear g1 g2 hk h3
    go_wp2_with fail
    have HBW : Hid (Below w1.heap.size w1 w1.drew) := (Below.refl _ _).drew
    have HPT : Hid (Calls Try.prog 37 #[(.agg #[.int .i64 A.k, .slice an A.nx.length cn, .slice aa A.ac.length ca]), (.agg #[.int .i64 B.k, .slice bn B.nx.length dn, .slice ba B.ac.length da])] w1.drew fun e y1 => ∃ fv, e = .returned fv ∧ Calls Try.prog 36 #[(.agg #[.int .i64 A.k, .slice an A.nx.length cn, .slice aa A.ac.length ca]), (.agg #[.int .i64 B.k, .slice bn B.nx.length dn, .slice ba B.ac.length da]), fv, .func (.func 38) #[] #[]] y1 (fun e w' => e = .returned (.tuple #[.string (apS (lsh (dd A B) A.k.toNat (sx A B) (0, 0))), .bool (apF (lsh (dd A B) A.k.toNat (sx A B) (0, 0)))]) ∧ (∀ u, lsh (dd A B) A.k.toNat (sx A B) (0, 0) = some u → u.length + 1 < (A.ac.length + B.ac.length)) ∧ Below w1.heap.size w1 w') ∧ Below w1.drew.heap.size w1.drew y1) := by
      refine (parted_any _ _ A B w1.drew (HARa.out _ (go_on HB1.out HBW.out)) (HARb.out _ (go_on HB1.out HBW.out)) hn2 hm2').mono ?_
      rintro e w2 ⟨ab, g, tb, jb, xb, O, k, an', sa, sc, rfl, hF, hO, hb2⟩
      refine ⟨_, rfl, ?_, hb2⟩
      have hbb : Below w1.heap.size w1 w2 := go_on HBW.out hb2
      refine Calls.mono (least_any (fun P O w => FP ab g tb jb xb (A.ac.length + B.ac.length) A.ac.length #[k, an', .slice sa A.ac.length sc] P O w) (dP A.ac.length) 57 38 _ _ (fun p q => p != q) A B (FP.frs ab g tb jb xb A.ac.length B.ac.length hn2 hm2' k an' sa sc) w2 w1.heap.size hb2.size O hF hO _ _ (fun z hz => HARa.out z (HB1.out.trans ((hbb.trans hz).mono HB1.out.size))) (fun z hz => HARb.out z (HB1.out.trans ((hbb.trans hz).mono HB1.out.size))) HG.out.1 HG.out.2.1 HG.out.2.2.symm (fun _ _ => rfl) (fun _ _ => rfl) differ1_any (sx A B) (fun _ _ => rfl) (fun P p h1 h2 h3 h4 => parted_cov P p h1 h2 h3 h4) (fun P h => by have := parted_len P h hn1; omega)) ?_
      rintro e w3 ⟨rfl, hu3, hb3⟩
      refine ⟨rfl, fun u hu => ?_, hbb.trans hb3⟩
      obtain ⟨P, hP, hl⟩ := hu3 u hu
      have := parted_len P hP hn1
      omega
    have KK : Hid (∀ y, Below w1.heap.size w1 y → (∀ o, y.cell? ⟨w.heap.size, o, none⟩ = (#[.int .i64 A.k, .slice an A.nx.length cn, .slice aa A.ac.length ca] : Array Value)[o]?) ∧ (∀ o, y.cell? ⟨w.heap.size + 1, o, none⟩ = (#[.int .i64 B.k, .slice bn B.nx.length dn, .slice ba B.ac.length da] : Array Value)[o]?) ∧ Below w1.heap.size w1 y) := fun y hy => ⟨fun o => (below_cell hy hl1).trans (HS1.out.1 o), fun o => (below_cell hy hl2).trans (HS1.out.2 o), hy⟩
    have S0 : (∀ o, w1.drew.cell? ⟨w.heap.size, o, none⟩ = (#[.int .i64 A.k, .slice an A.nx.length cn, .slice aa A.ac.length ca] : Array Value)[o]?) ∧ (∀ o, w1.drew.cell? ⟨w.heap.size + 1, o, none⟩ = (#[.int .i64 B.k, .slice bn B.nx.length dn, .slice ba B.ac.length da] : Array Value)[o]?) ∧ Below w1.heap.size w1 w1.drew := KK.out w1.drew HBW.out
    clear cs1 cs2
    go_region_held3 (fun y => (∀ o, y.cell? ⟨w.heap.size, o, none⟩ = (#[.int .i64 A.k, .slice an A.nx.length cn, .slice aa A.ac.length ca] : Array Value)[o]?) ∧ (∀ o, y.cell? ⟨w.heap.size + 1, o, none⟩ = (#[.int .i64 B.k, .slice bn B.nx.length dn, .slice ba B.ac.length da] : Array Value)[o]?) ∧ Below w1.heap.size w1 y) (first | exact S0 | assumption | exact KK.out _ (by assumption) | exact KK.out _ (go_on HBW.out (by assumption))) (first
      | (go_at_call 36; refine HLS.out.mono ?_; rintro e y3 ⟨rfl, hu3, hb3⟩; have HU3 : Hid (∀ u, lsh (dd A B) A.k.toNat (sx A B) (0, 0) = some u → u.length + 1 < (A.ac.length + B.ac.length)) := hu3; have HB3 : Hid (Below w.heap.size w y3) := (HB1.out.trans (hb3.mono HB1.out.size)); clear hu3)
      | (go_at_call 37; refine HPT.out.mono ?_; rintro e y1 ⟨fv, rfl, hls, hy1⟩; have HLS : Hid (Calls Try.prog 36 #[(.agg #[.int .i64 A.k, .slice an A.nx.length cn, .slice aa A.ac.length ca]), (.agg #[.int .i64 B.k, .slice bn B.nx.length dn, .slice ba B.ac.length da]), fv, .func (.func 38) #[] #[]] y1 (fun e w' => e = .returned (.tuple #[.string (apS (lsh (dd A B) A.k.toNat (sx A B) (0, 0))), .bool (apF (lsh (dd A B) A.k.toNat (sx A B) (0, 0)))]) ∧ (∀ u, lsh (dd A B) A.k.toNat (sx A B) (0, 0) = some u → u.length + 1 < (A.ac.length + B.ac.length)) ∧ Below w1.heap.size w1 w')) := hls; clear hls))
    all_goals (
      clear S0
      go_wp2_with fail
      go_ret3
      have hO : eqO A B (sx A B) = lsh (dd A B) A.k.toNat (sx A B) (0, 0) := by unfold eqO; rw [if_pos HE.out]
      refine ⟨by rw [hO, HE.out]; rfl, fun u hu => ?_, HB3.out⟩
      rw [hO] at hu
      exact HU3.out u hu)
  · have HE : Hid (ckE A B = 20 ∨ ckE A B = 80) := h3
    have HO : Hid (eqO A B (sx A B) = none) := by
      show _ = _
      unfold eqO
      rw [if_neg (by rcases h3 with q | q <;> rw [q] <;> decide)]
    obtain ⟨c, hc⟩ : ∃ c, ckE A B = c := ⟨_, rfl⟩
    rw [hc]
    have HC : Hid (ckE A B = c) := hc
    rw [hc] at h3
    have hc0 : ¬ c = 0 := by omega
    have hd : decide (c = 0) = false := decide_eq_false hc0
    have hbn : (c != 0) = true := by simpa using hc0
    clear h3 hc HE
    go_wp2_with fail
    go_ret3
    exact ⟨by rw [HO.out, HC.out]; rfl, fun u hu => (by rw [HO.out] at hu; cases hu), HB1.out⟩

set_option maxHeartbeats 4000000 in
set_option maxRecDepth 100000 in
theorem ees_any (va vb : Value) (A B : Aut) (w : World) (ha : AR w va A) (hb : AR w vb B) (hm : A.nx.length ≤ 9223372036854775806) (hm2 : A.ac.length ≤ 9223372036854775806) (hm3 : B.nx.length ≤ 9223372036854775806) (hm4 : B.ac.length ≤ 9223372036854775806) :
    Calls Try.prog 19 #[va, vb] w (EqQ A B (se A B) (A.ac.length * B.ac.length + 1) w) := by
  have HARa : Hid (∀ y, Below w.heap.size w y → AR y va A) := fun y hy => ha.stay hy
  have HARb : Hid (∀ y, Below w.heap.size w y → AR y vb B) := fun y hy => hb.stay hy
  have HCK : Hid (∀ y, Below w.heap.size w y → Calls Try.prog 35 #[va, vb] y fun e w' => e = .returned (.int .i64 (ckE A B)) ∧ Below y.heap.size y w') := fun y hy => echeck_any va vb A B y (ha.stay hy) (hb.stay hy) hm hm2 hm3 hm4
  obtain ⟨an, cn, aa, ca, e1, _, _⟩ := ha.is
  obtain ⟨bn, dn, ba, da, e2, _, _⟩ := hb.is
  obtain ⟨V, hV⟩ : ∃ V, V = (w.alloc (.cells #[.int .i64 A.k, .slice an A.nx.length cn, .slice aa A.ac.length ca] 25)).alloc (.cells #[.int .i64 B.k, .slice bn B.nx.length dn, .slice ba B.ac.length da] 25) := ⟨_, rfl⟩
  have HVE : Hid (V = (w.alloc (.cells #[.int .i64 A.k, .slice an A.nx.length cn, .slice aa A.ac.length ca] 25)).alloc (.cells #[.int .i64 B.k, .slice bn B.nx.length dn, .slice ba B.ac.length da] 25)) := hV
  have HBV : Hid (Below w.heap.size w V) := by show Below _ _ _; rw [hV]; exact go_on (below_new _ _) (below_new _ _)
  have HR1 : Hid (RowAt V w.heap.size #[.int .i64 A.k, .slice an A.nx.length cn, .slice aa A.ac.length ca]) := by show RowAt _ _ _; rw [hV]; exact (RowAt.last _ _ _).alloc _
  have HR2 : Hid (RowAt V (w.heap.size + 1) #[.int .i64 B.k, .slice bn B.nx.length dn, .slice ba B.ac.length da]) := by
    have := RowAt.last (w.alloc (.cells #[.int .i64 A.k, .slice an A.nx.length cn, .slice aa A.ac.length ca] 25)) #[.int .i64 B.k, .slice bn B.nx.length dn, .slice ba B.ac.length da] 25
    rw [World.size_alloc] at this
    show RowAt _ _ _; rw [hV]; exact this
  have HVS : Hid (V.heap.size = w.heap.size + 2) := by show _ = _; rw [hV]; simp
  subst e1
  subst e2
  clear ha hb hV
  go_enter Try.func19, Try.ntmps19
  go_wp2_with fail
  rw [← HVE.out]
  refine (HCK.out V HBV.out).mono ?_
  rintro e w1 ⟨rfl, hb1⟩
  have HB1 : Hid (Below w.heap.size w w1) := go_on HBV.out hb1
  have cs1 := (HR1.out.stay hb1).cell
  have cs2 := (HR2.out.stay hb1).cell
  have HS1 : Hid ((∀ o, w1.cell? ⟨w.heap.size, o, none⟩ = (#[.int .i64 A.k, .slice an A.nx.length cn, .slice aa A.ac.length ca] : Array Value)[o]?) ∧ (∀ o, w1.cell? ⟨w.heap.size + 1, o, none⟩ = (#[.int .i64 B.k, .slice bn B.nx.length dn, .slice ba B.ac.length da] : Array Value)[o]?)) := ⟨cs1, cs2⟩
  have hl0 : w.heap.size + 2 ≤ w1.heap.size := by have := hb1.size; have := HVS.out; omega
  have hl1 : w.heap.size < w1.heap.size := by omega
  have hl2 : w.heap.size + 1 < w1.heap.size := by omega
  clear hb1 HCK hl0
  have hcs : (Good A ∧ Good B ∧ A.k = B.k ∧ ckE A B = 0) ∨ (ckE A B = 20 ∨ ckE A B = 80) := by
    rcases ckE_cases A B with ⟨g1, g2, hk, _, _, h3⟩ | ⟨_, _, _, h3⟩ | ⟨_, h3⟩ | ⟨_, _, h3⟩
    · exact .inl ⟨g1, g2, hk, h3⟩
    · exact .inr (.inl h3)
    · exact .inr (.inr h3)
    · exact .inr (.inr h3)
  rcases hcs with ⟨g1, g2, hk, h3⟩ | h3
  · have HE : Hid (ckE A B = 0) := h3
    have HG : Hid (Good A ∧ Good B ∧ A.k = B.k) := ⟨g1, g2, hk⟩
    have hn1 := g1.n1
    have hn2 := g1.n2
    have hm2' := g2.n2
    rw [h3]
    clear g1 g2 hk h3
    go_wp2_with fail
    have HBW : Hid (Below w1.heap.size w1 w1.drew) := (Below.refl _ _).drew
    have HPT : Hid (Calls Try.prog 39 #[] w1.drew fun e y1 => ∃ fv, e = .returned fv ∧ Calls Try.prog 36 #[(.agg #[.int .i64 A.k, .slice an A.nx.length cn, .slice aa A.ac.length ca]), (.agg #[.int .i64 B.k, .slice bn B.nx.length dn, .slice ba B.ac.length da]), fv, .func (.func 40) #[] #[]] y1 (fun e w' => e = .returned (.tuple #[.string (apS (lsh (dd A B) A.k.toNat (se A B) (0, 0))), .bool (apF (lsh (dd A B) A.k.toNat (se A B) (0, 0)))]) ∧ (∀ u, lsh (dd A B) A.k.toNat (se A B) (0, 0) = some u → u.length + 1 < (A.ac.length * B.ac.length + 1)) ∧ Below w1.heap.size w1 w') ∧ Below w1.drew.heap.size w1.drew y1) := by
      refine (unmet_any w1.drew).mono ?_
      rintro e w2 ⟨mb, mo, tb, O, rfl, hF, hO, hb2⟩
      refine ⟨_, rfl, ?_, hb2⟩
      have hbb : Below w1.heap.size w1 w2 := go_on HBW.out hb2
      refine Calls.mono (least_any (fun P O w => FU mb mo tb P O w) dU 58 40 _ _ (fun p q => p && !q) A B (FU.frs mb mo tb A.ac.length B.ac.length hn2 hm2') w2 w1.heap.size hb2.size O hF hO _ _ (fun z hz => HARa.out z (HB1.out.trans ((hbb.trans hz).mono HB1.out.size))) (fun z hz => HARb.out z (HB1.out.trans ((hbb.trans hz).mono HB1.out.size))) HG.out.1 HG.out.2.1 HG.out.2.2.symm (fun _ _ => rfl) (fun _ _ => rfl) escape1_any (se A B) (fun _ _ => rfl) (fun P p h1 h2 h3 h4 => unmet_cov P p h1 h2 h3 h4) (fun P h => by have := unmet_len P h; have := Nat.mul_le_mul hn2 hm2'; omega)) ?_
      rintro e w3 ⟨rfl, hu3, hb3⟩
      refine ⟨rfl, fun u hu => ?_, hbb.trans hb3⟩
      obtain ⟨P, hP, hl⟩ := hu3 u hu
      have := unmet_len P hP
      omega
    have KK : Hid (∀ y, Below w1.heap.size w1 y → (∀ o, y.cell? ⟨w.heap.size, o, none⟩ = (#[.int .i64 A.k, .slice an A.nx.length cn, .slice aa A.ac.length ca] : Array Value)[o]?) ∧ (∀ o, y.cell? ⟨w.heap.size + 1, o, none⟩ = (#[.int .i64 B.k, .slice bn B.nx.length dn, .slice ba B.ac.length da] : Array Value)[o]?) ∧ Below w1.heap.size w1 y) := fun y hy => ⟨fun o => (below_cell hy hl1).trans (HS1.out.1 o), fun o => (below_cell hy hl2).trans (HS1.out.2 o), hy⟩
    have S0 : (∀ o, w1.drew.cell? ⟨w.heap.size, o, none⟩ = (#[.int .i64 A.k, .slice an A.nx.length cn, .slice aa A.ac.length ca] : Array Value)[o]?) ∧ (∀ o, w1.drew.cell? ⟨w.heap.size + 1, o, none⟩ = (#[.int .i64 B.k, .slice bn B.nx.length dn, .slice ba B.ac.length da] : Array Value)[o]?) ∧ Below w1.heap.size w1 w1.drew := KK.out w1.drew HBW.out
    clear cs1 cs2
    go_region_held3 (fun y => (∀ o, y.cell? ⟨w.heap.size, o, none⟩ = (#[.int .i64 A.k, .slice an A.nx.length cn, .slice aa A.ac.length ca] : Array Value)[o]?) ∧ (∀ o, y.cell? ⟨w.heap.size + 1, o, none⟩ = (#[.int .i64 B.k, .slice bn B.nx.length dn, .slice ba B.ac.length da] : Array Value)[o]?) ∧ Below w1.heap.size w1 y) (first | exact S0 | assumption | exact KK.out _ (by assumption) | exact KK.out _ (go_on HBW.out (by assumption))) (first
      | (go_at_call 36; refine HLS.out.mono ?_; rintro e y3 ⟨rfl, hu3, hb3⟩; have HU3 : Hid (∀ u, lsh (dd A B) A.k.toNat (se A B) (0, 0) = some u → u.length + 1 < (A.ac.length * B.ac.length + 1)) := hu3; have HB3 : Hid (Below w.heap.size w y3) := (HB1.out.trans (hb3.mono HB1.out.size)); clear hu3)
      | (go_at_call 39; refine HPT.out.mono ?_; rintro e y1 ⟨fv, rfl, hls, hy1⟩; have HLS : Hid (Calls Try.prog 36 #[(.agg #[.int .i64 A.k, .slice an A.nx.length cn, .slice aa A.ac.length ca]), (.agg #[.int .i64 B.k, .slice bn B.nx.length dn, .slice ba B.ac.length da]), fv, .func (.func 40) #[] #[]] y1 (fun e w' => e = .returned (.tuple #[.string (apS (lsh (dd A B) A.k.toNat (se A B) (0, 0))), .bool (apF (lsh (dd A B) A.k.toNat (se A B) (0, 0)))]) ∧ (∀ u, lsh (dd A B) A.k.toNat (se A B) (0, 0) = some u → u.length + 1 < (A.ac.length * B.ac.length + 1)) ∧ Below w1.heap.size w1 w')) := hls; clear hls))
    all_goals (
      clear S0
      go_wp2_with fail
      go_ret3
      have hO : eqO A B (se A B) = lsh (dd A B) A.k.toNat (se A B) (0, 0) := by unfold eqO; rw [if_pos HE.out]
      refine ⟨by rw [hO, HE.out]; rfl, fun u hu => ?_, HB3.out⟩
      rw [hO] at hu
      exact HU3.out u hu)
  · have HE : Hid (ckE A B = 20 ∨ ckE A B = 80) := h3
    have HO : Hid (eqO A B (se A B) = none) := by
      show _ = _
      unfold eqO
      rw [if_neg (by rcases h3 with q | q <;> rw [q] <;> decide)]
    obtain ⟨c, hc⟩ : ∃ c, ckE A B = c := ⟨_, rfl⟩
    rw [hc]
    have HC : Hid (ckE A B = c) := hc
    rw [hc] at h3
    have hc0 : ¬ c = 0 := by omega
    have hd : decide (c = 0) = false := decide_eq_false hc0
    have hbn : (c != 0) = true := by simpa using hc0
    clear h3 hc HE
    go_wp2_with fail
    go_ret3
    exact ⟨by rw [HO.out, HC.out]; rfl, fun u hu => (by rw [HO.out] at hu; cases hu), HB1.out⟩

set_option maxHeartbeats 4000000 in
set_option maxRecDepth 100000 in
theorem eme_any (va vb : Value) (A B : Aut) (w : World) (ha : AR w va A) (hb : AR w vb B) (hm : A.nx.length ≤ 9223372036854775806) (hm2 : A.ac.length ≤ 9223372036854775806) (hm3 : B.nx.length ≤ 9223372036854775806) (hm4 : B.ac.length ≤ 9223372036854775806) :
    Calls Try.prog 21 #[va, vb] w (EqQ A B (sm A B) (A.ac.length * B.ac.length + 1) w) := by
  have HARa : Hid (∀ y, Below w.heap.size w y → AR y va A) := fun y hy => ha.stay hy
  have HARb : Hid (∀ y, Below w.heap.size w y → AR y vb B) := fun y hy => hb.stay hy
  have HCK : Hid (∀ y, Below w.heap.size w y → Calls Try.prog 35 #[va, vb] y fun e w' => e = .returned (.int .i64 (ckE A B)) ∧ Below y.heap.size y w') := fun y hy => echeck_any va vb A B y (ha.stay hy) (hb.stay hy) hm hm2 hm3 hm4
  obtain ⟨an, cn, aa, ca, e1, _, _⟩ := ha.is
  obtain ⟨bn, dn, ba, da, e2, _, _⟩ := hb.is
  obtain ⟨V, hV⟩ : ∃ V, V = (w.alloc (.cells #[.int .i64 A.k, .slice an A.nx.length cn, .slice aa A.ac.length ca] 25)).alloc (.cells #[.int .i64 B.k, .slice bn B.nx.length dn, .slice ba B.ac.length da] 25) := ⟨_, rfl⟩
  have HVE : Hid (V = (w.alloc (.cells #[.int .i64 A.k, .slice an A.nx.length cn, .slice aa A.ac.length ca] 25)).alloc (.cells #[.int .i64 B.k, .slice bn B.nx.length dn, .slice ba B.ac.length da] 25)) := hV
  have HBV : Hid (Below w.heap.size w V) := by show Below _ _ _; rw [hV]; exact go_on (below_new _ _) (below_new _ _)
  have HR1 : Hid (RowAt V w.heap.size #[.int .i64 A.k, .slice an A.nx.length cn, .slice aa A.ac.length ca]) := by show RowAt _ _ _; rw [hV]; exact (RowAt.last _ _ _).alloc _
  have HR2 : Hid (RowAt V (w.heap.size + 1) #[.int .i64 B.k, .slice bn B.nx.length dn, .slice ba B.ac.length da]) := by
    have := RowAt.last (w.alloc (.cells #[.int .i64 A.k, .slice an A.nx.length cn, .slice aa A.ac.length ca] 25)) #[.int .i64 B.k, .slice bn B.nx.length dn, .slice ba B.ac.length da] 25
    rw [World.size_alloc] at this
    show RowAt _ _ _; rw [hV]; exact this
  have HVS : Hid (V.heap.size = w.heap.size + 2) := by show _ = _; rw [hV]; simp
  subst e1
  subst e2
  clear ha hb hV
  go_enter Try.func21, Try.ntmps21
  go_wp2_with fail
  rw [← HVE.out]
  refine (HCK.out V HBV.out).mono ?_
  rintro e w1 ⟨rfl, hb1⟩
  have HB1 : Hid (Below w.heap.size w w1) := go_on HBV.out hb1
  have cs1 := (HR1.out.stay hb1).cell
  have cs2 := (HR2.out.stay hb1).cell
  have HS1 : Hid ((∀ o, w1.cell? ⟨w.heap.size, o, none⟩ = (#[.int .i64 A.k, .slice an A.nx.length cn, .slice aa A.ac.length ca] : Array Value)[o]?) ∧ (∀ o, w1.cell? ⟨w.heap.size + 1, o, none⟩ = (#[.int .i64 B.k, .slice bn B.nx.length dn, .slice ba B.ac.length da] : Array Value)[o]?)) := ⟨cs1, cs2⟩
  have hl0 : w.heap.size + 2 ≤ w1.heap.size := by have := hb1.size; have := HVS.out; omega
  have hl1 : w.heap.size < w1.heap.size := by omega
  have hl2 : w.heap.size + 1 < w1.heap.size := by omega
  clear hb1 HCK hl0
  have hcs : (Good A ∧ Good B ∧ A.k = B.k ∧ ckE A B = 0) ∨ (ckE A B = 20 ∨ ckE A B = 80) := by
    rcases ckE_cases A B with ⟨g1, g2, hk, _, _, h3⟩ | ⟨_, _, _, h3⟩ | ⟨_, h3⟩ | ⟨_, _, h3⟩
    · exact .inl ⟨g1, g2, hk, h3⟩
    · exact .inr (.inl h3)
    · exact .inr (.inr h3)
    · exact .inr (.inr h3)
  rcases hcs with ⟨g1, g2, hk, h3⟩ | h3
  · have HE : Hid (ckE A B = 0) := h3
    have HG : Hid (Good A ∧ Good B ∧ A.k = B.k) := ⟨g1, g2, hk⟩
    have hn1 := g1.n1
    have hn2 := g1.n2
    have hm2' := g2.n2
    rw [h3]
    clear g1 g2 hk h3
    go_wp2_with fail
    have HBW : Hid (Below w1.heap.size w1 w1.drew) := (Below.refl _ _).drew
    have HPT : Hid (Calls Try.prog 39 #[] w1.drew fun e y1 => ∃ fv, e = .returned fv ∧ Calls Try.prog 36 #[(.agg #[.int .i64 A.k, .slice an A.nx.length cn, .slice aa A.ac.length ca]), (.agg #[.int .i64 B.k, .slice bn B.nx.length dn, .slice ba B.ac.length da]), fv, .func (.func 41) #[] #[]] y1 (fun e w' => e = .returned (.tuple #[.string (apS (lsh (dd A B) A.k.toNat (sm A B) (0, 0))), .bool (apF (lsh (dd A B) A.k.toNat (sm A B) (0, 0)))]) ∧ (∀ u, lsh (dd A B) A.k.toNat (sm A B) (0, 0) = some u → u.length + 1 < (A.ac.length * B.ac.length + 1)) ∧ Below w1.heap.size w1 w') ∧ Below w1.drew.heap.size w1.drew y1) := by
      refine (unmet_any w1.drew).mono ?_
      rintro e w2 ⟨mb, mo, tb, O, rfl, hF, hO, hb2⟩
      refine ⟨_, rfl, ?_, hb2⟩
      have hbb : Below w1.heap.size w1 w2 := go_on HBW.out hb2
      refine Calls.mono (least_any (fun P O w => FU mb mo tb P O w) dU 58 41 _ _ (fun p q => p && q) A B (FU.frs mb mo tb A.ac.length B.ac.length hn2 hm2') w2 w1.heap.size hb2.size O hF hO _ _ (fun z hz => HARa.out z (HB1.out.trans ((hbb.trans hz).mono HB1.out.size))) (fun z hz => HARb.out z (HB1.out.trans ((hbb.trans hz).mono HB1.out.size))) HG.out.1 HG.out.2.1 HG.out.2.2.symm (fun _ _ => rfl) (fun _ _ => rfl) meet1_any (sm A B) (fun _ _ => rfl) (fun P p h1 h2 h3 h4 => unmet_cov P p h1 h2 h3 h4) (fun P h => by have := unmet_len P h; have := Nat.mul_le_mul hn2 hm2'; omega)) ?_
      rintro e w3 ⟨rfl, hu3, hb3⟩
      refine ⟨rfl, fun u hu => ?_, hbb.trans hb3⟩
      obtain ⟨P, hP, hl⟩ := hu3 u hu
      have := unmet_len P hP
      omega
    have KK : Hid (∀ y, Below w1.heap.size w1 y → (∀ o, y.cell? ⟨w.heap.size, o, none⟩ = (#[.int .i64 A.k, .slice an A.nx.length cn, .slice aa A.ac.length ca] : Array Value)[o]?) ∧ (∀ o, y.cell? ⟨w.heap.size + 1, o, none⟩ = (#[.int .i64 B.k, .slice bn B.nx.length dn, .slice ba B.ac.length da] : Array Value)[o]?) ∧ Below w1.heap.size w1 y) := fun y hy => ⟨fun o => (below_cell hy hl1).trans (HS1.out.1 o), fun o => (below_cell hy hl2).trans (HS1.out.2 o), hy⟩
    have S0 : (∀ o, w1.drew.cell? ⟨w.heap.size, o, none⟩ = (#[.int .i64 A.k, .slice an A.nx.length cn, .slice aa A.ac.length ca] : Array Value)[o]?) ∧ (∀ o, w1.drew.cell? ⟨w.heap.size + 1, o, none⟩ = (#[.int .i64 B.k, .slice bn B.nx.length dn, .slice ba B.ac.length da] : Array Value)[o]?) ∧ Below w1.heap.size w1 w1.drew := KK.out w1.drew HBW.out
    clear cs1 cs2
    go_region_held3 (fun y => (∀ o, y.cell? ⟨w.heap.size, o, none⟩ = (#[.int .i64 A.k, .slice an A.nx.length cn, .slice aa A.ac.length ca] : Array Value)[o]?) ∧ (∀ o, y.cell? ⟨w.heap.size + 1, o, none⟩ = (#[.int .i64 B.k, .slice bn B.nx.length dn, .slice ba B.ac.length da] : Array Value)[o]?) ∧ Below w1.heap.size w1 y) (first | exact S0 | assumption | exact KK.out _ (by assumption) | exact KK.out _ (go_on HBW.out (by assumption))) (first
      | (go_at_call 36; refine HLS.out.mono ?_; rintro e y3 ⟨rfl, hu3, hb3⟩; have HU3 : Hid (∀ u, lsh (dd A B) A.k.toNat (sm A B) (0, 0) = some u → u.length + 1 < (A.ac.length * B.ac.length + 1)) := hu3; have HB3 : Hid (Below w.heap.size w y3) := (HB1.out.trans (hb3.mono HB1.out.size)); clear hu3)
      | (go_at_call 39; refine HPT.out.mono ?_; rintro e y1 ⟨fv, rfl, hls, hy1⟩; have HLS : Hid (Calls Try.prog 36 #[(.agg #[.int .i64 A.k, .slice an A.nx.length cn, .slice aa A.ac.length ca]), (.agg #[.int .i64 B.k, .slice bn B.nx.length dn, .slice ba B.ac.length da]), fv, .func (.func 41) #[] #[]] y1 (fun e w' => e = .returned (.tuple #[.string (apS (lsh (dd A B) A.k.toNat (sm A B) (0, 0))), .bool (apF (lsh (dd A B) A.k.toNat (sm A B) (0, 0)))]) ∧ (∀ u, lsh (dd A B) A.k.toNat (sm A B) (0, 0) = some u → u.length + 1 < (A.ac.length * B.ac.length + 1)) ∧ Below w1.heap.size w1 w')) := hls; clear hls))
    all_goals (
      clear S0
      go_wp2_with fail
      go_ret3
      have hO : eqO A B (sm A B) = lsh (dd A B) A.k.toNat (sm A B) (0, 0) := by unfold eqO; rw [if_pos HE.out]
      refine ⟨by rw [hO, HE.out]; rfl, fun u hu => ?_, HB3.out⟩
      rw [hO] at hu
      exact HU3.out u hu)
  · have HE : Hid (ckE A B = 20 ∨ ckE A B = 80) := h3
    have HO : Hid (eqO A B (sm A B) = none) := by
      show _ = _
      unfold eqO
      rw [if_neg (by rcases h3 with q | q <;> rw [q] <;> decide)]
    obtain ⟨c, hc⟩ : ∃ c, ckE A B = c := ⟨_, rfl⟩
    rw [hc]
    have HC : Hid (ckE A B = c) := hc
    rw [hc] at h3
    have hc0 : ¬ c = 0 := by omega
    have hd : decide (c = 0) = false := decide_eq_false hc0
    have hbn : (c != 0) = true := by simpa using hc0
    clear h3 hc HE
    go_wp2_with fail
    go_ret3
    exact ⟨by rw [HO.out, HC.out]; rfl, fun u hu => (by rw [HO.out] at hu; cases hu), HB1.out⟩
end Go.Proofs.Ytceoceecgekkjaa
