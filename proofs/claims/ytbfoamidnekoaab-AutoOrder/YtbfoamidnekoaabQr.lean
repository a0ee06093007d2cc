/- auto's products: product, Both, Either, But. -/
import Derived.Test.YtbfoamidnekoaabQp
import Derived.Test.YtbfoamidnekoaabQq
namespace Go.Proofs.Ytbfoamidnekoaab
open Go Go.RowKit Go.Lib Go.Maps
set_option linter.unusedVariables false
attribute [-instance] instBEqProd

/-- The product's automaton and error. -/
noncomputable def prA (f : Bool → Bool → Bool) (A B : Aut) : Aut := if twE A B = 0 then (match bfs (dP A B) A.k.toNat (0, 0) with
  | some (m, n) => ⟨A.k, n.map fun (x : Nat) => (x : Int), m.map fun s => f (aN A s.1) (aN B s.2)⟩
  | none => zAut) else zAut
noncomputable def prE (A B : Aut) : Int := if twE A B = 0 then (match bfs (dP A B) A.k.toNat (0, 0) with
  | some _ => 0
  | none => 81) else twE A B
theorem twE_zero {A B : Aut} (h : twE A B = 0) : Good A ∧ Good B ∧ A.k = B.k := by
  unfold twE at h
  rcases chkA_cases A with ⟨hG, hc⟩ | ⟨hG, hc⟩
  · rcases chkA_cases B with ⟨hG2, hc2⟩ | ⟨hG2, hc2⟩
    · refine ⟨hG, hG2, ?_⟩
      rw [if_pos hc, if_pos hc2] at h
      split at h
      · assumption
      · cases h
    · rw [if_pos hc, if_neg (by rw [hc2]; decide)] at h
      cases h
  · rw [if_neg (by rw [hc]; decide)] at h
    cases h
theorem sq_pr {f : Bool → Bool → Bool} {A B : Aut} (h0 : twE A B = 0) {w : World} {e : Ending} {w' : World} (h : SQ (bfs (dP A B) A.k.toNat (0, 0)) A.k.toNat (fun s => f (aN A s.1) (aN B s.2)) w e w') : FQ (prA f A B) (prE A B) w e w' := by
  have G := (twE_zero h0).1
  rcases h with ⟨h, he, hb⟩ | ⟨m, n, vn, va, h, he, h1, h2, h3⟩
  · unfold prA prE
    rw [if_pos h0, if_pos h0, h]
    exact ⟨_, he, AO.zero _ _, hb⟩
  · unfold prA prE
    rw [if_pos h0, if_pos h0, h]
    rw [G.kn.2.2] at he
    obtain ⟨an, cn, rfl⟩ := own_shape h1
    obtain ⟨aa, ca, rfl⟩ := own_shape h2
    refine ⟨_, he, ⟨an, cn, aa, ca, ?_, ?_, ?_⟩, h3⟩
    · simp
    · simpa [nC_zC] using h1
    · simpa using h2

set_option maxHeartbeats 4000000 in
set_option maxRecDepth 100000 in
theorem product_any (v1 v2 : Value) (A B : Aut) (w : World) (F : Nat) (f : Bool → Bool → Bool) (h1 : AR w v1 A) (h2 : AR w v2 B) (hm : A.nx.length ≤ 9223372036854775806) (hm2 : A.ac.length ≤ 9223372036854775806) (hm3 : B.nx.length ≤ 9223372036854775806) (hm4 : B.ac.length ≤ 9223372036854775806) (eF : ∀ args w, (callFunc F args).run Try.prog w = .ok (.enter F args) w)
    (hF : ∀ x z y, Calls Try.prog F #[.bool x, .bool z] y fun e w' => e = .returned (.bool (f x z)) ∧ Below y.heap.size y w') :
    Calls Try.prog 35 #[v1, v2, .func (.func F) #[] #[]] w (FQ (prA f A B) (prE A B) w) := by
  obtain ⟨an, cn, aa, ca, e1, k1, k2⟩ := h1.is
  obtain ⟨bn, dn, ba, da, e2, k3, k4⟩ := h2.is
  have HK2 : Hid (∀ y, Below w.heap.size w y → SR y aa (bC A.ac)) := fun y hy => k2.stay hy
  have HK4 : Hid (∀ y, Below w.heap.size w y → SR y ba (bC B.ac)) := fun y hy => k4.stay hy
  have HA : Hid (∀ y, Below w.heap.size w y → AR y v1 A) := fun y hy => h1.stay hy
  have HB : Hid (∀ y, Below w.heap.size w y → AR y v2 B) := fun y hy => h2.stay hy
  have HC : Hid (∀ y, Below w.heap.size w y → Calls Try.prog 46 #[v1, v2] y fun e w' => e = .returned (.int .i64 (twE A B)) ∧ Below y.heap.size y w') := fun y hy => checkTwo_any v1 v2 A B y (h1.stay hy) (h2.stay hy) hm hm2 hm3 hm4
  have HF : Hid (∀ x z y, Calls Try.prog F #[.bool x, .bool z] y fun e w' => e = .returned (.bool (f x z)) ∧ Below y.heap.size y w') := hF
  have HEF : Hid (∀ args w, (callFunc F args).run Try.prog w = .ok (.enter F args) w) := eF
  subst e1 e2
  clear h1 h2 k1 k2 k3 k4 hF eF
  obtain ⟨W, hW⟩ : ∃ W, W = (((w.alloc (.cells #[.int .i64 A.k, .slice an A.nx.length cn, .slice aa A.ac.length ca] 25)).alloc (.cells #[.int .i64 B.k, .slice bn B.nx.length dn, .slice ba B.ac.length da] 25)).alloc (.cells #[.func (.func F) #[] #[]] 58)).alloc (.cells #[.int .i64 0, .slice none 0 0, .slice none 0 0] 25) := ⟨_, rfl⟩
  have HWE : Hid (W = (((w.alloc (.cells #[.int .i64 A.k, .slice an A.nx.length cn, .slice aa A.ac.length ca] 25)).alloc (.cells #[.int .i64 B.k, .slice bn B.nx.length dn, .slice ba B.ac.length da] 25)).alloc (.cells #[.func (.func F) #[] #[]] 58)).alloc (.cells #[.int .i64 0, .slice none 0 0, .slice none 0 0] 25)) := hW
  have HBW : Hid (Below w.heap.size w W) := by show Below _ _ _; rw [hW]; exact go_on (go_on (go_on (below_new _ _) (below_new _ _)) (below_new _ _)) (below_new _ _)
  have HR1 : Hid (RowAt W w.heap.size #[.int .i64 A.k, .slice an A.nx.length cn, .slice aa A.ac.length ca]) := by show RowAt _ _ _; rw [hW]; exact (((RowAt.last _ _ _).alloc _).alloc _).alloc _
  have HR2 : Hid (RowAt W (w.heap.size + 1) #[.int .i64 B.k, .slice bn B.nx.length dn, .slice ba B.ac.length da]) := by
    show RowAt _ _ _
    rw [hW]
    have := RowAt.last (w.alloc (.cells #[.int .i64 A.k, .slice an A.nx.length cn, .slice aa A.ac.length ca] 25)) #[.int .i64 B.k, .slice bn B.nx.length dn, .slice ba B.ac.length da] 25
    exact ((by simpa using this : RowAt _ (w.heap.size + 1) _).alloc _).alloc _
  have HR3 : Hid (RowAt W (w.heap.size + 1 + 1) #[.func (.func F) #[] #[]]) := by
    show RowAt _ _ _
    rw [hW]
    have := RowAt.last ((w.alloc (.cells #[.int .i64 A.k, .slice an A.nx.length cn, .slice aa A.ac.length ca] 25)).alloc (.cells #[.int .i64 B.k, .slice bn B.nx.length dn, .slice ba B.ac.length da] 25)) #[.func (.func F) #[] #[]] 58
    exact (by simpa using this : RowAt _ (w.heap.size + 1 + 1) _).alloc _
  have HRES : Hid (W.heap[w.heap.size + 1 + 1 + 1]? = some (.cells #[.int .i64 0, .slice none 0 0, .slice none 0 0] 25 (0, 0))) := by
    show W.heap[w.heap.size + 1 + 1 + 1]? = _
    rw [hW]
    have := heap_alloc_last (((w.alloc (.cells #[.int .i64 A.k, .slice an A.nx.length cn, .slice aa A.ac.length ca] 25)).alloc (.cells #[.int .i64 B.k, .slice bn B.nx.length dn, .slice ba B.ac.length da] 25)).alloc (.cells #[.func (.func F) #[] #[]] 58)) (.cells #[.int .i64 0, .slice none 0 0, .slice none 0 0] 25)
    simpa using this
  clear hW
  go_enter Try.func35, Try.ntmps35
  go_wp2_with fail
  rw [← HWE.out]
  refine (HC.out _ HBW.out).mono ?_
  rintro e w1 ⟨rfl, hb1⟩
  have HB1 : Hid (Below W.heap.size W w1) := hb1
  have HBw : Hid (Below w.heap.size w w1) := go_on HBW.out hb1
  have hres1 := (hb1.block _ (Array.getElem?_eq_some_iff.1 HRES.out).1).trans HRES.out
  have HR : Hid (w1.heap[w.heap.size + 1 + 1 + 1]? = some (.cells #[.int .i64 0, .slice none 0 0, .slice none 0 0] 25 (0, 0))) := hres1
  have hr0 : w1.cell? ⟨w.heap.size + 1 + 1 + 1, 0, none⟩ = some (.int .i64 0) := cell_of hres1
  have hr1 : w1.cell? ⟨w.heap.size + 1 + 1 + 1, 1, none⟩ = some (.slice none 0 0) := cell_of hres1
  have hr2 : w1.cell? ⟨w.heap.size + 1 + 1 + 1, 2, none⟩ = some (.slice none 0 0) := cell_of hres1
  have hf : ∀ j, w1.frozen? ⟨w.heap.size + 1 + 1 + 1, j, none⟩ = false := fun j => froz_of hres1
  have cs := (HR1.out.stay hb1).cell
  by_cases h0 : twE A B = 0
  · rw [h0]
    obtain ⟨G1, G2, hk⟩ := twE_zero h0
    have HSE : Hid (∀ y, Below w1.heap.size w1 y → Calls Try.prog 48 #[.int .i64 A.k, prV (0, 0), .func (.func 47) #[] #[.pointer (some ⟨w.heap.size, 0, none⟩), .pointer (some ⟨w.heap.size + 1, 0, none⟩)], .func (.func 49) #[] #[.pointer (some ⟨w.heap.size + 1 + 1, 0, none⟩), .pointer (some ⟨w.heap.size, 0, none⟩), .pointer (some ⟨w.heap.size + 1, 0, none⟩)]] y (FQ (prA f A B) (prE A B) y)) := fun y hy => by
      have hyW := go_on HB1.out hy
      have hyw := go_on HBw.out hy
      have q := search_pair y A.k.toNat (0, 0) 47 49 #[.pointer (some ⟨w.heap.size, 0, none⟩), .pointer (some ⟨w.heap.size + 1, 0, none⟩)] #[.pointer (some ⟨w.heap.size + 1 + 1, 0, none⟩), .pointer (some ⟨w.heap.size, 0, none⟩), .pointer (some ⟨w.heap.size + 1, 0, none⟩)] ⟨G1.kn.1, G1.kn.2.1⟩ (fun s => s.1 < A.ac.length ∧ s.2 < B.ac.length) (dP A B) (fun s => f (aN A s.1) (aN B s.2)) ⟨by have := G1.n1; show 0 < _; omega, by have := G2.n1; show 0 < _; omega⟩ (fun s c hs hc => ⟨(G1.at hs.1 (by have := G1.kn; omega)).2.2, (G2.at hs.2 (by have := G1.kn; rw [← hk]; omega)).2.2⟩) (fun s hs => by have := G1.n2; have := G2.n2; constructor <;> omega) (fun _ _ => rfl) (fun _ _ => rfl)
        (fun y1 s c hb hs hc => product1_any A B y1 _ _ an aa bn ba cn ca dn da (HA.out _ (go_on hyw hb)) (HB.out _ (go_on hyw hb)) (HR1.out.stay (go_on hyW hb)) (HR2.out.stay (go_on hyW hb)) G1 G2 s c hs.1 hs.2 (by have := G1.kn; omega) (by have := G1.kn; rw [← hk]; omega))
        (fun y1 s hb hs => product2_any A B y1 _ _ _ an aa bn ba cn ca dn da F f (HK2.out _ (go_on hyw hb)) (HK4.out _ (go_on hyw hb)) (HR1.out.stay (go_on hyW hb)) (HR2.out.stay (go_on hyW hb)) (HR3.out.stay (go_on hyW hb)) s hs.1 hs.2 HEF.out HF.out)
      rw [G1.kn.2.2] at q
      exact q.mono fun e w' hq => sq_pr h0 hq
    clear G1 G2 hk hres1 hb1 h0
    go_wp2_with fail
    refine (HSE.out _ (Below.refl _ _)).mono ?_
    rintro e w3 ⟨v', rfl, hao, hb3⟩
    obtain ⟨P, hP⟩ : ∃ P, prA f A B = P := ⟨_, rfl⟩
    obtain ⟨E, hE⟩ : ∃ E, prE A B = E := ⟨_, rfl⟩
    rw [hP] at hao
    rw [hE]
    have HPE : Hid (prA f A B = P ∧ prE A B = E) := ⟨hP, hE⟩
    have hres3 := (hb3.block _ (Array.getElem?_eq_some_iff.1 HR.out).1).trans HR.out
    obtain ⟨rn, rcn, ra, rca, rfl, o1, o2⟩ := hao
    obtain ⟨f1, f2, f3⟩ := res_done (B := P) (base := w.heap.size) (w0 := w) (x0 := .int .i64 P.k) (x1 := .slice rn P.nx.length rcn) (x2 := .slice ra P.ac.length rca) hres3 ⟨rn, rcn, ra, rca, rfl, own_mono o1 HBw.out.size, own_mono o2 HBw.out.size⟩ (go_on HBw.out hb3) (by omega)
    have hs0 : w3.cell? ⟨w.heap.size + 1 + 1 + 1, 0, none⟩ = some (.int .i64 0) := cell_of hres3
    have hs1 : w3.cell? ⟨w.heap.size + 1 + 1 + 1, 1, none⟩ = some (.slice none 0 0) := cell_of hres3
    have hs2 : w3.cell? ⟨w.heap.size + 1 + 1 + 1, 2, none⟩ = some (.slice none 0 0) := cell_of hres3
    have hsf : ∀ j, w3.frozen? ⟨w.heap.size + 1 + 1 + 1, j, none⟩ = false := fun j => froz_of hres3
    have F1 : Hid _ := f1
    have F2 : Hid _ := f2
    have F3 : Hid _ := f3
    clear o1 o2 hb3 hres3 f1 f2 f3 hr0 hr1 hr2 hf cs HSE hP hE
    go_wp2_with fail
    refine bodyPost_ret (results_auto rfl rfl F1.out rfl) rfl ⟨.agg #[.int .i64 P.k, .slice rn P.nx.length rcn, .slice ra P.ac.length rca], ?_, ?_, F3.out⟩
    · rw [HPE.out.2]; rfl
    · rw [HPE.out.1]; exact F2.out
  · have HA0 : Hid (prA f A B = zAut) := by show _ = _; unfold prA; rw [if_neg h0]
    have HE0 : Hid (prE A B = twE A B) := by show _ = _; unfold prE; rw [if_neg h0]
    obtain ⟨E, hE⟩ : ∃ E, twE A B = E := ⟨_, rfl⟩
    rw [hE] at HE0 h0 ⊢
    obtain ⟨f1, f2, f3⟩ := res_done (B := zAut) (base := w.heap.size) (w0 := w) hres1 (AO.zero _ _) HBw.out (by omega)
    have F1 : Hid _ := f1
    have F2 : Hid _ := f2
    have F3 : Hid _ := f3
    clear hres1 hb1 f1 f2 f3 hE cs
    go_wp2_with fail
    refine bodyPost_ret (results_auto rfl rfl F1.out rfl) rfl ⟨.agg #[.int .i64 0, .slice none 0 0, .slice none 0 0], ?_, ?_, F3.out⟩
    · rw [HE0.out]; rfl
    · rw [HA0.out]; exact F2.out

set_option maxHeartbeats 1000000 in
set_option maxRecDepth 100000 in
theorem both1_any (x z : Bool) (y : World) : Calls Try.prog 36 #[.bool x, .bool z] y fun e w' => e = .returned (.bool (x && z)) ∧ Below y.heap.size y w' := by
  go_enter Try.func36, Try.ntmps36
  cases x <;> cases z <;> (
    go_wp2_with fail
    go_ret
    exact ⟨rfl, Below.refl _ _⟩)

set_option maxHeartbeats 2000000 in
set_option maxRecDepth 100000 in
theorem both_any (v1 v2 : Value) (A B : Aut) (w : World) (h1 : AR w v1 A) (h2 : AR w v2 B) (hm : A.nx.length ≤ 9223372036854775806) (hm2 : A.ac.length ≤ 9223372036854775806) (hm3 : B.nx.length ≤ 9223372036854775806) (hm4 : B.ac.length ≤ 9223372036854775806) :
    Calls Try.prog 16 #[v1, v2] w (FQ (prA (fun x z => x && z) A B) (prE A B) w) := by
  obtain ⟨an, cn, aa, ca, e1, _, _⟩ := h1.is
  obtain ⟨bn, dn, ba, da, e2, _, _⟩ := h2.is
  have HP : Hid (∀ y, Below w.heap.size w y → Calls Try.prog 35 #[v1, v2, .func (.func 36) #[] #[]] y (FQ (prA (fun x z => x && z) A B) (prE A B) y)) := fun y hy => product_any v1 v2 A B y _ _ (h1.stay hy) (h2.stay hy) hm hm2 hm3 hm4 (fun _ _ => rfl) both1_any
  subst e1 e2
  clear h1 h2
  obtain ⟨W, hW⟩ : ∃ W, W = ((w.alloc (.cells #[.int .i64 A.k, .slice an A.nx.length cn, .slice aa A.ac.length ca] 25)).alloc (.cells #[.int .i64 B.k, .slice bn B.nx.length dn, .slice ba B.ac.length da] 25)).alloc (.cells #[.int .i64 0, .slice none 0 0, .slice none 0 0] 25) := ⟨_, rfl⟩
  have HWE : Hid (W = ((w.alloc (.cells #[.int .i64 A.k, .slice an A.nx.length cn, .slice aa A.ac.length ca] 25)).alloc (.cells #[.int .i64 B.k, .slice bn B.nx.length dn, .slice ba B.ac.length da] 25)).alloc (.cells #[.int .i64 0, .slice none 0 0, .slice none 0 0] 25)) := hW
  have HBW : Hid (Below w.heap.size w W) := by show Below _ _ _; rw [hW]; exact go_on (go_on (below_new _ _) (below_new _ _)) (below_new _ _)
  have HRES : Hid (W.heap[w.heap.size + 1 + 1]? = some (.cells #[.int .i64 0, .slice none 0 0, .slice none 0 0] 25 (0, 0))) := by
    show W.heap[w.heap.size + 1 + 1]? = _
    rw [hW]
    have := heap_alloc_last ((w.alloc (.cells #[.int .i64 A.k, .slice an A.nx.length cn, .slice aa A.ac.length ca] 25)).alloc (.cells #[.int .i64 B.k, .slice bn B.nx.length dn, .slice ba B.ac.length da] 25)) (.cells #[.int .i64 0, .slice none 0 0, .slice none 0 0] 25)
    simpa using this
  clear hW
  obtain ⟨P, hP⟩ : ∃ P, prA (fun x z => x && z) A B = P := ⟨_, rfl⟩
  obtain ⟨E, hE⟩ : ∃ E, prE A B = E := ⟨_, rfl⟩
  rw [hP, hE] at HP ⊢
  clear hP hE
  go_enter Try.func16, Try.ntmps16
  go_wp2_with fail
  rw [← HWE.out]
  refine (HP.out _ HBW.out).mono ?_
  rintro e w3 ⟨v', rfl, hao, hb3⟩
  have hres3 := (hb3.block _ (Array.getElem?_eq_some_iff.1 HRES.out).1).trans HRES.out
  obtain ⟨rn, rcn, ra, rca, rfl, o1, o2⟩ := hao
  obtain ⟨f1, f2, f3⟩ := res_done (B := P) (base := w.heap.size) (w0 := w) (x0 := .int .i64 P.k) (x1 := .slice rn P.nx.length rcn) (x2 := .slice ra P.ac.length rca) hres3 ⟨rn, rcn, ra, rca, rfl, own_mono o1 HBW.out.size, own_mono o2 HBW.out.size⟩ (go_on HBW.out hb3) (by omega)
  have hs0 : w3.cell? ⟨w.heap.size + 1 + 1, 0, none⟩ = some (.int .i64 0) := cell_of hres3
  have hs1 : w3.cell? ⟨w.heap.size + 1 + 1, 1, none⟩ = some (.slice none 0 0) := cell_of hres3
  have hs2 : w3.cell? ⟨w.heap.size + 1 + 1, 2, none⟩ = some (.slice none 0 0) := cell_of hres3
  have hsf : ∀ j, w3.frozen? ⟨w.heap.size + 1 + 1, j, none⟩ = false := fun j => froz_of hres3
  have F1 : Hid _ := f1
  have F2 : Hid _ := f2
  have F3 : Hid _ := f3
  clear o1 o2 hb3 hres3 f1 f2 f3 HWE
  go_wp2_with fail
  exact bodyPost_ret (results_auto rfl rfl F1.out rfl) rfl ⟨_, rfl, F2.out, F3.out⟩

set_option maxHeartbeats 1000000 in
set_option maxRecDepth 100000 in
theorem either1_any (x z : Bool) (y : World) : Calls Try.prog 37 #[.bool x, .bool z] y fun e w' => e = .returned (.bool (x || z)) ∧ Below y.heap.size y w' := by
  go_enter Try.func37, Try.ntmps37
  cases x <;> cases z <;> (
    go_wp2_with fail
    go_ret
    exact ⟨rfl, Below.refl _ _⟩)

set_option maxHeartbeats 2000000 in
set_option maxRecDepth 100000 in
theorem either_any (v1 v2 : Value) (A B : Aut) (w : World) (h1 : AR w v1 A) (h2 : AR w v2 B) (hm : A.nx.length ≤ 9223372036854775806) (hm2 : A.ac.length ≤ 9223372036854775806) (hm3 : B.nx.length ≤ 9223372036854775806) (hm4 : B.ac.length ≤ 9223372036854775806) :
    Calls Try.prog 17 #[v1, v2] w (FQ (prA (fun x z => x || z) A B) (prE A B) w) := by
  obtain ⟨an, cn, aa, ca, e1, _, _⟩ := h1.is
  obtain ⟨bn, dn, ba, da, e2, _, _⟩ := h2.is
  have HP : Hid (∀ y, Below w.heap.size w y → Calls Try.prog 35 #[v1, v2, .func (.func 37) #[] #[]] y (FQ (prA (fun x z => x || z) A B) (prE A B) y)) := fun y hy => product_any v1 v2 A B y _ _ (h1.stay hy) (h2.stay hy) hm hm2 hm3 hm4 (fun _ _ => rfl) either1_any
  subst e1 e2
  clear h1 h2
  obtain ⟨W, hW⟩ : ∃ W, W = ((w.alloc (.cells #[.int .i64 A.k, .slice an A.nx.length cn, .slice aa A.ac.length ca] 25)).alloc (.cells #[.int .i64 B.k, .slice bn B.nx.length dn, .slice ba B.ac.length da] 25)).alloc (.cells #[.int .i64 0, .slice none 0 0, .slice none 0 0] 25) := ⟨_, rfl⟩
  have HWE : Hid (W = ((w.alloc (.cells #[.int .i64 A.k, .slice an A.nx.length cn, .slice aa A.ac.length ca] 25)).alloc (.cells #[.int .i64 B.k, .slice bn B.nx.length dn, .slice ba B.ac.length da] 25)).alloc (.cells #[.int .i64 0, .slice none 0 0, .slice none 0 0] 25)) := hW
  have HBW : Hid (Below w.heap.size w W) := by show Below _ _ _; rw [hW]; exact go_on (go_on (below_new _ _) (below_new _ _)) (below_new _ _)
  have HRES : Hid (W.heap[w.heap.size + 1 + 1]? = some (.cells #[.int .i64 0, .slice none 0 0, .slice none 0 0] 25 (0, 0))) := by
    show W.heap[w.heap.size + 1 + 1]? = _
    rw [hW]
    have := heap_alloc_last ((w.alloc (.cells #[.int .i64 A.k, .slice an A.nx.length cn, .slice aa A.ac.length ca] 25)).alloc (.cells #[.int .i64 B.k, .slice bn B.nx.length dn, .slice ba B.ac.length da] 25)) (.cells #[.int .i64 0, .slice none 0 0, .slice none 0 0] 25)
    simpa using this
  clear hW
  obtain ⟨P, hP⟩ : ∃ P, prA (fun x z => x || z) A B = P := ⟨_, rfl⟩
  obtain ⟨E, hE⟩ : ∃ E, prE A B = E := ⟨_, rfl⟩
  rw [hP, hE] at HP ⊢
  clear hP hE
  go_enter Try.func17, Try.ntmps17
  go_wp2_with fail
  rw [← HWE.out]
  refine (HP.out _ HBW.out).mono ?_
  rintro e w3 ⟨v', rfl, hao, hb3⟩
  have hres3 := (hb3.block _ (Array.getElem?_eq_some_iff.1 HRES.out).1).trans HRES.out
  obtain ⟨rn, rcn, ra, rca, rfl, o1, o2⟩ := hao
  obtain ⟨f1, f2, f3⟩ := res_done (B := P) (base := w.heap.size) (w0 := w) (x0 := .int .i64 P.k) (x1 := .slice rn P.nx.length rcn) (x2 := .slice ra P.ac.length rca) hres3 ⟨rn, rcn, ra, rca, rfl, own_mono o1 HBW.out.size, own_mono o2 HBW.out.size⟩ (go_on HBW.out hb3) (by omega)
  have hs0 : w3.cell? ⟨w.heap.size + 1 + 1, 0, none⟩ = some (.int .i64 0) := cell_of hres3
  have hs1 : w3.cell? ⟨w.heap.size + 1 + 1, 1, none⟩ = some (.slice none 0 0) := cell_of hres3
  have hs2 : w3.cell? ⟨w.heap.size + 1 + 1, 2, none⟩ = some (.slice none 0 0) := cell_of hres3
  have hsf : ∀ j, w3.frozen? ⟨w.heap.size + 1 + 1, j, none⟩ = false := fun j => froz_of hres3
  have F1 : Hid _ := f1
  have F2 : Hid _ := f2
  have F3 : Hid _ := f3
  clear o1 o2 hb3 hres3 f1 f2 f3 HWE
  go_wp2_with fail
  exact bodyPost_ret (results_auto rfl rfl F1.out rfl) rfl ⟨_, rfl, F2.out, F3.out⟩

end Go.Proofs.Ytbfoamidnekoaab
